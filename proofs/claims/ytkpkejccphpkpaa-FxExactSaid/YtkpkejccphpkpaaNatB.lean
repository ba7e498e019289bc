/-
  The references' whole numbers: limbs of 64 bits in digits of 32, and back.
-/
import Derived.Test.YtkpkejccphpkpaaNatA
import Derived.OwnWalk
import Derived.Laws.AppendOwn
import Derived.Deep.RegionHeld3
import Derived.Deep.AppendLies
namespace Go.Proofs.Ytkpkejccphpkpaa
open Go.RowKit

/-- Limbs in digits of 32 bits. -/
def split2 : List Nat → List Nat
  | [] => []
  | x :: ls => x % 4294967296 :: x / 4294967296 :: split2 ls
theorem split2_length : ∀ ls : List Nat, (split2 ls).length = 2 * ls.length
  | [] => rfl
  | x :: ls => by simp [split2, split2_length ls]; omega
theorem split2_snoc : ∀ (ls : List Nat) (x : Nat), split2 (ls ++ [x]) = split2 ls ++ [x % 4294967296, x / 4294967296]
  | [], x => rfl
  | y :: ls, x => by simp [split2, split2_snoc ls x]
theorem take_snoc_getD (ls : List Nat) (i : Nat) (h : i < ls.length) : ls.take (i + 1) = ls.take i ++ [ls.getD i 0] := by
  rw [List.take_succ_eq_append_getElem h]; simp [List.getD, h]
theorem split2_val : ∀ ls : List Nat, (∀ x ∈ ls, x < 18446744073709551616) → lval 4294967296 (split2 ls) = lval 18446744073709551616 ls
  | [], _ => rfl
  | x :: ls, h => by
    have ih := split2_val ls (fun y hy => h y (List.mem_cons_of_mem _ hy))
    simp only [split2, lval, ih]
    omega

theorem own_far {w : World} {base : Nat} {e : TypeId} {size : Nat} {v : Value} {n : Nat} {xs : List Value} (h : w.ownsRow base e size v n xs) {b : Nat} (hb : b < base) : v.ownBlock ≠ some b := by
  rcases h.2 with ⟨rfl, _⟩ | ⟨g, cap, cur, rfl, hg, _⟩
  · simp [Value.ownBlock]
  · simp [Value.ownBlock]; omega
/-- What the call owns reads as its elements. -/
theorem own_rd {w : World} {base : Nat} {e : TypeId} {k : IntKind} {v : Value} {ls : List Nat} (h : w.ownsRow base e 1 v ls.length (ls.map fun x => Value.int k (x : Nat))) : Rd k w v ls := by
  obtain ⟨_, ⟨rfl, h0⟩ | ⟨g, cap, cur, rfl, _, hb, hc, _, _, ht⟩⟩ := h
  · exact .inl ⟨rfl, List.eq_nil_of_length_eq_zero h0⟩
  · have hlt : g < w.heap.size := by
      rcases Nat.lt_or_ge g w.heap.size with h | h
      · exact h
      · rw [Array.getElem?_eq_none h] at hb; cases hb
    refine .inr ⟨g, 0, cap, rfl, hc, hlt, fun i hi => ?_⟩
    rw [cell_of_row w g (0 + i) cur e (0, 0) hb, Nat.zero_add]
    have : (cur.toList.take (ls.length * 1))[i]? = some (Value.int k (ls.getD i 0 : Nat)) := by rw [ht]; simp [List.getD, hi]
    rw [List.getElem?_take] at this
    split at this
    · simpa using this
    · cases this

theorem info32 : (Try.prog.info? 138).map (fun i => (i.zero, i.size, i.bytes)) = some (some (.int .u32 0), 1, 4) := by kernel_rfl
theorem info64 : (Try.prog.info? 23).map (fun i => (i.zero, i.size, i.bytes)) = some (some (.int .u64 0), 1, 8) := by kernel_rfl
def SomeRd (k : IntKind) (w : World) (ls : List Nat) (e : Ending) (w' : World) : Prop := ∃ v, e = .returned v ∧ Rd k w' v ls ∧ Below w.heap.size w w'

set_option maxHeartbeats 4000000 in
/-- halves -/
theorem halves_at (b off cap : Nat) (ls : List Nat) (w : World) (hb : b < w.heap.size) (hx : ∀ x ∈ ls, x < 18446744073709551616) (hm : ls.length ≤ 1099511627776) (h : ∀ i, i < ls.length → w.cell? ⟨b, off + i, none⟩ = some (.int .u64 (ls.getD i 0 : Nat))) :
    Calls Try.prog 115 #[.slice (some ⟨b, off, none⟩) ls.length cap] w (SomeRd .u32 w ((split2 ls).take (trimLen (split2 ls)))) := by
  obtain ⟨i0, hi0, hz0, hz1, hz2⟩ := info_parts info32
  have H := Lib.hid (And.intro h hx)
  clear h hx
  go_enter Try.func115, Try.ntmps115
  go_wp2
  go_loopw [3, 4] (fun s3 s4 wr => ∃ i : Nat, i ≤ ls.length ∧ s4 = .int .i64 i ∧ Hid (wr.ownsRow w.heap.size 138 1 s3 (split2 (ls.take i)).length ((split2 (ls.take i)).map fun x => Value.int .u32 (x : Nat))) ∧ Below w.heap.size w wr) (fun _ s4 _ => ls.length - (intOf s4).toNat)
  case atStart => exact ⟨0, Nat.zero_le _, rfl, World.ownsRow_nil _ _ _ _, Below.refl _ _⟩
  case round =>
    obtain ⟨i, hi, rfl, hown, hB⟩ := hrel
    by_cases hlt : i < ls.length
    · have hcell : wr.cell? ⟨b, off + i, none⟩ = some (.int .u64 (ls.getD i 0 : Nat)) := (hB.cell (p := ⟨b, off + i, none⟩) hb).trans (H.out.1 i hlt)
      obtain ⟨x, ex⟩ : ∃ x, x = ls.getD i 0 := ⟨_, rfl⟩
      have hx : x < 18446744073709551616 := by rw [ex]; simp only [List.getD, List.getElem?_eq_getElem hlt, Option.getD_some]; exact H.out.2 _ (List.getElem_mem hlt)
      rw [← ex] at hcell
      obtain ⟨p, hp⟩ : ∃ p, p = x % 4294967296 := ⟨_, rfl⟩
      obtain ⟨q, hq⟩ : ∃ q, q = x / 4294967296 := ⟨_, rfl⟩
      have e1 : IntKind.u32.wrap (x : Int) = (p : Int) := by rw [IntKind.wrap_u32]; omega
      have e2 : IntKind.u32.wrap ((x : Int) / 4294967296) = (q : Int) := by rw [IntKind.wrap_u32]; omega
      have E : split2 (ls.take (i + 1)) = split2 (ls.take i) ++ [p, q] := by rw [take_snoc_getD ls i hlt, split2_snoc, ← ex, ← hp, ← hq]
      have hlen : (split2 (ls.take i)).length ≤ 2199023255552 := by rw [split2_length]; simp; omega
      have EH := Lib.hid E
      have hown2 := hown.out
      have far := Lib.hid (own_far hown2 hb)
      have hbr : b < wr.heap.size := Nat.lt_of_lt_of_le hb hB.size
      have hBs := hB.size
      generalize split2 (ls.take i) = ds at *
      clear E ex hp hq hx hown
      have HO := Lib.hid hown2
      clear hown2
      go_wp2
      go_region_held3 (fun w' => w'.cell? ⟨b, off + i, none⟩ = some (.int .u64 (x : Nat)))
        (first
          | (simp [go_sem, *]; done)
          | (rw [hgrow.cell_far _ (by simp; omega) (Ne.symm far.out)]; assumption))
        ((refine step_append_lies _ (by rfl) _ _ _ (by rfl) w.heap.size 138 i0 _ 1 4 Try.underlying136 hi0 hz0 hz1 hz2 rfl (by omega) _ ds.length (ds.map fun x => Value.int .u32 (x : Nat)) (by rfl) ((HO.out.alloc _).drew)
            ⟨wr.heap.size, 0, none⟩ 2 2 [.int .u32 (p : Nat), .int .u32 (q : Nat)] (by rfl) (by rfl) (World.news_of_block (cs := #[.int .u32 (p : Nat), .int .u32 (q : Nat)]) (t := 138) (fr := (0, 0)) (heap_alloc_new wr _)) (by simp [Value.oneCell'])
            (by omega) (by unfold maxLen; omega) (by omega) (by simp; omega) (wr.heap.size + 1) (by simp) ?_; intro gg cap' w1 hown1 hgrow hat hlt1))
      go_wp2
      refine ⟨⟨i + 1, by omega, by go_num, ?_, ?_⟩, by simp [intOf]; omega⟩
      · rw [EH.out]
        have h1 := hown1
        simpa [Hid] using h1
      · exact ((hB.alloc hBs _).drew).grown hgrow (by simp; omega) (fun k hk => (HO.out.lt k hk).1)
    · have he : i = ls.length := by omega
      subst he
      rw [List.take_length] at hown
      have hBs := hB.size
      have hlen : (split2 ls).length ≤ 2199023255552 := by rw [split2_length]; omega
      have RD := Lib.hid (own_rd hown.out)
      clear hown
      generalize split2 ls = ds at *
      go_wp2_with (go_at_call 117; (with_reducible refine (cutd_any _ ds _ (by omega) RD.out).mono ?_); rintro e w' ⟨rfl, rfl⟩)
      go_ret
      exact ⟨_, rfl, RD.out.cut _ (trimLen_le _), hB⟩
theorem split2_nil : (split2 []).take (trimLen (split2 [])) = [] := rfl
set_option maxHeartbeats 4000000 in
theorem halves_nil (w : World) : Calls Try.prog 115 #[.slice none 0 0] w fun e w' => e = .returned (.slice none 0 0) ∧ w = w' := by
  go_enter Try.func115, Try.ntmps115
  go_wp2
  go_loop [3, 4] (fun s3 s4 => s3 = .slice none 0 0 ∧ s4 = .int .i64 0) (fun _ _ => 0)
  case atStart => exact ⟨rfl, rfl⟩
  case round =>
    obtain ⟨rfl, rfl⟩ := hrel
    go_wp2_with (go_at_call 117; (with_reducible refine (cutd_nil _).mono ?_); rintro e w' ⟨rfl, rfl⟩)
    go_ret
    exact ⟨rfl, rfl⟩
/-- halves -/
theorem halves_any (v : Value) (ls : List Nat) (w : World) (hx : ∀ x ∈ ls, x < 18446744073709551616) (hm : ls.length ≤ 1099511627776) (h : Rd .u64 w v ls) :
    Calls Try.prog 115 #[v] w (SomeRd .u32 w ((split2 ls).take (trimLen (split2 ls)))) := by
  rcases h with ⟨rfl, rfl⟩ | ⟨b, off, cap, rfl, _, hl, h⟩
  · exact (halves_nil w).mono fun _ _ ⟨he, hw⟩ => ⟨_, he, .inl ⟨rfl, rfl⟩, hw ▸ Below.refl _ _⟩
  · exact halves_at b off cap ls w hl hx hm h
end Go.Proofs.Ytkpkejccphpkpaa
