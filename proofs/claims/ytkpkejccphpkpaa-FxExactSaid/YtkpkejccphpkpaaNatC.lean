/-
  The references' whole numbers: digits of 32 bits as limbs of 64.
-/
import Derived.Test.YtkpkejccphpkpaaNatB
import Derived.Laws.BitsAllLaws
namespace Go.Proofs.Ytkpkejccphpkpaa
open Go.RowKit

/-- Digits of 32 bits, two to a limb. -/
def join2 : List Nat → List Nat
  | [] => []
  | [x] => [x]
  | x :: y :: ls => (x + y * 4294967296) :: join2 ls
theorem join2_append : ∀ (n : Nat) (us bs : List Nat), us.length = 2 * n → join2 (us ++ bs) = join2 us ++ join2 bs
  | 0, us, bs, h => by rw [List.eq_nil_of_length_eq_zero (by omega : us.length = 0)]; rfl
  | n + 1, x :: y :: us, bs, h => by
    have ih := join2_append n us bs (by simp at h; omega)
    simp [join2, ih]
  | n + 1, [x], bs, h => by simp at h; omega
  | n + 1, [], bs, h => by simp at h
theorem join2_length : ∀ (n : Nat) (ls : List Nat), ls.length ≤ 2 * n → (join2 ls).length ≤ n
  | _, [], _ => Nat.zero_le _
  | n, [x], h => by simp at h; simp [join2]; omega
  | n, x :: y :: ls, h => by
    have ih := join2_length (n - 1) ls (by simp at h; omega)
    simp [join2] at *; omega
theorem join2_val : ∀ (n : Nat) (ls : List Nat), ls.length ≤ 2 * n → lval 18446744073709551616 (join2 ls) = lval 4294967296 ls
  | _, [], _ => rfl
  | _, [x], _ => rfl
  | 0, x :: y :: ls, h => by simp at h
  | n + 1, x :: y :: ls, h => by
    have ih := join2_val n ls (by simp at h; omega)
    simp only [join2, lval, ih]
    omega
theorem or_join (x y : Nat) (hx : x < 4294967296) (hy : y < 4294967296) : bits BinOp.or IntKind.u64 (x : Int) ((y : Int) * 4294967296) = ((x + y * 4294967296 : Nat) : Int) := by
  have e : ((y : Int) * 4294967296) = ((y * 4294967296 : Nat) : Int) := by omega
  rw [e, u64_or_nat _ _ (by omega) (by omega)]
  congr 1
  have := Nat.two_pow_add_eq_or_of_lt (i := 32) (b := x) (by simpa using hx) y
  rw [show (2 : Nat) ^ 32 = 4294967296 by decide] at this
  rw [Nat.or_comm, Nat.mul_comm y, ← this]; omega

/-- As SomeRd, and the slice lies in none of the blocks that were there. -/
def SomeRdF (k : IntKind) (w : World) (ls : List Nat) (e : Ending) (w' : World) : Prop := ∃ v, e = .returned v ∧ Rd k w' v ls ∧ Below w.heap.size w w' ∧ ∀ b, b < w.heap.size → v.ownBlock ≠ some b
theorem cutv_far {v : Value} {n b : Nat} (h : v.ownBlock ≠ some b) : (cutv v n).ownBlock ≠ some b := by
  unfold cutv
  split
  · simp [Value.ownBlock]
  · simpa [Value.ownBlock] using h
  · exact h
set_option maxRecDepth 100000 in
set_option maxHeartbeats 4000000 in
/-- whole -/
theorem whole_at (b off cap : Nat) (ls : List Nat) (w : World) (hb : b < w.heap.size) (hx : ∀ x ∈ ls, x < 4294967296) (hm : ls.length ≤ 2199023255552) (h : ∀ i, i < ls.length → w.cell? ⟨b, off + i, none⟩ = some (.int .u32 (ls.getD i 0 : Nat))) :
    Calls Try.prog 116 #[.slice (some ⟨b, off, none⟩) ls.length cap] w (SomeRdF .u64 w ((join2 ls).take (trimLen (join2 ls)))) := by
  obtain ⟨i0, hi0, hz0, hz1, hz2⟩ := info_parts info64
  have H := Lib.hid (And.intro h hx)
  clear h hx
  go_enter Try.func116, Try.ntmps116
  go_wp2
  go_loopw [3, 4] (fun s3 s4 wr => ∃ i : Nat, i ≤ ls.length + 1 ∧ s4 = .int .i64 i ∧ Hid (i % 2 = 0) ∧ Hid (wr.ownsRow w.heap.size 23 1 s3 (join2 (ls.take i)).length ((join2 (ls.take i)).map fun x => Value.int .u64 (x : Nat))) ∧ Below w.heap.size w wr) (fun _ s4 _ => ls.length + 1 - (intOf s4).toNat)
  case atStart => exact ⟨0, Nat.zero_le _, rfl, rfl, World.ownsRow_nil _ _ _ _, Below.refl _ _⟩
  case round =>
    obtain ⟨i, hi, rfl, hev, hown, hB⟩ := hrel
    have hBs := hB.size
    have hbr : b < wr.heap.size := Nat.lt_of_lt_of_le hb hBs
    by_cases hlt : i < ls.length
    · have hcell : wr.cell? ⟨b, off + i, none⟩ = some (.int .u32 (ls.getD i 0 : Nat)) := (hB.cell (p := ⟨b, off + i, none⟩) hb).trans (H.out.1 i hlt)
      obtain ⟨x, ex⟩ : ∃ x, x = ls.getD i 0 := ⟨_, rfl⟩
      have hx : x < 4294967296 := by rw [ex]; simp only [List.getD, List.getElem?_eq_getElem hlt, Option.getD_some]; exact H.out.2 _ (List.getElem_mem hlt)
      rw [← ex] at hcell
      have hdl : Hid ((join2 (ls.take i)).length ≤ 1099511627777) := join2_length _ _ (by simp; omega)
      by_cases hl1 : i + 1 < ls.length
      · have hcell2 : wr.cell? ⟨b, off + (i + 1), none⟩ = some (.int .u32 (ls.getD (i + 1) 0 : Nat)) := (hB.cell (p := ⟨b, off + (i + 1), none⟩) hb).trans (H.out.1 (i + 1) hl1)
        obtain ⟨y, ey⟩ : ∃ y, y = ls.getD (i + 1) 0 := ⟨_, rfl⟩
        have hy : y < 4294967296 := by rw [ey]; simp only [List.getD, List.getElem?_eq_getElem hl1, Option.getD_some]; exact H.out.2 _ (List.getElem_mem hl1)
        rw [← ey] at hcell2
        have eor := or_join x y hx hy
        obtain ⟨z, ez⟩ : ∃ z, z = x + y * 4294967296 := ⟨_, rfl⟩
        rw [← ez] at eor
        have E : join2 (ls.take (i + 2)) = join2 (ls.take i) ++ [z] := by
          rw [take_snoc_getD ls (i + 1) hl1, take_snoc_getD ls i hlt, List.append_assoc, join2_append (i / 2) _ _ (by simp; have := hev.out; omega), ← ex, ← ey, ez]; rfl
        have EH := Lib.hid E
        generalize join2 (ls.take i) = ds at *
        clear E ex ey ez
        have HO := hown
        have hl2 : ds.length ≤ 1099511627777 := hdl.out
        clear hown
        go_wp2_with (at_builtin; refine wpList_append_own _ rfl _ _ 29 rfl w.heap.size 23 i0 (.int .u64 0) 1 8 Try.underlying29 hi0 hz0 hz1 hz2 rfl (by decide) _ ds.length (ds.map fun x => Value.int .u64 (x : Nat)) rfl (HO.out.alloc _) ⟨wr.heap.size, 0, none⟩ 1 1 [.int .u64 (z : Nat)] rfl rfl ?c1 ?c2 ?c3 ?c4 ?c5 ?_)
        case c1 => exact (cell_one_new _ _ _)
        case c2 => simp [Value.oneCell']
        case c3 => unfold maxLen; omega
        case c4 => omega
        case c5 => simp; omega
        intro v' w1 hown1 hgrow _
        go_wp2
        refine ⟨⟨i + 2, by omega, by go_num, by have := hev.out; unfold Hid; omega, ?_, ?_⟩, by simp [intOf]; omega⟩
        · rw [EH.out]
          have h1 := hown1
          simpa [Hid] using h1
        · exact (hB.alloc hBs _).grown hgrow (by simp; omega) (fun k hk => (HO.out.lt k hk).1)
      · have he : i + 1 = ls.length := by omega
        have E : join2 (ls.take (i + 2)) = join2 (ls.take i) ++ [x] := by
          have e1 : ls.take (i + 2) = ls.take (i + 1) := by rw [List.take_of_length_le (by omega), List.take_of_length_le (by omega)]
          rw [e1, take_snoc_getD ls i hlt, join2_append (i / 2) _ _ (by simp; have := hev.out; omega), ← ex]; rfl
        have EH := Lib.hid E
        generalize join2 (ls.take i) = ds at *
        clear E ex
        have HO := hown
        have hl2 : ds.length ≤ 1099511627777 := hdl.out
        clear hown
        go_wp2_with (at_builtin; refine wpList_append_own _ rfl _ _ 29 rfl w.heap.size 23 i0 (.int .u64 0) 1 8 Try.underlying29 hi0 hz0 hz1 hz2 rfl (by decide) _ ds.length (ds.map fun x => Value.int .u64 (x : Nat)) rfl (HO.out.alloc _) ⟨wr.heap.size, 0, none⟩ 1 1 [.int .u64 (x : Nat)] rfl rfl ?c1 ?c2 ?c3 ?c4 ?c5 ?_)
        case c1 => exact (cell_one_new _ _ _)
        case c2 => simp [Value.oneCell']
        case c3 => unfold maxLen; omega
        case c4 => omega
        case c5 => simp; omega
        intro v' w1 hown1 hgrow _
        go_wp2
        refine ⟨⟨i + 2, by omega, by go_num, by have := hev.out; unfold Hid; omega, ?_, ?_⟩, by simp [intOf]; omega⟩
        · rw [EH.out]
          have h1 := hown1
          simpa [Hid] using h1
        · exact (hB.alloc hBs _).grown hgrow (by simp; omega) (fun k hk => (HO.out.lt k hk).1)
    · have he : ls.length ≤ i := by omega
      rw [List.take_of_length_le he] at hown
      have hlen : (join2 ls).length ≤ 1099511627777 := join2_length _ _ (by omega)
      have RD := Lib.hid (own_rd hown.out)
      have FR := Lib.hid (fun b' (hb' : b' < w.heap.size) => own_far hown.out hb')
      clear hown
      generalize join2 ls = ds at *
      go_wp2_with (go_at_call 94; (with_reducible refine (trim_any _ ds _ (by omega) RD.out).mono ?_); rintro e w' ⟨rfl, rfl⟩)
      go_ret
      exact ⟨_, rfl, RD.out.cut _ (trimLen_le _), hB, fun b' hb' => cutv_far (FR.out b' hb')⟩
set_option maxHeartbeats 4000000 in
theorem whole_nil (w : World) : Calls Try.prog 116 #[.slice none 0 0] w fun e w' => e = .returned (.slice none 0 0) ∧ w = w' := by
  go_enter Try.func116, Try.ntmps116
  go_wp2
  go_loop [3, 4] (fun s3 s4 => s3 = .slice none 0 0 ∧ s4 = .int .i64 0) (fun _ _ => 0)
  case atStart => exact ⟨rfl, rfl⟩
  case round =>
    obtain ⟨rfl, rfl⟩ := hrel
    go_wp2_with (go_at_call 94; (with_reducible refine (trim_nil _).mono ?_); rintro e w' ⟨rfl, rfl⟩)
    go_ret
    exact ⟨rfl, rfl⟩
/-- whole -/
theorem whole_any (v : Value) (ls : List Nat) (w : World) (hx : ∀ x ∈ ls, x < 4294967296) (hm : ls.length ≤ 2199023255552) (h : Rd .u32 w v ls) :
    Calls Try.prog 116 #[v] w (SomeRdF .u64 w ((join2 ls).take (trimLen (join2 ls)))) := by
  rcases h with ⟨rfl, rfl⟩ | ⟨b, off, cap, rfl, _, hl, h⟩
  · exact (whole_nil w).mono fun _ _ ⟨he, hw⟩ => ⟨_, he, .inl ⟨rfl, rfl⟩, hw ▸ Below.refl _ _, fun _ _ => by simp [Value.ownBlock]⟩
  · exact whole_at b off cap ls w hl hx hm h
end Go.Proofs.Ytkpkejccphpkpaa
