/-
  Whole numbers of 128 bits, as a wide number's two halves: hi a and lo a of a whole number a.
  Lists of limbs: their trailing noughts, their value; what a slice of limbs reads as.
  The references' whole numbers: noughts on top are cut; a word as a number.
  The references' whole numbers: limbs of 64 bits in digits of 32, and back.
  The references' whole numbers: digits of 32 bits as limbs of 64.
  What the calls of package wide do, said of whole numbers: the small ones.
  The references' whole numbers: a slice of limbs as a number.
  The references' whole numbers: sums.
-/
import Derived.Test.YtldchepfcgbpiaaGreatRows
import Derived.WalkKit
import Derived.WalkSpells
import Derived.Lib.Hide
import Derived.LoopTactic
import Derived.OwnWalk
import Derived.Laws.AppendOwn
import Derived.Deep.RegionHeld3
import Derived.Deep.AppendLies
import Derived.Laws.BitsAllLaws
import Derived.StillTactics
import Derived.Laws.Pointers
import Derived.Laws.Externs
import Derived.Shelf.Spec.BitsCarry
import Derived.RowKit3
namespace Go.Proofs.YtldchepfcgbpiaaGreat

def hi (a : Int) : Int := a / 18446744073709551616
def lo (a : Int) : Int := a % 18446744073709551616
/-- a is a wide number. -/
def R (a : Int) : Prop := -9223372036854775808 ≤ hi a ∧ hi a ≤ 9223372036854775807
instance (a : Int) : Decidable (R a) := inferInstanceAs (Decidable (_ ∧ _))
/-- a is below 0. -/
def ng (a : Int) : Bool := decide (a < 0)

theorem lo_bd (a : Int) : 0 ≤ lo a ∧ lo a ≤ 18446744073709551615 := by unfold lo; omega
theorem hi_lo (a : Int) : a = hi a * 18446744073709551616 + lo a := by unfold hi lo; omega
theorem hi_neg (a : Int) : decide (hi a < 0) = ng a := by unfold hi ng; rw [Bool.eq_iff_iff]; simp only [decide_eq_true_eq]; omega
end Go.Proofs.YtldchepfcgbpiaaGreat
namespace Go.Proofs.YtldchepfcgbpiaaGreat
open Go.RowKit

/-- How many limbs are left without noughts on top. -/
def trimLen : List Nat → Nat
  | [] => 0
  | x :: ls => if trimLen ls = 0 then (if x = 0 then 0 else 1) else trimLen ls + 1
theorem trimLen_le : ∀ ls : List Nat, trimLen ls ≤ ls.length
  | [] => Nat.le_refl _
  | x :: ls => by
    have := trimLen_le ls
    simp only [trimLen, List.length_cons]
    split
    · split <;> omega
    · omega
theorem trimLen_is : ∀ (ls : List Nat) (k : Nat), k ≤ ls.length → (∀ i, k ≤ i → ls.getD i 0 = 0) → (k = 0 ∨ ls.getD (k - 1) 0 ≠ 0) → trimLen ls = k
  | [], k, h, _, _ => by simp at h; simp [trimLen, h]
  | x :: ls, 0, _, hz, _ => by
    have ih := trimLen_is ls 0 (Nat.zero_le _) (fun i _ => by have := hz (i + 1) (Nat.zero_le _); simpa using this) (.inl rfl)
    have hx : x = 0 := by have := hz 0 (Nat.le_refl _); simpa using this
    simp [trimLen, ih, hx]
  | x :: ls, 1, _, hz, hn => by
    have ih := trimLen_is ls 0 (Nat.zero_le _) (fun i _ => by have := hz (i + 1) (by omega); simpa using this) (.inl rfl)
    have hx : x ≠ 0 := by rcases hn with h | h
                          · omega
                          · simpa using h
    simp [trimLen, ih, hx]
  | x :: ls, k + 2, h, hz, hn => by
    have ih := trimLen_is ls (k + 1) (by simp at h; omega) (fun i hi => by have := hz (i + 1) (by omega); simpa using this) (.inr (by
      rcases hn with h' | h'
      · omega
      · simpa using h'))
    simp [trimLen, ih]
/-- The value of limbs, the lowest first. -/
def lval (B : Nat) : List Nat → Nat
  | [] => 0
  | x :: ls => x + B * lval B ls
theorem lval_trim (B : Nat) : ∀ ls : List Nat, lval B (ls.take (trimLen ls)) = lval B ls
  | [] => rfl
  | x :: ls => by
    have ih := lval_trim B ls
    simp only [trimLen]
    split
    · rename_i h0
      rw [h0] at ih
      simp only [List.take_zero, lval] at ih
      split
      · rename_i hx; simp [lval, hx, ← ih]
      · simp [lval, ← ih]
    · simp [lval, ih]
theorem trim_last : ∀ ls : List Nat, trimLen ls = 0 ∨ ls.getD (trimLen ls - 1) 0 ≠ 0
  | [] => .inl rfl
  | x :: ls => by
    simp only [trimLen]
    split
    · split
      · exact .inl rfl
      · rename_i h; exact .inr (by simpa using h)
    · rename_i h0
      rcases trim_last ls with h | h
      · exact absurd h h0
      · right
        obtain ⟨m, hm⟩ : ∃ m, trimLen ls = m + 1 := ⟨trimLen ls - 1, by omega⟩
        rw [hm] at h ⊢
        simpa using h

/-- What a slice of whole numbers of kind k reads as. -/
def Rd (k : IntKind) (w : World) (v : Value) (ls : List Nat) : Prop :=
  (v = .slice none 0 0 ∧ ls = []) ∨ ∃ b off cap, v = .slice (some ⟨b, off, none⟩) ls.length cap ∧ ls.length ≤ cap ∧ b < w.heap.size ∧ ∀ i, i < ls.length → w.cell? ⟨b, off + i, none⟩ = some (.int k (ls.getD i 0 : Nat))
theorem Rd.below {k : IntKind} {w w' : World} {v : Value} {ls : List Nat} (h : Rd k w v ls) (hb : Below w.heap.size w w') : Rd k w' v ls := by
  rcases h with h | ⟨b, off, cap, e, hc, hl, h⟩
  · exact .inl h
  · exact .inr ⟨b, off, cap, e, hc, Nat.lt_of_lt_of_le hl hb.size, fun i hi => (hb.cell (p := ⟨b, off + i, none⟩) hl).trans (h i hi)⟩
theorem Rd.take {k : IntKind} {w : World} {b off cap : Nat} {ls : List Nat} (hc : ls.length ≤ cap) (hl : b < w.heap.size) (h : ∀ i, i < ls.length → w.cell? ⟨b, off + i, none⟩ = some (.int k (ls.getD i 0 : Nat))) (n : Nat) (hn : n ≤ ls.length) :
    Rd k w (.slice (some ⟨b, off, none⟩) n cap) (ls.take n) := by
  refine .inr ⟨b, off, cap, by simp [Nat.min_eq_left hn], by simp; omega, hl, fun i hi => ?_⟩
  simp at hi
  have : (ls.take n).getD i 0 = ls.getD i 0 := by simp only [List.getD_eq_getElem?_getD, List.getElem?_take]; rw [if_pos (by omega)]
  rw [this]
  exact h i (by omega)
/-- Where a slice is cut back to n of its elements. -/
def cutv : Value → Nat → Value
  | .slice none _ _, _ => .slice none 0 0
  | .slice (some a) _ c, n => .slice (some a) n c
  | v, _ => v
theorem Rd.cut {k : IntKind} {w : World} {v : Value} {ls : List Nat} (h : Rd k w v ls) (n : Nat) (hn : n ≤ ls.length) : Rd k w (cutv v n) (ls.take n) := by
  rcases h with ⟨rfl, rfl⟩ | ⟨b, off, cap, rfl, hc, hl, h⟩
  · exact .inl ⟨rfl, by simp⟩
  · exact Rd.take hc hl h n hn
end Go.Proofs.YtldchepfcgbpiaaGreat
namespace Go.Proofs.YtldchepfcgbpiaaGreat
open Go.RowKit

set_option maxHeartbeats 2000000 in
/-- ratchet/ratchetref90.NTrim -/
theorem trim_at (b off cap : Nat) (ls : List Nat) (w : World) (_hc : ls.length ≤ cap) (_hm : ls.length ≤ 4611686018427387904) (h : ∀ i, i < ls.length → w.cell? ⟨b, off + i, none⟩ = some (.int .u64 (ls.getD i 0 : Nat))) :
    Calls Tryz.prog 64 #[.slice (some ⟨b, off, none⟩) ls.length cap] w fun e w' => e = .returned (.slice (some ⟨b, off, none⟩) (trimLen ls) cap) ∧ w = w' := by
  have H := Lib.hid h
  clear h
  go_enter Tryz.func64, Tryz.ntmps64
  go_wp2
  go_loop [3] (fun s3 => ∃ j : Nat, j ≤ ls.length ∧ s3 = .int .i64 j ∧ Hid (∀ i, j ≤ i → ls.getD i 0 = 0)) (fun s3 => (intOf s3).toNat)
  case atStart => exact ⟨ls.length, Nat.le_refl _, rfl, fun i hi => by simp [List.getD, List.getElem?_eq_none hi]⟩
  case round =>
    obtain ⟨j, hj, rfl, hz⟩ := hrel
    by_cases h0 : j = 0
    · subst h0
      have E := Lib.hid (trimLen_is ls 0 hj hz.out (.inl rfl))
      go_wp2
      go_ret
      exact ⟨by rw [E.out]; rfl, rfl⟩
    · obtain ⟨m, rfl⟩ : ∃ m, j = m + 1 := ⟨j - 1, by omega⟩
      have hcell : w.cell? ⟨b, off + m, none⟩ = some (.int .u64 (ls.getD m 0 : Nat)) := H.out m (by omega)
      obtain ⟨x, ex⟩ : ∃ x, x = ls.getD m 0 := ⟨_, rfl⟩
      rw [← ex] at hcell
      have EX := Lib.hid ex
      clear ex
      by_cases hx : x = 0
      · subst hx
        simp only [Int.natCast_zero] at hcell
        go_wp2
        refine ⟨⟨m, by omega, rfl, fun i hi => ?_⟩, by simp [intOf]⟩
        rcases Nat.lt_or_eq_of_le hi with h1 | h1
        · exact hz.out i h1
        · subst h1; exact EX.out.symm
      · have hx' : ((x : Int) == 0) = false := by simpa using hx
        have E := Lib.hid (trimLen_is ls (m + 1) hj hz.out (.inr (by rw [Nat.add_sub_cancel, ← EX.out]; exact hx)))
        clear hx h0
        go_wp2
        go_ret
        exact ⟨by rw [E.out]; rfl, rfl⟩
set_option maxHeartbeats 2000000 in
theorem trim_nil (w : World) : Calls Tryz.prog 64 #[.slice none 0 0] w fun e w' => e = .returned (.slice none 0 0) ∧ w = w' := by
  go_enter Tryz.func64, Tryz.ntmps64
  go_wp2
  go_loop [3] (fun s3 => s3 = .int .i64 0) (fun _ => 0)
  case atStart => rfl
  case round =>
    subst hrel
    go_wp2
    go_ret
    exact ⟨rfl, rfl⟩
theorem trim_any (v : Value) (ls : List Nat) (w : World) (hm : ls.length ≤ 4611686018427387904) (h : Rd .u64 w v ls) :
    Calls Tryz.prog 64 #[v] w fun e w' => e = .returned (cutv v (trimLen ls)) ∧ w = w' := by
  rcases h with ⟨rfl, rfl⟩ | ⟨b, off, cap, rfl, hc, _, h⟩
  · exact trim_nil w
  · exact trim_at b off cap ls w hc hm h

set_option maxHeartbeats 2000000 in
/-- ratchet/ratchetref90.cut -/
theorem cutd_at (b off cap : Nat) (ls : List Nat) (w : World) (_hc : ls.length ≤ cap) (_hm : ls.length ≤ 4611686018427387904) (h : ∀ i, i < ls.length → w.cell? ⟨b, off + i, none⟩ = some (.int .u32 (ls.getD i 0 : Nat))) :
    Calls Tryz.prog 98 #[.slice (some ⟨b, off, none⟩) ls.length cap] w fun e w' => e = .returned (.slice (some ⟨b, off, none⟩) (trimLen ls) cap) ∧ w = w' := by
  have H := Lib.hid h
  clear h
  go_enter Tryz.func98, Tryz.ntmps98
  go_wp2
  go_loop [3] (fun s3 => ∃ j : Nat, j ≤ ls.length ∧ s3 = .int .i64 j ∧ Hid (∀ i, j ≤ i → ls.getD i 0 = 0)) (fun s3 => (intOf s3).toNat)
  case atStart => exact ⟨ls.length, Nat.le_refl _, rfl, fun i hi => by simp [List.getD, List.getElem?_eq_none hi]⟩
  case round =>
    obtain ⟨j, hj, rfl, hz⟩ := hrel
    by_cases h0 : j = 0
    · subst h0
      have E := Lib.hid (trimLen_is ls 0 hj hz.out (.inl rfl))
      go_wp2
      go_ret
      exact ⟨by rw [E.out]; rfl, rfl⟩
    · obtain ⟨m, rfl⟩ : ∃ m, j = m + 1 := ⟨j - 1, by omega⟩
      have hcell : w.cell? ⟨b, off + m, none⟩ = some (.int .u32 (ls.getD m 0 : Nat)) := H.out m (by omega)
      obtain ⟨x, ex⟩ : ∃ x, x = ls.getD m 0 := ⟨_, rfl⟩
      rw [← ex] at hcell
      have EX := Lib.hid ex
      clear ex
      by_cases hx : x = 0
      · subst hx
        simp only [Int.natCast_zero] at hcell
        go_wp2
        refine ⟨⟨m, by omega, rfl, fun i hi => ?_⟩, by simp [intOf]⟩
        rcases Nat.lt_or_eq_of_le hi with h1 | h1
        · exact hz.out i h1
        · subst h1; exact EX.out.symm
      · have hx' : ((x : Int) == 0) = false := by simpa using hx
        have E := Lib.hid (trimLen_is ls (m + 1) hj hz.out (.inr (by rw [Nat.add_sub_cancel, ← EX.out]; exact hx)))
        clear hx h0
        go_wp2
        go_ret
        exact ⟨by rw [E.out]; rfl, rfl⟩
set_option maxHeartbeats 2000000 in
theorem cutd_nil (w : World) : Calls Tryz.prog 98 #[.slice none 0 0] w fun e w' => e = .returned (.slice none 0 0) ∧ w = w' := by
  go_enter Tryz.func98, Tryz.ntmps98
  go_wp2
  go_loop [3] (fun s3 => s3 = .int .i64 0) (fun _ => 0)
  case atStart => rfl
  case round =>
    subst hrel
    go_wp2
    go_ret
    exact ⟨rfl, rfl⟩
theorem cutd_any (v : Value) (ls : List Nat) (w : World) (hm : ls.length ≤ 4611686018427387904) (h : Rd .u32 w v ls) :
    Calls Tryz.prog 98 #[v] w fun e w' => e = .returned (cutv v (trimLen ls)) ∧ w = w' := by
  rcases h with ⟨rfl, rfl⟩ | ⟨b, off, cap, rfl, hc, _, h⟩
  · exact cutd_nil w
  · exact cutd_at b off cap ls w hc hm h

theorem Rd.one {k : IntKind} (w : World) (x : Nat) (t : TypeId) : Rd k (w.alloc (.cells #[.int k (x : Nat)] t)) (.slice (some ⟨w.heap.size, 0, none⟩) 1 1) [x] := by
  refine .inr ⟨w.heap.size, 0, 1, rfl, Nat.le_refl _, by simp, fun i hi => ?_⟩
  have : i = 0 := by simp at hi; omega
  subst this
  simp [World.cell?_alloc_new]
set_option maxHeartbeats 2000000 in
/-- NOf -/
theorem nof_any (x : Nat) (w : World) : Calls Tryz.prog 38 #[.int .u64 x] w fun e w' => e = .returned (.slice (some ⟨w.heap.size, 0, none⟩) (trimLen [x]) 1) ∧ w.alloc (.cells #[.int .u64 x] 57) = w' := by
  have C := Lib.hid (fun W v h => trim_any v [x] W (by simp) h)
  go_enter Tryz.func38, Tryz.ntmps38
  go_wp2_with (go_at_call 64; (with_reducible refine (C.out _ _ (Rd.one _ _ _)).mono ?_); rintro e w' ⟨rfl, rfl⟩)
  go_ret
  exact ⟨rfl, rfl⟩
end Go.Proofs.YtldchepfcgbpiaaGreat
namespace Go.Proofs.YtldchepfcgbpiaaGreat
open Go.RowKit

/-- Limbs in digits of 32 bits. -/
def split2 : List Nat → List Nat
  | [] => []
  | x :: ls => x % 4294967296 :: x / 4294967296 :: split2 ls
theorem split2_length : ∀ ls : List Nat, (split2 ls).length = 2 * ls.length
  | [] => rfl
  | x :: ls => by simp [split2, split2_length ls]; omega
theorem split2_snoc : ∀ (ls : List Nat) (x : Nat), split2 (ls ++ [x]) = split2 ls ++ [x % 4294967296, x / 4294967296]
  | [], x => rfl
  | y :: ls, x => by simp [split2, split2_snoc ls x]
theorem take_snoc_getD (ls : List Nat) (i : Nat) (h : i < ls.length) : ls.take (i + 1) = ls.take i ++ [ls.getD i 0] := by
  rw [List.take_succ_eq_append_getElem h]; simp [List.getD, h]
theorem split2_val : ∀ ls : List Nat, (∀ x ∈ ls, x < 18446744073709551616) → lval 4294967296 (split2 ls) = lval 18446744073709551616 ls
  | [], _ => rfl
  | x :: ls, h => by
    have ih := split2_val ls (fun y hy => h y (List.mem_cons_of_mem _ hy))
    simp only [split2, lval, ih]
    omega

theorem own_far {w : World} {base : Nat} {e : TypeId} {size : Nat} {v : Value} {n : Nat} {xs : List Value} (h : w.ownsRow base e size v n xs) {b : Nat} (hb : b < base) : v.ownBlock ≠ some b := by
  rcases h.2 with ⟨rfl, _⟩ | ⟨g, cap, cur, rfl, hg, _⟩
  · simp [Value.ownBlock]
  · simp [Value.ownBlock]; omega
/-- What the call owns reads as its elements. -/
theorem own_rd {w : World} {base : Nat} {e : TypeId} {k : IntKind} {v : Value} {ls : List Nat} (h : w.ownsRow base e 1 v ls.length (ls.map fun x => Value.int k (x : Nat))) : Rd k w v ls := by
  obtain ⟨_, ⟨rfl, h0⟩ | ⟨g, cap, cur, rfl, _, hb, hc, _, _, ht⟩⟩ := h
  · exact .inl ⟨rfl, List.eq_nil_of_length_eq_zero h0⟩
  · have hlt : g < w.heap.size := by
      rcases Nat.lt_or_ge g w.heap.size with h | h
      · exact h
      · rw [Array.getElem?_eq_none h] at hb; cases hb
    refine .inr ⟨g, 0, cap, rfl, hc, hlt, fun i hi => ?_⟩
    rw [cell_of_row w g (0 + i) cur e (0, 0) hb, Nat.zero_add]
    have : (cur.toList.take (ls.length * 1))[i]? = some (Value.int k (ls.getD i 0 : Nat)) := by rw [ht]; simp [List.getD, hi]
    rw [List.getElem?_take] at this
    split at this
    · simpa using this
    · cases this

theorem info32 : (Tryz.prog.info? 129).map (fun i => (i.zero, i.size, i.bytes)) = some (some (.int .u32 0), 1, 4) := by kernel_rfl
theorem info64 : (Tryz.prog.info? 57).map (fun i => (i.zero, i.size, i.bytes)) = some (some (.int .u64 0), 1, 8) := by kernel_rfl
def SomeRd (k : IntKind) (w : World) (ls : List Nat) (e : Ending) (w' : World) : Prop := ∃ v, e = .returned v ∧ Rd k w' v ls ∧ Below w.heap.size w w'

set_option maxHeartbeats 4000000 in
/-- halves -/
theorem halves_at (b off cap : Nat) (ls : List Nat) (w : World) (hb : b < w.heap.size) (hx : ∀ x ∈ ls, x < 18446744073709551616) (hm : ls.length ≤ 1099511627776) (h : ∀ i, i < ls.length → w.cell? ⟨b, off + i, none⟩ = some (.int .u64 (ls.getD i 0 : Nat))) :
    Calls Tryz.prog 88 #[.slice (some ⟨b, off, none⟩) ls.length cap] w (SomeRd .u32 w ((split2 ls).take (trimLen (split2 ls)))) := by
  obtain ⟨i0, hi0, hz0, hz1, hz2⟩ := info_parts info32
  have H := Lib.hid (And.intro h hx)
  clear h hx
  go_enter Tryz.func88, Tryz.ntmps88
  go_wp2
  go_loopw [3, 4] (fun s3 s4 wr => ∃ i : Nat, i ≤ ls.length ∧ s4 = .int .i64 i ∧ Hid (wr.ownsRow w.heap.size 129 1 s3 (split2 (ls.take i)).length ((split2 (ls.take i)).map fun x => Value.int .u32 (x : Nat))) ∧ Below w.heap.size w wr) (fun _ s4 _ => ls.length - (intOf s4).toNat)
  case atStart => exact ⟨0, Nat.zero_le _, rfl, World.ownsRow_nil _ _ _ _, Below.refl _ _⟩
  case round =>
    obtain ⟨i, hi, rfl, hown, hB⟩ := hrel
    by_cases hlt : i < ls.length
    · have hcell : wr.cell? ⟨b, off + i, none⟩ = some (.int .u64 (ls.getD i 0 : Nat)) := (hB.cell (p := ⟨b, off + i, none⟩) hb).trans (H.out.1 i hlt)
      obtain ⟨x, ex⟩ : ∃ x, x = ls.getD i 0 := ⟨_, rfl⟩
      have hx : x < 18446744073709551616 := by rw [ex]; simp only [List.getD, List.getElem?_eq_getElem hlt, Option.getD_some]; exact H.out.2 _ (List.getElem_mem hlt)
      rw [← ex] at hcell
      obtain ⟨p, hp⟩ : ∃ p, p = x % 4294967296 := ⟨_, rfl⟩
      obtain ⟨q, hq⟩ : ∃ q, q = x / 4294967296 := ⟨_, rfl⟩
      have e1 : IntKind.u32.wrap (x : Int) = (p : Int) := by rw [IntKind.wrap_u32]; omega
      have e2 : IntKind.u32.wrap ((x : Int) / 4294967296) = (q : Int) := by rw [IntKind.wrap_u32]; omega
      have E : split2 (ls.take (i + 1)) = split2 (ls.take i) ++ [p, q] := by rw [take_snoc_getD ls i hlt, split2_snoc, ← ex, ← hp, ← hq]
      have hlen : (split2 (ls.take i)).length ≤ 2199023255552 := by rw [split2_length]; simp; omega
      have EH := Lib.hid E
      have hown2 := hown.out
      have far := Lib.hid (own_far hown2 hb)
      have hbr : b < wr.heap.size := Nat.lt_of_lt_of_le hb hB.size
      have hBs := hB.size
      generalize split2 (ls.take i) = ds at *
      clear E ex hp hq hx hown
      have HO := Lib.hid hown2
      clear hown2
      go_wp2
      go_region_held3 (fun w' => w'.cell? ⟨b, off + i, none⟩ = some (.int .u64 (x : Nat)))
        (first
          | (simp [go_sem, *]; done)
          | (rw [hgrow.cell_far _ (by simp; omega) (Ne.symm far.out)]; assumption))
        ((refine step_append_lies _ (by rfl) _ _ _ (by rfl) w.heap.size 129 i0 _ 1 4 Tryz.underlying127 hi0 hz0 hz1 hz2 rfl (by omega) _ ds.length (ds.map fun x => Value.int .u32 (x : Nat)) (by rfl) ((HO.out.alloc _).drew)
            ⟨wr.heap.size, 0, none⟩ 2 2 [.int .u32 (p : Nat), .int .u32 (q : Nat)] (by rfl) (by rfl) (World.news_of_block (cs := #[.int .u32 (p : Nat), .int .u32 (q : Nat)]) (t := 129) (fr := (0, 0)) (heap_alloc_new wr _)) (by simp [Value.oneCell'])
            (by omega) (by unfold maxLen; omega) (by omega) (by simp; omega) (wr.heap.size + 1) (by simp) ?_; intro gg cap' w1 hown1 hgrow hat hlt1))
      go_wp2
      refine ⟨⟨i + 1, by omega, by go_num, ?_, ?_⟩, by simp [intOf]; omega⟩
      · rw [EH.out]
        have h1 := hown1
        simpa [Hid] using h1
      · exact ((hB.alloc hBs _).drew).grown hgrow (by simp; omega) (fun k hk => (HO.out.lt k hk).1)
    · have he : i = ls.length := by omega
      subst he
      rw [List.take_length] at hown
      have hBs := hB.size
      have hlen : (split2 ls).length ≤ 2199023255552 := by rw [split2_length]; omega
      have RD := Lib.hid (own_rd hown.out)
      clear hown
      generalize split2 ls = ds at *
      go_wp2_with (go_at_call 98; (with_reducible refine (cutd_any _ ds _ (by omega) RD.out).mono ?_); rintro e w' ⟨rfl, rfl⟩)
      go_ret
      exact ⟨_, rfl, RD.out.cut _ (trimLen_le _), hB⟩
set_option maxHeartbeats 4000000 in
theorem halves_nil (w : World) : Calls Tryz.prog 88 #[.slice none 0 0] w fun e w' => e = .returned (.slice none 0 0) ∧ w = w' := by
  go_enter Tryz.func88, Tryz.ntmps88
  go_wp2
  go_loop [3, 4] (fun s3 s4 => s3 = .slice none 0 0 ∧ s4 = .int .i64 0) (fun _ _ => 0)
  case atStart => exact ⟨rfl, rfl⟩
  case round =>
    obtain ⟨rfl, rfl⟩ := hrel
    go_wp2_with (go_at_call 98; (with_reducible refine (cutd_nil _).mono ?_); rintro e w' ⟨rfl, rfl⟩)
    go_ret
    exact ⟨rfl, rfl⟩
/-- halves -/
theorem halves_any (v : Value) (ls : List Nat) (w : World) (hx : ∀ x ∈ ls, x < 18446744073709551616) (hm : ls.length ≤ 1099511627776) (h : Rd .u64 w v ls) :
    Calls Tryz.prog 88 #[v] w (SomeRd .u32 w ((split2 ls).take (trimLen (split2 ls)))) := by
  rcases h with ⟨rfl, rfl⟩ | ⟨b, off, cap, rfl, _, hl, h⟩
  · exact (halves_nil w).mono fun _ _ ⟨he, hw⟩ => ⟨_, he, .inl ⟨rfl, rfl⟩, hw ▸ Below.refl _ _⟩
  · exact halves_at b off cap ls w hl hx hm h
end Go.Proofs.YtldchepfcgbpiaaGreat
namespace Go.Proofs.YtldchepfcgbpiaaGreat
open Go.RowKit

/-- Digits of 32 bits, two to a limb. -/
def join2 : List Nat → List Nat
  | [] => []
  | [x] => [x]
  | x :: y :: ls => (x + y * 4294967296) :: join2 ls
theorem join2_append : ∀ (n : Nat) (us bs : List Nat), us.length = 2 * n → join2 (us ++ bs) = join2 us ++ join2 bs
  | 0, us, bs, h => by rw [List.eq_nil_of_length_eq_zero (by omega : us.length = 0)]; rfl
  | n + 1, x :: y :: us, bs, h => by
    have ih := join2_append n us bs (by simp at h; omega)
    simp [join2, ih]
  | n + 1, [x], bs, h => by simp at h; omega
  | n + 1, [], bs, h => by simp at h
theorem join2_length : ∀ (n : Nat) (ls : List Nat), ls.length ≤ 2 * n → (join2 ls).length ≤ n
  | _, [], _ => Nat.zero_le _
  | n, [x], h => by simp at h; simp [join2]; omega
  | n, x :: y :: ls, h => by
    have ih := join2_length (n - 1) ls (by simp at h; omega)
    simp [join2] at *; omega
theorem join2_val : ∀ (n : Nat) (ls : List Nat), ls.length ≤ 2 * n → lval 18446744073709551616 (join2 ls) = lval 4294967296 ls
  | _, [], _ => rfl
  | _, [x], _ => rfl
  | 0, x :: y :: ls, h => by simp at h
  | n + 1, x :: y :: ls, h => by
    have ih := join2_val n ls (by simp at h; omega)
    simp only [join2, lval, ih]
    omega
theorem or_join (x y : Nat) (hx : x < 4294967296) (hy : y < 4294967296) : bits BinOp.or IntKind.u64 (x : Int) ((y : Int) * 4294967296) = ((x + y * 4294967296 : Nat) : Int) := by
  have e : ((y : Int) * 4294967296) = ((y * 4294967296 : Nat) : Int) := by omega
  rw [e, u64_or_nat _ _ (by omega) (by omega)]
  congr 1
  have := Nat.two_pow_add_eq_or_of_lt (i := 32) (b := x) (by simpa using hx) y
  rw [show (2 : Nat) ^ 32 = 4294967296 by decide] at this
  rw [Nat.or_comm, Nat.mul_comm y, ← this]; omega

/-- As SomeRd, and the slice lies in none of the blocks that were there. -/
def SomeRdF (k : IntKind) (w : World) (ls : List Nat) (e : Ending) (w' : World) : Prop := ∃ v, e = .returned v ∧ Rd k w' v ls ∧ Below w.heap.size w w' ∧ ∀ b, b < w.heap.size → v.ownBlock ≠ some b
theorem cutv_far {v : Value} {n b : Nat} (h : v.ownBlock ≠ some b) : (cutv v n).ownBlock ≠ some b := by
  unfold cutv
  split
  · simp [Value.ownBlock]
  · simpa [Value.ownBlock] using h
  · exact h
set_option maxRecDepth 100000 in
set_option maxHeartbeats 4000000 in
/-- whole -/
theorem whole_at (b off cap : Nat) (ls : List Nat) (w : World) (hb : b < w.heap.size) (hx : ∀ x ∈ ls, x < 4294967296) (hm : ls.length ≤ 2199023255552) (h : ∀ i, i < ls.length → w.cell? ⟨b, off + i, none⟩ = some (.int .u32 (ls.getD i 0 : Nat))) :
    Calls Tryz.prog 90 #[.slice (some ⟨b, off, none⟩) ls.length cap] w (SomeRdF .u64 w ((join2 ls).take (trimLen (join2 ls)))) := by
  obtain ⟨i0, hi0, hz0, hz1, hz2⟩ := info_parts info64
  have H := Lib.hid (And.intro h hx)
  clear h hx
  go_enter Tryz.func90, Tryz.ntmps90
  go_wp2
  go_loopw [3, 4] (fun s3 s4 wr => ∃ i : Nat, i ≤ ls.length + 1 ∧ s4 = .int .i64 i ∧ Hid (i % 2 = 0) ∧ Hid (wr.ownsRow w.heap.size 57 1 s3 (join2 (ls.take i)).length ((join2 (ls.take i)).map fun x => Value.int .u64 (x : Nat))) ∧ Below w.heap.size w wr) (fun _ s4 _ => ls.length + 1 - (intOf s4).toNat)
  case atStart => exact ⟨0, Nat.zero_le _, rfl, rfl, World.ownsRow_nil _ _ _ _, Below.refl _ _⟩
  case round =>
    obtain ⟨i, hi, rfl, hev, hown, hB⟩ := hrel
    have hBs := hB.size
    have hbr : b < wr.heap.size := Nat.lt_of_lt_of_le hb hBs
    by_cases hlt : i < ls.length
    · have hcell : wr.cell? ⟨b, off + i, none⟩ = some (.int .u32 (ls.getD i 0 : Nat)) := (hB.cell (p := ⟨b, off + i, none⟩) hb).trans (H.out.1 i hlt)
      obtain ⟨x, ex⟩ : ∃ x, x = ls.getD i 0 := ⟨_, rfl⟩
      have hx : x < 4294967296 := by rw [ex]; simp only [List.getD, List.getElem?_eq_getElem hlt, Option.getD_some]; exact H.out.2 _ (List.getElem_mem hlt)
      rw [← ex] at hcell
      have hdl : Hid ((join2 (ls.take i)).length ≤ 1099511627777) := join2_length _ _ (by simp; omega)
      by_cases hl1 : i + 1 < ls.length
      · have hcell2 : wr.cell? ⟨b, off + (i + 1), none⟩ = some (.int .u32 (ls.getD (i + 1) 0 : Nat)) := (hB.cell (p := ⟨b, off + (i + 1), none⟩) hb).trans (H.out.1 (i + 1) hl1)
        obtain ⟨y, ey⟩ : ∃ y, y = ls.getD (i + 1) 0 := ⟨_, rfl⟩
        have hy : y < 4294967296 := by rw [ey]; simp only [List.getD, List.getElem?_eq_getElem hl1, Option.getD_some]; exact H.out.2 _ (List.getElem_mem hl1)
        rw [← ey] at hcell2
        have eor := or_join x y hx hy
        obtain ⟨z, ez⟩ : ∃ z, z = x + y * 4294967296 := ⟨_, rfl⟩
        rw [← ez] at eor
        have E : join2 (ls.take (i + 2)) = join2 (ls.take i) ++ [z] := by
          rw [take_snoc_getD ls (i + 1) hl1, take_snoc_getD ls i hlt, List.append_assoc, join2_append (i / 2) _ _ (by simp; have := hev.out; omega), ← ex, ← ey, ez]; rfl
        have EH := Lib.hid E
        generalize join2 (ls.take i) = ds at *
        clear E ex ey ez
        have HO := hown
        have hl2 : ds.length ≤ 1099511627777 := hdl.out
        clear hown
        go_wp2_with (at_builtin; refine wpList_append_own _ rfl _ _ 69 rfl w.heap.size 57 i0 (.int .u64 0) 1 8 Tryz.underlying69 hi0 hz0 hz1 hz2 rfl (by decide) _ ds.length (ds.map fun x => Value.int .u64 (x : Nat)) rfl (HO.out.alloc _) ⟨wr.heap.size, 0, none⟩ 1 1 [.int .u64 (z : Nat)] rfl rfl ?c1 ?c2 ?c3 ?c4 ?c5 ?_)
        case c1 => exact (cell_one_new _ _ _)
        case c2 => simp [Value.oneCell']
        case c3 => unfold maxLen; omega
        case c4 => omega
        case c5 => simp; omega
        intro v' w1 hown1 hgrow _
        go_wp2
        refine ⟨⟨i + 2, by omega, by go_num, by have := hev.out; unfold Hid; omega, ?_, ?_⟩, by simp [intOf]; omega⟩
        · rw [EH.out]
          have h1 := hown1
          simpa [Hid] using h1
        · exact (hB.alloc hBs _).grown hgrow (by simp; omega) (fun k hk => (HO.out.lt k hk).1)
      · have he : i + 1 = ls.length := by omega
        have E : join2 (ls.take (i + 2)) = join2 (ls.take i) ++ [x] := by
          have e1 : ls.take (i + 2) = ls.take (i + 1) := by rw [List.take_of_length_le (by omega), List.take_of_length_le (by omega)]
          rw [e1, take_snoc_getD ls i hlt, join2_append (i / 2) _ _ (by simp; have := hev.out; omega), ← ex]; rfl
        have EH := Lib.hid E
        generalize join2 (ls.take i) = ds at *
        clear E ex
        have HO := hown
        have hl2 : ds.length ≤ 1099511627777 := hdl.out
        clear hown
        go_wp2_with (at_builtin; refine wpList_append_own _ rfl _ _ 69 rfl w.heap.size 57 i0 (.int .u64 0) 1 8 Tryz.underlying69 hi0 hz0 hz1 hz2 rfl (by decide) _ ds.length (ds.map fun x => Value.int .u64 (x : Nat)) rfl (HO.out.alloc _) ⟨wr.heap.size, 0, none⟩ 1 1 [.int .u64 (x : Nat)] rfl rfl ?c1 ?c2 ?c3 ?c4 ?c5 ?_)
        case c1 => exact (cell_one_new _ _ _)
        case c2 => simp [Value.oneCell']
        case c3 => unfold maxLen; omega
        case c4 => omega
        case c5 => simp; omega
        intro v' w1 hown1 hgrow _
        go_wp2
        refine ⟨⟨i + 2, by omega, by go_num, by have := hev.out; unfold Hid; omega, ?_, ?_⟩, by simp [intOf]; omega⟩
        · rw [EH.out]
          have h1 := hown1
          simpa [Hid] using h1
        · exact (hB.alloc hBs _).grown hgrow (by simp; omega) (fun k hk => (HO.out.lt k hk).1)
    · have he : ls.length ≤ i := by omega
      rw [List.take_of_length_le he] at hown
      have hlen : (join2 ls).length ≤ 1099511627777 := join2_length _ _ (by omega)
      have RD := Lib.hid (own_rd hown.out)
      have FR := Lib.hid (fun b' (hb' : b' < w.heap.size) => own_far hown.out hb')
      clear hown
      generalize join2 ls = ds at *
      go_wp2_with (go_at_call 64; (with_reducible refine (trim_any _ ds _ (by omega) RD.out).mono ?_); rintro e w' ⟨rfl, rfl⟩)
      go_ret
      exact ⟨_, rfl, RD.out.cut _ (trimLen_le _), hB, fun b' hb' => cutv_far (FR.out b' hb')⟩
set_option maxHeartbeats 4000000 in
theorem whole_nil (w : World) : Calls Tryz.prog 90 #[.slice none 0 0] w fun e w' => e = .returned (.slice none 0 0) ∧ w = w' := by
  go_enter Tryz.func90, Tryz.ntmps90
  go_wp2
  go_loop [3, 4] (fun s3 s4 => s3 = .slice none 0 0 ∧ s4 = .int .i64 0) (fun _ _ => 0)
  case atStart => exact ⟨rfl, rfl⟩
  case round =>
    obtain ⟨rfl, rfl⟩ := hrel
    go_wp2_with (go_at_call 64; (with_reducible refine (trim_nil _).mono ?_); rintro e w' ⟨rfl, rfl⟩)
    go_ret
    exact ⟨rfl, rfl⟩
/-- whole -/
theorem whole_any (v : Value) (ls : List Nat) (w : World) (hx : ∀ x ∈ ls, x < 4294967296) (hm : ls.length ≤ 2199023255552) (h : Rd .u32 w v ls) :
    Calls Tryz.prog 90 #[v] w (SomeRdF .u64 w ((join2 ls).take (trimLen (join2 ls)))) := by
  rcases h with ⟨rfl, rfl⟩ | ⟨b, off, cap, rfl, _, hl, h⟩
  · exact (whole_nil w).mono fun _ _ ⟨he, hw⟩ => ⟨_, he, .inl ⟨rfl, rfl⟩, hw ▸ Below.refl _ _, fun _ _ => by simp [Value.ownBlock]⟩
  · exact whole_at b off cap ls w hl hx hm h
end Go.Proofs.YtldchepfcgbpiaaGreat
namespace Go.Proofs.YtldchepfcgbpiaaGreat
open Go.RowKit

abbrev Wv (a : Int) : Value := .agg #[.int .i64 (hi a), .int .u64 (lo a)]

theorem below_any (a : Int) (w : World) :
    Calls Tryz.prog 69 #[Wv a] w fun e w' => e = .returned (.bool (ng a)) ∧ w.alloc (.cells #[.int .i64 (hi a), .int .u64 (lo a)] 59) = w' := by
  have H := Lib.hid (hi_neg a)
  go_enter Tryz.func69, Tryz.ntmps69
  go_wp2
  go_ret
  exact ⟨by rw [H.out]; rfl, rfl⟩

theorem isNaN_u64 (a : Int) (w : World) : Calls Tryz.prog 106 #[.int .u64 a] w fun e w' => e = .returned (.bool false) ∧ w = w' := by
  go_enter Tryz.func106, Tryz.ntmps106
  go_wp2
  go_ret
  exact ⟨by simp, rfl⟩

/-- -1, 0, 1: as cmp.Compare tells it. -/
def sg (a b : Int) : Int := if a < b then -1 else if a > b then 1 else 0
theorem sg_lt {a b : Int} (h : a < b) : sg a b = -1 := by unfold sg; rw [if_pos h]
theorem sg_gt {a b : Int} (h : b < a) : sg a b = 1 := by unfold sg; rw [if_neg (by omega), if_pos h]
theorem sg_eq (a : Int) : sg a a = 0 := by unfold sg; rw [if_neg (by omega), if_neg (by omega)]


theorem compare_u64 (a b : Int) (w : World) : Calls Tryz.prog 105 #[.int .u64 a, .int .u64 b] w fun e w' => e = .returned (.int .i64 (sg a b)) ∧ w = w' := by
  rcases Int.lt_trichotomy a b with h | rfl | h
  · have H := Lib.hid (sg_lt h)
    go_enter Tryz.func105, Tryz.ntmps105
    go_wp2_with (go_at_call 106; refine (isNaN_u64 _ _).mono ?_; rintro e w' ⟨rfl, rfl⟩)
    go_ret
    exact ⟨by rw [H.out]; rfl, rfl⟩
  · have H := Lib.hid (sg_eq a)
    go_enter Tryz.func105, Tryz.ntmps105
    go_wp2_with (go_at_call 106; refine (isNaN_u64 _ _).mono ?_; rintro e w' ⟨rfl, rfl⟩)
    go_ret
    exact ⟨by rw [H.out]; rfl, rfl⟩
  · have H := Lib.hid (sg_gt h)
    go_enter Tryz.func105, Tryz.ntmps105
    go_wp2_with (go_at_call 106; refine (isNaN_u64 _ _).mono ?_; rintro e w' ⟨rfl, rfl⟩)
    go_ret
    exact ⟨by rw [H.out]; rfl, rfl⟩

theorem sg_hi {a b : Int} (h : hi a ≠ hi b) : sg (hi a) (hi b) = sg a b := by
  unfold sg hi at *
  repeat' split <;> try omega
theorem sg_lo {a b : Int} (h : hi a = hi b) : sg (lo a) (lo b) = sg a b := by
  unfold sg lo hi at *
  repeat' split <;> try omega


end Go.Proofs.YtldchepfcgbpiaaGreat
namespace Go.Proofs.YtldchepfcgbpiaaGreat
open Go.RowKit

theorem lval_append (B : Nat) : ∀ us vs : List Nat, lval B (us ++ vs) = lval B us + B ^ us.length * lval B vs
  | [], vs => by simp [lval]
  | x :: us, vs => by
    have ih := lval_append B us vs
    simp only [List.cons_append, lval, ih, List.length_cons, Nat.pow_succ]
    rw [Nat.mul_add, Nat.mul_comm (B ^ us.length) B, Nat.mul_assoc]
    omega
theorem lval_split (B : Nat) (ls : List Nat) (i : Nat) (h : i ≤ ls.length) : lval B ls = lval B (ls.take i) + B ^ i * lval B (ls.drop i) := by
  conv => lhs; rw [← List.take_append_drop i ls]
  rw [lval_append, List.length_take, Nat.min_eq_left h]
theorem lval_lt (B : Nat) (hB : 0 < B) : ∀ ls : List Nat, (∀ x ∈ ls, x < B) → lval B ls < B ^ ls.length
  | [], _ => by simp [lval]
  | x :: ls, h => by
    have ih := lval_lt B hB ls (fun y hy => h y (List.mem_cons_of_mem _ hy))
    have hx := h x List.mem_cons_self
    simp only [lval, List.length_cons, Nat.pow_succ]
    have := Nat.mul_le_mul_left B (show lval B ls + 1 ≤ B ^ ls.length from ih)
    rw [Nat.mul_add, Nat.mul_one, Nat.mul_comm B (B ^ ls.length)] at this
    omega
theorem lval_ge (B : Nat) (ls : List Nat) (h : trimLen ls = ls.length) (h0 : ls ≠ []) : B ^ (ls.length - 1) ≤ lval B ls := by
  have hl : 0 < ls.length := List.length_pos_iff.2 h0
  have hn : ls.getD (ls.length - 1) 0 ≠ 0 := by
    rcases trim_last ls with h1 | h1
    · omega
    · rwa [h] at h1
  rw [lval_split B ls (ls.length - 1) (by omega)]
  have e : ls.drop (ls.length - 1) = [ls.getD (ls.length - 1) 0] := by
    have hlt : ls.length - 1 < ls.length := by omega
    rw [List.drop_eq_getElem_cons hlt, List.drop_eq_nil_of_le (by omega)]
    simp [List.getD, hlt]
  rw [e]
  simp only [lval, Nat.mul_zero, Nat.add_zero]
  have := Nat.mul_le_mul_left (B ^ (ls.length - 1)) (show 1 ≤ ls.getD (ls.length - 1) 0 by omega)
  omega
theorem trim_take (ls : List Nat) : trimLen (ls.take (trimLen ls)) = (ls.take (trimLen ls)).length := by
  have hl := trimLen_le ls
  have e : (ls.take (trimLen ls)).length = trimLen ls := by simp [Nat.min_eq_left hl]
  rw [e]
  refine trimLen_is _ _ (by rw [e]; exact Nat.le_refl _) (fun i hi => ?_) ?_
  · simp only [List.getD_eq_getElem?_getD, List.getElem?_take]; rw [if_neg (by omega)]; rfl
  · rcases trim_last ls with h | h
    · exact .inl h
    · right
      by_cases h0 : trimLen ls = 0
      · rw [h0]; rw [h0] at h; simp only [List.take_zero]; simp; rw [h0] at hl; cases ls with
        | nil => simp at h
        | cons x xs =>
          simp [trimLen] at h0
          split at h0
          · split at h0
            · rename_i hx; simp [hx] at h
            · omega
          · omega
      · simp only [List.getD_eq_getElem?_getD, List.getElem?_take] at h ⊢; rw [if_pos (by omega)]; exact h

/-- Beyond all numbers that a statement speaks of: 2^18 limbs of 64 bits. -/
def BIG : Nat := 2 ^ 16777216
theorem pow2_mono (k m : Nat) (h : k ≤ m) : 2 ^ k ≤ 2 ^ m := Nat.pow_le_pow_right (by decide) h
theorem big_of {n k : Nat} (h : n < 2 ^ k) (hk : k ≤ 16777216) : n < BIG := by
  unfold BIG
  exact Nat.lt_of_lt_of_le h (pow2_mono k 16777216 hk)
/-- The slice v of limbs is the number n: no nought on top. -/
def IsN (w : World) (v : Value) (n : Nat) : Prop := ∃ ls, Rd .u64 w v ls ∧ (∀ x ∈ ls, x < 18446744073709551616) ∧ lval 18446744073709551616 ls = n ∧ trimLen ls = ls.length
/-- The slice v of digits of 32 bits is the number n. -/
def IsD (w : World) (v : Value) (n : Nat) : Prop := ∃ ls, Rd .u32 w v ls ∧ (∀ x ∈ ls, x < 4294967296) ∧ lval 4294967296 ls = n ∧ trimLen ls = ls.length
theorem IsN.below {w w' : World} {v : Value} {n : Nat} (h : IsN w v n) (hb : Below w.heap.size w w') : IsN w' v n := by
  obtain ⟨ls, h1, h2⟩ := h; exact ⟨ls, h1.below hb, h2⟩
theorem IsD.below {w w' : World} {v : Value} {n : Nat} (h : IsD w v n) (hb : Below w.heap.size w w') : IsD w' v n := by
  obtain ⟨ls, h1, h2⟩ := h; exact ⟨ls, h1.below hb, h2⟩
theorem len_big {B k : Nat} {ls : List Nat} (hB : B = 2 ^ k) (_hk : 1 ≤ k) (h : trimLen ls = ls.length) (hb : lval B ls < BIG) : ls.length * k ≤ 16777216 + k := by
  subst hB
  by_cases h0 : ls = []
  · subst h0; simp
  · have := lval_ge (2 ^ k) ls h h0
    rcases Nat.lt_or_ge 16777216 ((ls.length - 1) * k) with hgt | hle
    · exfalso
      have h1 : BIG ≤ 2 ^ ((ls.length - 1) * k) := by
        unfold BIG
        exact pow2_mono 16777216 _ (by omega)
      rw [← Nat.pow_mul, Nat.mul_comm k] at this
      omega
    · have hl : 0 < ls.length := List.length_pos_iff.2 h0
      have : ls.length * k = (ls.length - 1) * k + k := by
        conv => lhs; rw [show ls.length = (ls.length - 1) + 1 by omega]
        rw [Nat.succ_mul]
      omega
theorem len_n {ls : List Nat} (h : trimLen ls = ls.length) (hb : lval 18446744073709551616 ls < BIG) : ls.length ≤ 262145 := by
  have := len_big (B := 18446744073709551616) (k := 64) (by decide) (by decide) h hb; omega
theorem len_d {ls : List Nat} (h : trimLen ls = ls.length) (hb : lval 4294967296 ls < BIG) : ls.length ≤ 524289 := by
  have := len_big (B := 4294967296) (k := 32) (by decide) (by decide) h hb; omega
theorem split2_lt : ∀ (ls : List Nat), (∀ x ∈ ls, x < 18446744073709551616) → ∀ y ∈ split2 ls, y < 4294967296
  | [], _, y, hy => by cases hy
  | x :: ls, h, y, hy => by
    have ih := split2_lt ls (fun z hz => h z (List.mem_cons_of_mem _ hz))
    have hx := h x List.mem_cons_self
    simp only [split2, List.mem_cons] at hy
    rcases hy with rfl | rfl | hy
    · omega
    · omega
    · exact ih y hy
theorem join2_lt : ∀ (n : Nat) (ls : List Nat), ls.length ≤ n → (∀ x ∈ ls, x < 4294967296) → ∀ y ∈ join2 ls, y < 18446744073709551616
  | _, [], _, _, y, hy => by cases hy
  | _, [x], _, h, y, hy => by simp [join2] at hy; have := h x List.mem_cons_self; omega
  | 0, x :: y :: ls, hl, _, _, _ => by simp at hl
  | n + 1, x :: y :: ls, hl, h, z, hz => by
    have ih := join2_lt n ls (by simp at hl; omega) (fun z hz => h z (List.mem_cons_of_mem _ (List.mem_cons_of_mem _ hz)))
    have hx := h x List.mem_cons_self
    have hy := h y (List.mem_cons_of_mem _ List.mem_cons_self)
    simp only [join2, List.mem_cons] at hz
    rcases hz with rfl | hz
    · omega
    · exact ih z hz
/-- halves, of numbers -/
def SomeD (w : World) (n : Nat) (e : Ending) (w' : World) : Prop := ∃ v, e = .returned v ∧ IsD w' v n ∧ Below w.heap.size w w'
def SomeN (w : World) (n : Nat) (e : Ending) (w' : World) : Prop := ∃ v, e = .returned v ∧ IsN w' v n ∧ Below w.heap.size w w'
/-- As SomeN, and the number lies in none of the blocks that were there. -/
def SomeNF (w : World) (n : Nat) (e : Ending) (w' : World) : Prop := ∃ v, e = .returned v ∧ IsN w' v n ∧ Below w.heap.size w w' ∧ ∀ b, b < w.heap.size → v.ownBlock ≠ some b
theorem SomeNF.some {w : World} {n : Nat} {e : Ending} {w' : World} (h : SomeNF w n e w') : SomeN w n e w' := by
  obtain ⟨v, h1, h2, h3, _⟩ := h; exact ⟨v, h1, h2, h3⟩
theorem halves_num (v : Value) (n : Nat) (w : World) (h : IsN w v n) (hb : n < BIG) : Calls Tryz.prog 88 #[v] w (SomeD w n) := by
  obtain ⟨ls, h1, h2, rfl, h4⟩ := h
  refine (halves_any v ls w h2 (by have := len_n h4 hb; omega) h1).mono fun e w' ⟨u, he, hr, hB⟩ => ⟨u, he, ⟨_, hr, ?_, ?_, trim_take _⟩, hB⟩
  · exact fun x hx => split2_lt ls h2 x (List.mem_of_mem_take hx)
  · rw [lval_trim, split2_val ls h2]
theorem whole_far (v : Value) (ls : List Nat) (w : World) (h : Rd .u32 w v ls) (h2 : ∀ x ∈ ls, x < 4294967296) (hl : ls.length ≤ 2199023255552) : Calls Tryz.prog 90 #[v] w (SomeNF w (lval 4294967296 ls)) := by
  refine (whole_any v ls w h2 hl h).mono fun e w' ⟨u, he, hr, hB, hF⟩ => ⟨u, he, ⟨_, hr, ?_, ?_, trim_take _⟩, hB, hF⟩
  · exact fun x hx => join2_lt ls.length ls (Nat.le_refl _) h2 x (List.mem_of_mem_take hx)
  · rw [lval_trim, join2_val ls.length ls (by omega)]
theorem whole_num (v : Value) (ls : List Nat) (w : World) (h : Rd .u32 w v ls) (h2 : ∀ x ∈ ls, x < 4294967296) (hl : ls.length ≤ 2199023255552) : Calls Tryz.prog 90 #[v] w (SomeN w (lval 4294967296 ls)) :=
  (whole_far v ls w h h2 hl).mono fun _ _ h => h.some
theorem nof_num (x : Nat) (w : World) (hx : x < 18446744073709551616) : Calls Tryz.prog 38 #[.int .u64 x] w (SomeN w x) := by
  refine (nof_any x w).mono fun e w' ⟨he, hw⟩ => ?_
  subst hw
  refine ⟨_, he, ⟨[x].take (trimLen [x]), ?_, ?_, ?_, trim_take _⟩, (Below.refl _ _).alloc (Nat.le_refl _) _⟩
  · exact (Rd.one w x 57).cut _ (trimLen_le _)
  · intro y hy; have := List.mem_of_mem_take hy; simp at this; omega
  · rw [lval_trim]; simp [lval]
end Go.Proofs.YtldchepfcgbpiaaGreat
namespace Go.Proofs.YtldchepfcgbpiaaGreat
open Go.RowKit

theorem Rd.form {k : IntKind} {w : World} {v : Value} {ls : List Nat} (h : Rd k w v ls) : ∃ o cap, v = .slice o ls.length cap ∧ ∀ i, i < ls.length → ∃ b off, o = some ⟨b, off, none⟩ ∧ b < w.heap.size ∧ w.cell? ⟨b, off + i, none⟩ = some (.int k (ls.getD i 0 : Nat)) := by
  rcases h with ⟨rfl, rfl⟩ | ⟨b, off, cap, rfl, _, hl, h⟩
  · exact ⟨none, 0, rfl, fun i hi => by simp at hi⟩
  · exact ⟨_, cap, rfl, fun i hi => ⟨b, off, rfl, hl, h i hi⟩⟩
theorem getD_lt {ls : List Nat} {B : Nat} (hB : 0 < B) (h : ∀ x ∈ ls, x < B) (i : Nat) : ls.getD i 0 < B := by
  by_cases hi : i < ls.length
  · simp only [List.getD, List.getElem?_eq_getElem hi, Option.getD_some]; exact h _ (List.getElem_mem hi)
  · simp only [List.getD, List.getElem?_eq_none (by omega : ls.length ≤ i), Option.getD_none]; exact hB
theorem lval_take_succ (B : Nat) (ls : List Nat) (i : Nat) : lval B (ls.take (i + 1)) = lval B (ls.take i) + B ^ i * ls.getD i 0 := by
  by_cases hi : i < ls.length
  · rw [take_snoc_getD ls i hi, lval_append, List.length_take, Nat.min_eq_left (by omega)]; simp [lval]
  · rw [List.take_of_length_le (by omega), List.take_of_length_le (by omega)]
    simp [List.getD, List.getElem?_eq_none (by omega : ls.length ≤ i)]
/-- What holds at each round of a sum: the digits told, and the carry. -/
def PInv (xs ys ds : List Nat) (i c : Nat) : Prop := ds.length = i ∧ (∀ x ∈ ds, x < 4294967296) ∧ c ≤ 1 ∧ lval 4294967296 (xs.take i) + lval 4294967296 (ys.take i) = lval 4294967296 ds + 4294967296 ^ i * c
theorem pinv_step {xs ys ds : List Nat} {i c s : Nat} (h : PInv xs ys ds i c) (hx : ∀ x ∈ xs, x < 4294967296) (hy : ∀ x ∈ ys, x < 4294967296) (hs : s = c + xs.getD i 0 + ys.getD i 0) : PInv xs ys (ds ++ [s % 4294967296]) (i + 1) (s / 4294967296) := by
  obtain ⟨h1, h2, h3, h4⟩ := h
  have gx := getD_lt (by decide) hx i
  have gy := getD_lt (by decide) hy i
  refine ⟨by simp [h1], ?_, by omega, ?_⟩
  · intro x hxm
    rw [List.mem_append] at hxm
    rcases hxm with hm | hm
    · exact h2 x hm
    · simp at hm; omega
  · rw [lval_take_succ, lval_take_succ, lval_append, h1, Nat.pow_succ]
    simp only [lval, Nat.mul_zero, Nat.add_zero]
    have e : s % 4294967296 + 4294967296 * (s / 4294967296) = s := Nat.mod_add_div _ _
    have e2 : 4294967296 ^ i * (s % 4294967296) + 4294967296 ^ i * 4294967296 * (s / 4294967296) = 4294967296 ^ i * s := by
      rw [Nat.mul_assoc, ← Nat.mul_add, e]
    have e3 : 4294967296 ^ i * s = 4294967296 ^ i * c + 4294967296 ^ i * xs.getD i 0 + 4294967296 ^ i * ys.getD i 0 := by rw [hs, Nat.mul_add, Nat.mul_add]
    omega
theorem pinv_end {xs ys ds : List Nat} {i c : Nat} (h : PInv xs ys ds i c) (hx : xs.length ≤ i) (hy : ys.length ≤ i) : lval 4294967296 (ds ++ [c]) = lval 4294967296 xs + lval 4294967296 ys ∧ ∀ x ∈ ds ++ [c], x < 4294967296 := by
  obtain ⟨h1, h2, h3, h4⟩ := h
  rw [List.take_of_length_le hx, List.take_of_length_le hy] at h4
  refine ⟨by rw [lval_append, h1]; simp [lval]; omega, ?_⟩
  intro x hxm
  rw [List.mem_append] at hxm
  rcases hxm with hm | hm
  · exact h2 x hm
  · simp at hm; omega

set_option maxRecDepth 100000 in
set_option maxHeartbeats 8000000 in
/-- NPlus -/
theorem nplus_any (va vb : Value) (a b : Nat) (w : World) (ha : IsN w va a) (hb : IsN w vb b) (la : a < BIG) (lb : b < BIG) : Calls Tryz.prog 76 #[va, vb] w (SomeN w (a + b)) := by
  obtain ⟨i0, hi0, hz0, hz1, hz2⟩ := info_parts info32
  have HA := Lib.hid (And.intro ha (And.intro hb (And.intro la lb)))
  clear ha hb la lb
  go_enter Tryz.func76, Tryz.ntmps76
  go_wp2_with (first | (go_at_call 88; (with_reducible refine (halves_num va a _ HA.out.1 HA.out.2.2.1).mono ?_); rintro e w1 ⟨vx, rfl, hvx, hb1⟩) | (go_at_call 88; (with_reducible refine (halves_num vb b _ (HA.out.2.1.below hb1) HA.out.2.2.2).mono ?_); rintro e w2 ⟨vy, rfl, hvy, hb2⟩))
  obtain ⟨xs, rx, x1, x2, x3⟩ := hvx.below hb2
  obtain ⟨ys, ry, y1, y2, y3⟩ := hvy
  have lx := len_d x3 (by rw [x2]; exact HA.out.2.2.1)
  have ly := len_d y3 (by rw [y2]; exact HA.out.2.2.2)
  obtain ⟨ox, cx, rfl, hcx⟩ := rx.form
  obtain ⟨oy, cy, rfl, hcy⟩ := ry.form
  have HX := Lib.hid (And.intro hcx (And.intro hcy (And.intro x1 (And.intro y1 (And.intro x2 y2)))))
  clear rx ry hcx hcy x1 y1 x2 y2 x3 y3 hvx
  have M := Lib.hid (Nat.le_max_left xs.length ys.length)
  have M2 := Lib.hid (Nat.le_max_right xs.length ys.length)
  go_loopw [7, 8, 9] (fun s7 s8 s9 wr => ∃ (i : Nat) (ds : List Nat) (c : Nat), (i ≤ xs.length ∨ i ≤ ys.length) ∧ i ≤ 524289 ∧ s8 = .int .u64 c ∧ s9 = .int .i64 i ∧ Hid (PInv xs ys ds i c) ∧ Hid (wr.ownsRow w2.heap.size 129 1 s7 ds.length (ds.map fun x => Value.int .u32 (x : Nat))) ∧ Below w2.heap.size w2 wr) (fun _ _ s9 _ => xs.length + ys.length - (intOf s9).toNat)
  case atStart => exact ⟨0, [], 0, .inl (Nat.zero_le _), by omega, rfl, rfl, ⟨rfl, by simp, by omega, by simp [lval]⟩, World.ownsRow_nil _ _ _ _, Below.refl _ _⟩
  case round =>
    obtain ⟨i, ds, c, him, hi2, rfl, rfl, HI, hown, hB⟩ := hrel
    have hBs := hB.size
    have cl : c ≤ 1 := HI.out.2.2.1
    by_cases hx : i < xs.length
    · by_cases hy : i < ys.length
      · skip
        obtain ⟨bx, fx, rfl, hbx, hcellx⟩ := HX.out.1 i hx
        have hcx : wr.cell? ⟨bx, fx + i, none⟩ = some (.int .u32 (xs.getD i 0 : Nat)) := (hB.cell (p := ⟨bx, fx + i, none⟩) hbx).trans hcellx
        obtain ⟨xi, exi⟩ : ∃ xi, xi = xs.getD i 0 := ⟨_, rfl⟩
        have xl : xi < 4294967296 := by rw [exi]; exact getD_lt (by decide) HX.out.2.2.1 i
        rw [← exi] at hcx
        clear hcellx
        obtain ⟨by', fy, rfl, hby, hcelly⟩ := HX.out.2.1 i hy
        have hcy : wr.cell? ⟨by', fy + i, none⟩ = some (.int .u32 (ys.getD i 0 : Nat)) := (hB.cell (p := ⟨by', fy + i, none⟩) hby).trans hcelly
        obtain ⟨yi, eyi⟩ : ∃ yi, yi = ys.getD i 0 := ⟨_, rfl⟩
        have yl : yi < 4294967296 := by rw [eyi]; exact getD_lt (by decide) HX.out.2.2.2.1 i
        rw [← eyi] at hcy
        clear hcelly
        obtain ⟨s, hs⟩ : ∃ s : Nat, s = c + xi + yi := ⟨_, rfl⟩
        have st := pinv_step (s := s) HI.out HX.out.2.2.1 HX.out.2.2.2.1 (by rw [← exi, ← eyi, hs])
        obtain ⟨d, hd⟩ : ∃ d, d = s % 4294967296 := ⟨_, rfl⟩
        obtain ⟨c2, hc2⟩ : ∃ c2, c2 = s / 4294967296 := ⟨_, rfl⟩
        rw [← hd, ← hc2] at st
        have e1 : IntKind.u32.wrap ((c : Int) + (xi : Int) + (yi : Int)) = (d : Int) := by rw [IntKind.wrap_u32]; omega
        have e2 : ((c : Int) + (xi : Int) + (yi : Int)) / 4294967296 = (c2 : Int) := by omega
        have ST := Lib.hid st
        have dl : ds.length ≤ 524289 := by have := HI.out.1; omega
        clear st hs hd hc2 exi eyi
        have HO := hown
        clear hown
        go_wp2_with (at_builtin; refine wpList_append_own _ rfl _ _ 127 rfl w2.heap.size 129 i0 (.int .u32 0) 1 4 Tryz.underlying127 hi0 hz0 hz1 hz2 rfl (by decide) _ ds.length (ds.map fun x => Value.int .u32 (x : Nat)) rfl (HO.out.alloc _) ⟨wr.heap.size, 0, none⟩ 1 1 [.int .u32 (d : Nat)] rfl rfl ?c1 ?c2 ?c3 ?c4 ?c5 ?_)
        case c1 => exact (cell_one_new _ _ _)
        case c2 => simp [Value.oneCell']
        case c3 => unfold maxLen; omega
        case c4 => omega
        case c5 => simp; omega
        intro v' w9 hown1 hgrow _
        go_wp2
        refine ⟨⟨i + 1, ds ++ [d], c2, by omega, by omega, rfl, by go_num, ST.out, ?_, ?_⟩, by simp [intOf]; omega⟩
        · have h1 := hown1
          simpa [Hid] using h1
        · exact (hB.alloc hBs _).grown hgrow (by simp; omega) (fun k hk => (HO.out.lt k hk).1)
      · skip
        obtain ⟨bx, fx, rfl, hbx, hcellx⟩ := HX.out.1 i hx
        have hcx : wr.cell? ⟨bx, fx + i, none⟩ = some (.int .u32 (xs.getD i 0 : Nat)) := (hB.cell (p := ⟨bx, fx + i, none⟩) hbx).trans hcellx
        obtain ⟨xi, exi⟩ : ∃ xi, xi = xs.getD i 0 := ⟨_, rfl⟩
        have xl : xi < 4294967296 := by rw [exi]; exact getD_lt (by decide) HX.out.2.2.1 i
        rw [← exi] at hcx
        clear hcellx
        have zy : ys.getD i 0 = 0 := by simp [List.getD, List.getElem?_eq_none (by omega : ys.length ≤ i)]
        obtain ⟨s, hs⟩ : ∃ s : Nat, s = c + xi := ⟨_, rfl⟩
        have st := pinv_step (s := s) HI.out HX.out.2.2.1 HX.out.2.2.2.1 (by rw [← exi, zy, hs]; omega)
        obtain ⟨d, hd⟩ : ∃ d, d = s % 4294967296 := ⟨_, rfl⟩
        obtain ⟨c2, hc2⟩ : ∃ c2, c2 = s / 4294967296 := ⟨_, rfl⟩
        rw [← hd, ← hc2] at st
        have e1 : IntKind.u32.wrap ((c : Int) + (xi : Int)) = (d : Int) := by rw [IntKind.wrap_u32]; omega
        have e2 : ((c : Int) + (xi : Int)) / 4294967296 = (c2 : Int) := by omega
        have ST := Lib.hid st
        have dl : ds.length ≤ 524289 := by have := HI.out.1; omega
        clear st hs hd hc2 exi zy
        have HO := hown
        clear hown
        go_wp2_with (at_builtin; refine wpList_append_own _ rfl _ _ 127 rfl w2.heap.size 129 i0 (.int .u32 0) 1 4 Tryz.underlying127 hi0 hz0 hz1 hz2 rfl (by decide) _ ds.length (ds.map fun x => Value.int .u32 (x : Nat)) rfl (HO.out.alloc _) ⟨wr.heap.size, 0, none⟩ 1 1 [.int .u32 (d : Nat)] rfl rfl ?c1 ?c2 ?c3 ?c4 ?c5 ?_)
        case c1 => exact (cell_one_new _ _ _)
        case c2 => simp [Value.oneCell']
        case c3 => unfold maxLen; omega
        case c4 => omega
        case c5 => simp; omega
        intro v' w9 hown1 hgrow _
        go_wp2
        refine ⟨⟨i + 1, ds ++ [d], c2, by omega, by omega, rfl, by go_num, ST.out, ?_, ?_⟩, by simp [intOf]; omega⟩
        · have h1 := hown1
          simpa [Hid] using h1
        · exact (hB.alloc hBs _).grown hgrow (by simp; omega) (fun k hk => (HO.out.lt k hk).1)
    · by_cases hy : i < ys.length
      · skip
        obtain ⟨by', fy, rfl, hby, hcelly⟩ := HX.out.2.1 i hy
        have hcy : wr.cell? ⟨by', fy + i, none⟩ = some (.int .u32 (ys.getD i 0 : Nat)) := (hB.cell (p := ⟨by', fy + i, none⟩) hby).trans hcelly
        obtain ⟨yi, eyi⟩ : ∃ yi, yi = ys.getD i 0 := ⟨_, rfl⟩
        have yl : yi < 4294967296 := by rw [eyi]; exact getD_lt (by decide) HX.out.2.2.2.1 i
        rw [← eyi] at hcy
        clear hcelly
        have zx : xs.getD i 0 = 0 := by simp [List.getD, List.getElem?_eq_none (by omega : xs.length ≤ i)]
        obtain ⟨s, hs⟩ : ∃ s : Nat, s = c + yi := ⟨_, rfl⟩
        have st := pinv_step (s := s) HI.out HX.out.2.2.1 HX.out.2.2.2.1 (by rw [zx, ← eyi, hs]; omega)
        obtain ⟨d, hd⟩ : ∃ d, d = s % 4294967296 := ⟨_, rfl⟩
        obtain ⟨c2, hc2⟩ : ∃ c2, c2 = s / 4294967296 := ⟨_, rfl⟩
        rw [← hd, ← hc2] at st
        have e1 : IntKind.u32.wrap ((c : Int) + (yi : Int)) = (d : Int) := by rw [IntKind.wrap_u32]; omega
        have e2 : ((c : Int) + (yi : Int)) / 4294967296 = (c2 : Int) := by omega
        have ST := Lib.hid st
        have dl : ds.length ≤ 524289 := by have := HI.out.1; omega
        clear st hs hd hc2 zx eyi
        have HO := hown
        clear hown
        go_wp2_with (at_builtin; refine wpList_append_own _ rfl _ _ 127 rfl w2.heap.size 129 i0 (.int .u32 0) 1 4 Tryz.underlying127 hi0 hz0 hz1 hz2 rfl (by decide) _ ds.length (ds.map fun x => Value.int .u32 (x : Nat)) rfl (HO.out.alloc _) ⟨wr.heap.size, 0, none⟩ 1 1 [.int .u32 (d : Nat)] rfl rfl ?c1 ?c2 ?c3 ?c4 ?c5 ?_)
        case c1 => exact (cell_one_new _ _ _)
        case c2 => simp [Value.oneCell']
        case c3 => unfold maxLen; omega
        case c4 => omega
        case c5 => simp; omega
        intro v' w9 hown1 hgrow _
        go_wp2
        refine ⟨⟨i + 1, ds ++ [d], c2, by omega, by omega, rfl, by go_num, ST.out, ?_, ?_⟩, by simp [intOf]; omega⟩
        · have h1 := hown1
          simpa [Hid] using h1
        · exact (hB.alloc hBs _).grown hgrow (by simp; omega) (fun k hk => (HO.out.lt k hk).1)
      · skip
        obtain ⟨p1, p2⟩ := pinv_end HI.out (by omega) (by omega)
        have P1 := Lib.hid p1
        have P2 := Lib.hid p2
        have dl : ds.length ≤ 524289 := by have := HI.out.1; omega
        have e1 : IntKind.u32.wrap (c : Int) = (c : Int) := by rw [IntKind.wrap_u32]; omega
        have HO := hown
        clear hown p1 p2
        go_wp2_with (at_builtin; refine wpList_append_own _ rfl _ _ 127 rfl w2.heap.size 129 i0 (.int .u32 0) 1 4 Tryz.underlying127 hi0 hz0 hz1 hz2 rfl (by decide) _ ds.length (ds.map fun x => Value.int .u32 (x : Nat)) rfl (HO.out.alloc _) ⟨wr.heap.size, 0, none⟩ 1 1 [.int .u32 (c : Nat)] rfl rfl ?c1 ?c2 ?c3 ?c4 ?c5 ?_)
        case c1 => exact (cell_one_new _ _ _)
        case c2 => simp [Value.oneCell']
        case c3 => unfold maxLen; omega
        case c4 => omega
        case c5 => simp; omega
        intro v' w9 hown1 hgrow _
        obtain ⟨L, hL⟩ : ∃ L, L = ds ++ [c] := ⟨_, rfl⟩
        have RD : Hid (Rd .u32 w9 v' L) := by
          rw [hL]
          refine own_rd (base := w2.heap.size) (e := 129) ?_
          have h1 := hown1
          simpa using h1
        have ll : L.length ≤ 1048578 := by rw [hL]; simp; omega
        rw [← hL] at P1 P2
        have hB9 : Below w2.heap.size w2 w9 := (hB.alloc hBs _).grown hgrow (by simp; omega) (fun k hk => (HO.out.lt k hk).1)
        have TK : Hid (Rd .u32 w9 (cutv v' (trimLen L)) (L.take (trimLen L))) := RD.out.cut _ (trimLen_le _)
        have TL : Hid ((∀ x ∈ L.take (trimLen L), x < 4294967296) ∧ (L.take (trimLen L)).length ≤ 2199023255552) := ⟨fun x hx => P2.out x (List.mem_of_mem_take hx), by simp; omega⟩
        have TV : Hid (lval 4294967296 (L.take (trimLen L)) = a + b) := by unfold Hid; rw [lval_trim, P1.out]; rw [HX.out.2.2.2.2.1, HX.out.2.2.2.2.2]
        clear hL hown1 hgrow
        have CT := Lib.hid (cutd_any v' L w9 (by omega) RD.out)
        generalize L.take (trimLen L) = TT at *
        generalize trimLen L = tn at *
        go_wp2_with (first | (go_at_call 98; (with_reducible refine (CT.out).mono ?_); rintro e w' ⟨rfl, rfl⟩) | (go_at_call 90; (with_reducible refine (whole_num _ TT _ TK.out TL.out.1 TL.out.2).mono ?_); rintro e w10 ⟨u, rfl, hN, hb10⟩))
        go_ret
        refine ⟨_, rfl, by rw [← TV.out]; exact hN, ?_⟩
        exact (hb1.trans (hb2.mono hb1.size)).trans ((hB9.mono (Nat.le_trans hb1.size hb2.size)).trans (hb10.mono (Nat.le_trans (Nat.le_trans hb1.size hb2.size) hB9.size)))
end Go.Proofs.YtldchepfcgbpiaaGreat
