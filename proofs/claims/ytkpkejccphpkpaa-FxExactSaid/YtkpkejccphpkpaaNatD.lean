/-
  The references' whole numbers: a slice of limbs as a number.
-/
import Derived.Test.YtkpkejccphpkpaaNatC
import Derived.Test.YtkpkejccphpkpaaWideA
namespace Go.Proofs.Ytkpkejccphpkpaa
open Go.RowKit

theorem lval_append (B : Nat) : ∀ us vs : List Nat, lval B (us ++ vs) = lval B us + B ^ us.length * lval B vs
  | [], vs => by simp [lval]
  | x :: us, vs => by
    have ih := lval_append B us vs
    simp only [List.cons_append, lval, ih, List.length_cons, Nat.pow_succ]
    rw [Nat.mul_add, Nat.mul_comm (B ^ us.length) B, Nat.mul_assoc]
    omega
theorem lval_split (B : Nat) (ls : List Nat) (i : Nat) (h : i ≤ ls.length) : lval B ls = lval B (ls.take i) + B ^ i * lval B (ls.drop i) := by
  conv => lhs; rw [← List.take_append_drop i ls]
  rw [lval_append, List.length_take, Nat.min_eq_left h]
theorem lval_lt (B : Nat) (hB : 0 < B) : ∀ ls : List Nat, (∀ x ∈ ls, x < B) → lval B ls < B ^ ls.length
  | [], _ => by simp [lval]
  | x :: ls, h => by
    have ih := lval_lt B hB ls (fun y hy => h y (List.mem_cons_of_mem _ hy))
    have hx := h x List.mem_cons_self
    simp only [lval, List.length_cons, Nat.pow_succ]
    have := Nat.mul_le_mul_left B (show lval B ls + 1 ≤ B ^ ls.length from ih)
    rw [Nat.mul_add, Nat.mul_one, Nat.mul_comm B (B ^ ls.length)] at this
    omega
theorem lval_ge (B : Nat) (ls : List Nat) (h : trimLen ls = ls.length) (h0 : ls ≠ []) : B ^ (ls.length - 1) ≤ lval B ls := by
  have hl : 0 < ls.length := List.length_pos_iff.2 h0
  have hn : ls.getD (ls.length - 1) 0 ≠ 0 := by
    rcases trim_last ls with h1 | h1
    · omega
    · rwa [h] at h1
  rw [lval_split B ls (ls.length - 1) (by omega)]
  have e : ls.drop (ls.length - 1) = [ls.getD (ls.length - 1) 0] := by
    have hlt : ls.length - 1 < ls.length := by omega
    rw [List.drop_eq_getElem_cons hlt, List.drop_eq_nil_of_le (by omega)]
    simp [List.getD, hlt]
  rw [e]
  simp only [lval, Nat.mul_zero, Nat.add_zero]
  have := Nat.mul_le_mul_left (B ^ (ls.length - 1)) (show 1 ≤ ls.getD (ls.length - 1) 0 by omega)
  omega
theorem trim_take (ls : List Nat) : trimLen (ls.take (trimLen ls)) = (ls.take (trimLen ls)).length := by
  have hl := trimLen_le ls
  have e : (ls.take (trimLen ls)).length = trimLen ls := by simp [Nat.min_eq_left hl]
  rw [e]
  refine trimLen_is _ _ (by rw [e]; exact Nat.le_refl _) (fun i hi => ?_) ?_
  · simp only [List.getD_eq_getElem?_getD, List.getElem?_take]; rw [if_neg (by omega)]; rfl
  · rcases trim_last ls with h | h
    · exact .inl h
    · right
      by_cases h0 : trimLen ls = 0
      · rw [h0]; rw [h0] at h; simp only [List.take_zero]; simp; rw [h0] at hl; cases ls with
        | nil => simp at h
        | cons x xs =>
          simp [trimLen] at h0
          split at h0
          · split at h0
            · rename_i hx; simp [hx] at h
            · omega
          · omega
      · simp only [List.getD_eq_getElem?_getD, List.getElem?_take] at h ⊢; rw [if_pos (by omega)]; exact h

/-- Beyond all numbers that a statement speaks of: 2^18 limbs of 64 bits. -/
def BIG : Nat := 2 ^ 16777216
theorem pow2_mono (k m : Nat) (h : k ≤ m) : 2 ^ k ≤ 2 ^ m := Nat.pow_le_pow_right (by decide) h
theorem big_of {n k : Nat} (h : n < 2 ^ k) (hk : k ≤ 16777216) : n < BIG := by
  unfold BIG
  exact Nat.lt_of_lt_of_le h (pow2_mono k 16777216 hk)
/-- The slice v of limbs is the number n: no nought on top. -/
def IsN (w : World) (v : Value) (n : Nat) : Prop := ∃ ls, Rd .u64 w v ls ∧ (∀ x ∈ ls, x < 18446744073709551616) ∧ lval 18446744073709551616 ls = n ∧ trimLen ls = ls.length
/-- The slice v of digits of 32 bits is the number n. -/
def IsD (w : World) (v : Value) (n : Nat) : Prop := ∃ ls, Rd .u32 w v ls ∧ (∀ x ∈ ls, x < 4294967296) ∧ lval 4294967296 ls = n ∧ trimLen ls = ls.length
theorem IsN.below {w w' : World} {v : Value} {n : Nat} (h : IsN w v n) (hb : Below w.heap.size w w') : IsN w' v n := by
  obtain ⟨ls, h1, h2⟩ := h; exact ⟨ls, h1.below hb, h2⟩
theorem IsD.below {w w' : World} {v : Value} {n : Nat} (h : IsD w v n) (hb : Below w.heap.size w w') : IsD w' v n := by
  obtain ⟨ls, h1, h2⟩ := h; exact ⟨ls, h1.below hb, h2⟩
theorem len_big {B k : Nat} {ls : List Nat} (hB : B = 2 ^ k) (hk : 1 ≤ k) (h : trimLen ls = ls.length) (hb : lval B ls < BIG) : ls.length * k ≤ 16777216 + k := by
  subst hB
  by_cases h0 : ls = []
  · subst h0; simp
  · have := lval_ge (2 ^ k) ls h h0
    rcases Nat.lt_or_ge 16777216 ((ls.length - 1) * k) with hgt | hle
    · exfalso
      have h1 : BIG ≤ 2 ^ ((ls.length - 1) * k) := by
        unfold BIG
        exact pow2_mono 16777216 _ (by omega)
      rw [← Nat.pow_mul, Nat.mul_comm k] at this
      omega
    · have hl : 0 < ls.length := List.length_pos_iff.2 h0
      have : ls.length * k = (ls.length - 1) * k + k := by
        conv => lhs; rw [show ls.length = (ls.length - 1) + 1 by omega]
        rw [Nat.succ_mul]
      omega
theorem len_n {ls : List Nat} (h : trimLen ls = ls.length) (hb : lval 18446744073709551616 ls < BIG) : ls.length ≤ 262145 := by
  have := len_big (B := 18446744073709551616) (k := 64) (by decide) (by decide) h hb; omega
theorem len_d {ls : List Nat} (h : trimLen ls = ls.length) (hb : lval 4294967296 ls < BIG) : ls.length ≤ 524289 := by
  have := len_big (B := 4294967296) (k := 32) (by decide) (by decide) h hb; omega
theorem split2_lt : ∀ (ls : List Nat), (∀ x ∈ ls, x < 18446744073709551616) → ∀ y ∈ split2 ls, y < 4294967296
  | [], _, y, hy => by cases hy
  | x :: ls, h, y, hy => by
    have ih := split2_lt ls (fun z hz => h z (List.mem_cons_of_mem _ hz))
    have hx := h x List.mem_cons_self
    simp only [split2, List.mem_cons] at hy
    rcases hy with rfl | rfl | hy
    · omega
    · omega
    · exact ih y hy
theorem join2_lt : ∀ (n : Nat) (ls : List Nat), ls.length ≤ n → (∀ x ∈ ls, x < 4294967296) → ∀ y ∈ join2 ls, y < 18446744073709551616
  | _, [], _, _, y, hy => by cases hy
  | _, [x], _, h, y, hy => by simp [join2] at hy; have := h x List.mem_cons_self; omega
  | 0, x :: y :: ls, hl, _, _, _ => by simp at hl
  | n + 1, x :: y :: ls, hl, h, z, hz => by
    have ih := join2_lt n ls (by simp at hl; omega) (fun z hz => h z (List.mem_cons_of_mem _ (List.mem_cons_of_mem _ hz)))
    have hx := h x List.mem_cons_self
    have hy := h y (List.mem_cons_of_mem _ List.mem_cons_self)
    simp only [join2, List.mem_cons] at hz
    rcases hz with rfl | hz
    · omega
    · exact ih z hz
/-- halves, of numbers -/
def SomeD (w : World) (n : Nat) (e : Ending) (w' : World) : Prop := ∃ v, e = .returned v ∧ IsD w' v n ∧ Below w.heap.size w w'
def SomeN (w : World) (n : Nat) (e : Ending) (w' : World) : Prop := ∃ v, e = .returned v ∧ IsN w' v n ∧ Below w.heap.size w w'
/-- As SomeN, and the number lies in none of the blocks that were there. -/
def SomeNF (w : World) (n : Nat) (e : Ending) (w' : World) : Prop := ∃ v, e = .returned v ∧ IsN w' v n ∧ Below w.heap.size w w' ∧ ∀ b, b < w.heap.size → v.ownBlock ≠ some b
theorem SomeNF.some {w : World} {n : Nat} {e : Ending} {w' : World} (h : SomeNF w n e w') : SomeN w n e w' := by
  obtain ⟨v, h1, h2, h3, _⟩ := h; exact ⟨v, h1, h2, h3⟩
theorem halves_num (v : Value) (n : Nat) (w : World) (h : IsN w v n) (hb : n < BIG) : Calls Try.prog 115 #[v] w (SomeD w n) := by
  obtain ⟨ls, h1, h2, rfl, h4⟩ := h
  refine (halves_any v ls w h2 (by have := len_n h4 hb; omega) h1).mono fun e w' ⟨u, he, hr, hB⟩ => ⟨u, he, ⟨_, hr, ?_, ?_, trim_take _⟩, hB⟩
  · exact fun x hx => split2_lt ls h2 x (List.mem_of_mem_take hx)
  · rw [lval_trim, split2_val ls h2]
theorem whole_far (v : Value) (ls : List Nat) (w : World) (h : Rd .u32 w v ls) (h2 : ∀ x ∈ ls, x < 4294967296) (hl : ls.length ≤ 2199023255552) : Calls Try.prog 116 #[v] w (SomeNF w (lval 4294967296 ls)) := by
  refine (whole_any v ls w h2 hl h).mono fun e w' ⟨u, he, hr, hB, hF⟩ => ⟨u, he, ⟨_, hr, ?_, ?_, trim_take _⟩, hB, hF⟩
  · exact fun x hx => join2_lt ls.length ls (Nat.le_refl _) h2 x (List.mem_of_mem_take hx)
  · rw [lval_trim, join2_val ls.length ls (by omega)]
theorem whole_num (v : Value) (ls : List Nat) (w : World) (h : Rd .u32 w v ls) (h2 : ∀ x ∈ ls, x < 4294967296) (hl : ls.length ≤ 2199023255552) : Calls Try.prog 116 #[v] w (SomeN w (lval 4294967296 ls)) :=
  (whole_far v ls w h h2 hl).mono fun _ _ h => h.some
theorem nof_num (x : Nat) (w : World) (hx : x < 18446744073709551616) : Calls Try.prog 51 #[.int .u64 x] w (SomeN w x) := by
  refine (nof_any x w).mono fun e w' ⟨he, hw⟩ => ?_
  subst hw
  refine ⟨_, he, ⟨[x].take (trimLen [x]), ?_, ?_, ?_, trim_take _⟩, (Below.refl _ _).alloc (Nat.le_refl _) _⟩
  · exact (Rd.one w x 23).cut _ (trimLen_le _)
  · intro y hy; have := List.mem_of_mem_take hy; simp at this; omega
  · rw [lval_trim]; simp [lval]
end Go.Proofs.Ytkpkejccphpkpaa
