/-
  Lists of limbs: their trailing noughts, their value; what a slice of limbs reads as.
-/
import Derived.Test.YtkpkejccphpkpaaNum
import Derived.WalkKit
import Derived.WalkSpells
import Derived.Lib.Hide
namespace Go.Proofs.Ytkpkejccphpkpaa
open Go.RowKit

/-- How many limbs are left without noughts on top. -/
def trimLen : List Nat → Nat
  | [] => 0
  | x :: ls => if trimLen ls = 0 then (if x = 0 then 0 else 1) else trimLen ls + 1
theorem trimLen_le : ∀ ls : List Nat, trimLen ls ≤ ls.length
  | [] => Nat.le_refl _
  | x :: ls => by
    have := trimLen_le ls
    simp only [trimLen, List.length_cons]
    split
    · split <;> omega
    · omega
theorem trimLen_is : ∀ (ls : List Nat) (k : Nat), k ≤ ls.length → (∀ i, k ≤ i → ls.getD i 0 = 0) → (k = 0 ∨ ls.getD (k - 1) 0 ≠ 0) → trimLen ls = k
  | [], k, h, _, _ => by simp at h; simp [trimLen, h]
  | x :: ls, 0, _, hz, _ => by
    have ih := trimLen_is ls 0 (Nat.zero_le _) (fun i _ => by have := hz (i + 1) (Nat.zero_le _); simpa using this) (.inl rfl)
    have hx : x = 0 := by have := hz 0 (Nat.le_refl _); simpa using this
    simp [trimLen, ih, hx]
  | x :: ls, 1, _, hz, hn => by
    have ih := trimLen_is ls 0 (Nat.zero_le _) (fun i _ => by have := hz (i + 1) (by omega); simpa using this) (.inl rfl)
    have hx : x ≠ 0 := by rcases hn with h | h
                          · omega
                          · simpa using h
    simp [trimLen, ih, hx]
  | x :: ls, k + 2, h, hz, hn => by
    have ih := trimLen_is ls (k + 1) (by simp at h; omega) (fun i hi => by have := hz (i + 1) (by omega); simpa using this) (.inr (by
      rcases hn with h' | h'
      · omega
      · simpa using h'))
    simp [trimLen, ih]
/-- The value of limbs, the lowest first. -/
def lval (B : Nat) : List Nat → Nat
  | [] => 0
  | x :: ls => x + B * lval B ls
theorem lval_trim (B : Nat) : ∀ ls : List Nat, lval B (ls.take (trimLen ls)) = lval B ls
  | [] => rfl
  | x :: ls => by
    have ih := lval_trim B ls
    simp only [trimLen]
    split
    · rename_i h0
      rw [h0] at ih
      simp only [List.take_zero, lval] at ih
      split
      · rename_i hx; simp [lval, hx, ← ih]
      · simp [lval, ← ih]
    · simp [lval, ih]
theorem trim_last : ∀ ls : List Nat, trimLen ls = 0 ∨ ls.getD (trimLen ls - 1) 0 ≠ 0
  | [] => .inl rfl
  | x :: ls => by
    simp only [trimLen]
    split
    · split
      · exact .inl rfl
      · rename_i h; exact .inr (by simpa using h)
    · rename_i h0
      rcases trim_last ls with h | h
      · exact absurd h h0
      · right
        obtain ⟨m, hm⟩ : ∃ m, trimLen ls = m + 1 := ⟨trimLen ls - 1, by omega⟩
        rw [hm] at h ⊢
        simpa using h

/-- What a slice of whole numbers of kind k reads as. -/
def Rd (k : IntKind) (w : World) (v : Value) (ls : List Nat) : Prop :=
  (v = .slice none 0 0 ∧ ls = []) ∨ ∃ b off cap, v = .slice (some ⟨b, off, none⟩) ls.length cap ∧ ls.length ≤ cap ∧ b < w.heap.size ∧ ∀ i, i < ls.length → w.cell? ⟨b, off + i, none⟩ = some (.int k (ls.getD i 0 : Nat))
theorem Rd.below {k : IntKind} {w w' : World} {v : Value} {ls : List Nat} (h : Rd k w v ls) (hb : Below w.heap.size w w') : Rd k w' v ls := by
  rcases h with h | ⟨b, off, cap, e, hc, hl, h⟩
  · exact .inl h
  · exact .inr ⟨b, off, cap, e, hc, Nat.lt_of_lt_of_le hl hb.size, fun i hi => (hb.cell (p := ⟨b, off + i, none⟩) hl).trans (h i hi)⟩
theorem Rd.take {k : IntKind} {w : World} {b off cap : Nat} {ls : List Nat} (hc : ls.length ≤ cap) (hl : b < w.heap.size) (h : ∀ i, i < ls.length → w.cell? ⟨b, off + i, none⟩ = some (.int k (ls.getD i 0 : Nat))) (n : Nat) (hn : n ≤ ls.length) :
    Rd k w (.slice (some ⟨b, off, none⟩) n cap) (ls.take n) := by
  refine .inr ⟨b, off, cap, by simp [Nat.min_eq_left hn], by simp; omega, hl, fun i hi => ?_⟩
  simp at hi
  have : (ls.take n).getD i 0 = ls.getD i 0 := by simp only [List.getD_eq_getElem?_getD, List.getElem?_take]; rw [if_pos (by omega)]
  rw [this]
  exact h i (by omega)
/-- Where a slice is cut back to n of its elements. -/
def cutv : Value → Nat → Value
  | .slice none _ _, _ => .slice none 0 0
  | .slice (some a) _ c, n => .slice (some a) n c
  | v, _ => v
theorem Rd.cut {k : IntKind} {w : World} {v : Value} {ls : List Nat} (h : Rd k w v ls) (n : Nat) (hn : n ≤ ls.length) : Rd k w (cutv v n) (ls.take n) := by
  rcases h with ⟨rfl, rfl⟩ | ⟨b, off, cap, rfl, hc, hl, h⟩
  · exact .inl ⟨rfl, by simp⟩
  · exact Rd.take hc hl h n hn
end Go.Proofs.Ytkpkejccphpkpaa
