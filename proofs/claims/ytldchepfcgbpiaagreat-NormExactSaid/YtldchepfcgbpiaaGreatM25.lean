/-
  package norm: what the search says: the nearest whole number, by squares.
  package norm and the reference: the nearest whole number, halves to the even one, is one number.
  package reduce: Max.
  What ReduceTwice says, in numbers: sums by two axes, by none; greatest words.
  Products of matrices, in numbers: shapes, blocks, sums.
  package matmul: do two shapes fit, and what do they tell.
  package matmul: what two shapes tell.
  package matmul: the sums of one row with each column of a matrix.
  slices.Chunk over whole numbers, in as many chunks as go into the list: the iterator's contract.
  package norm: what the walk over a tensor's rows keeps.
-/
import Derived.BigQuiet
import Derived.Deep.QuietTactic
import Derived.RangeFuncNested
import Derived.RangeFuncBound
import Derived.RangeFuncCalls
import Derived.RangeFuncLeaves
import Derived.RangeFuncBox
import Derived.Shelf.Abstract
import Derived.Shelf.RegionOpen
import Derived.WalkKit
import Derived.OwnWalkIn
import Derived.TacticsInMore
import Derived.LoopNIn
import Derived.LoopIn
import Derived.Maps.AppendAt
import Derived.Test.YtldchepfcgbpiaaGreatM13
import Derived.Test.YtldchepfcgbpiaaGreatM16
import Derived.Test.YtldchepfcgbpiaaGreatM17
import Derived.Test.YtldchepfcgbpiaaGreatM18
import Derived.Test.YtldchepfcgbpiaaGreatM19
import Derived.Test.YtldchepfcgbpiaaGreatM24
namespace Go.Proofs.YtldchepfcgbpiaaGreat
open Go.RowKit Go.Shelf

theorem sq_le {a b : Int} (h0 : 0 ≤ a) (h : a ≤ b) : a * a ≤ b * b := Int.mul_le_mul h h h0 (by omega)
theorem sq_up {a b : Int} (Q : Nat) (h0 : 0 ≤ a) (h : a ≤ b) : a * a * Q ≤ b * b * Q := Int.mul_le_mul_of_nonneg_right (sq_le h0 h) (by omega)
theorem nsr_spec (Q D : Nat) : ∀ (j : Nat) (k : Int), 0 ≤ k → (k = 0 ∨ (2 * k - 1) * (2 * k - 1) * Q < D) → (D : Int) < (2 * (k + 2 ^ j) - 1) * (2 * (k + 2 ^ j) - 1) * Q →
    0 ≤ nsr Q D j k ∧ (nsr Q D j k = 0 ∨ (2 * nsr Q D j k - 1) * (2 * nsr Q D j k - 1) * Q ≤ D) ∧ (D : Int) ≤ (2 * nsr Q D j k + 1) * (2 * nsr Q D j k + 1) * Q
  | 0, k, h0, h1, h2 => by
    unfold nsr
    have e : 2 * (k + 2 ^ 0) - 1 = 2 * k + 1 := by omega
    rw [e] at h2
    refine ⟨h0, ?_, by omega⟩
    rcases h1 with h1 | h1
    · exact .inl h1
    · exact .inr (by omega)
  | j + 1, k, h0, h1, h2 => by
    have hp : (2 : Int) ^ (j + 1) = 2 ^ j + 2 ^ j := by rw [Int.pow_succ]; omega
    have p1 : (0 : Int) < 2 ^ j := Int.pow_pos (by decide)
    unfold nsr
    obtain ⟨nx, hnx⟩ : ∃ x, x = k + (2 : Int) ^ j := ⟨_, rfl⟩
    have e2 : k + (2 : Int) ^ (j + 1) = nx + 2 ^ j := by omega
    rw [e2] at h2
    rw [← hnx]
    have hc : ((((2 * nx - 1) * (2 * nx - 1)).toNat * Q : Nat) : Int) = (2 * nx - 1) * (2 * nx - 1) * Q := by
      rw [Int.natCast_mul, Int.toNat_of_nonneg (Int.mul_nonneg (by omega) (by omega))]
    rw [hc]
    obtain ⟨C, hC⟩ : ∃ C, C = (2 * nx - 1) * (2 * nx - 1) * (Q : Int) := ⟨_, rfl⟩
    rw [← hC]
    rcases Int.lt_trichotomy C (D : Int) with hl | he | hg
    · have s := sg_lt hl
      rw [if_neg (by rw [s]; decide), if_pos s]
      exact nsr_spec Q D j nx (by omega) (.inr (by rw [← hC]; exact hl)) h2
    · have s : sg C (D : Int) = 0 := by rw [he]; exact sg_eq _
      rw [if_pos s]
      have ht : nx.tmod 2 = 0 ∨ nx.tmod 2 = 1 := by rw [Int.tmod_eq_emod_of_nonneg (by omega)]; omega
      rcases ht with ht | ht
      · rw [ht, Int.sub_zero]
        refine ⟨by omega, .inr (by omega), ?_⟩
        have := sq_up Q (show 0 ≤ 2 * nx - 1 by omega) (show 2 * nx - 1 ≤ 2 * nx + 1 by omega)
        omega
      · rw [ht]
        have e3 : 2 * (nx - 1) + 1 = 2 * nx - 1 := by omega
        rw [e3]
        refine ⟨by omega, ?_, by omega⟩
        by_cases g : nx - 1 = 0
        · exact .inl g
        · refine .inr ?_
          have := sq_up Q (show 0 ≤ 2 * (nx - 1) - 1 by omega) (show 2 * (nx - 1) - 1 ≤ 2 * nx - 1 by omega)
          omega
    · have s := sg_gt hg
      rw [if_neg (by rw [s]; decide), if_neg (by rw [s]; decide)]
      exact nsr_spec Q D j k h0 h1 (by rw [← hnx, ← hC]; exact hg)
/-- The distances' squares, summed. -/
theorem dist_sq (n S : Int) : ∀ l : List Int, (l.map fun a => (n * a - S) * (n * a - S)).sum = n * n * (l.map fun a => a * a).sum - 2 * n * S * l.sum + l.length * (S * S)
  | [] => by simp
  | a :: l => by
    have i := dist_sq n S l
    simp only [List.map_cons, List.sum_cons, List.length_cons]
    rw [i]
    generalize (l.map fun a => a * a).sum = T
    generalize l.sum = R
    generalize (l.length : Nat) = m
    push_cast
    simp only [Int.sub_mul, Int.mul_sub, Int.add_mul, Int.mul_add, Int.one_mul, Int.mul_assoc, Int.mul_left_comm a n, Int.mul_left_comm S n, Int.mul_comm S a]
    omega
theorem dist_all (l : List Int) : (l.map fun a => ((l.length : Int) * a - l.sum) * ((l.length : Int) * a - l.sum)).sum = l.length * dsq l.length l.sum l := by
  rw [dist_sq, dsq_open]
  generalize (l.map fun a => a * a).sum = T
  generalize l.sum = S
  generalize (l.length : Nat) = m
  simp only [Int.mul_sub, Int.mul_assoc]
  omega
end Go.Proofs.YtldchepfcgbpiaaGreat
namespace Go.Proofs.YtldchepfcgbpiaaGreat
open Go.RowKit Go.Shelf

/-- v is the nearest whole number to half the root of D over Q, the even one of two. -/
def Nst (Q D : Nat) (v : Int) : Prop := 0 ≤ v ∧ (v = 0 ∨ (2 * v - 1) * (2 * v - 1) * Q ≤ D) ∧ (D : Int) ≤ (2 * v + 1) * (2 * v + 1) * Q ∧ ((2 * v - 1) * (2 * v - 1) * Q = D ∨ (2 * v + 1) * (2 * v + 1) * (Q : Int) = D → v % 2 = 0)
theorem sqlt2 {a b : Int} (h0 : 0 ≤ a) (h : a < b) : a * a < b * b := by
  have h1 := Int.mul_le_mul_of_nonneg_left (Int.le_of_lt h) h0
  have h2 := Int.mul_lt_mul_of_pos_right h (show 0 < b by omega)
  omega
theorem nst_lt {Q D : Nat} {v r : Int} (hQ : 0 < Q) (h : Nst Q D v) (k : Nst Q D r) (hl : v < r) : False := by
  obtain ⟨a0, _, a2, a3⟩ := h
  obtain ⟨_, b1, _, b3⟩ := k
  rcases b1 with b1 | b1
  · omega
  · have hQ' : (0 : Int) < (Q : Int) := by omega
    by_cases e : r = v + 1
    · have e2 : 2 * r - 1 = 2 * v + 1 := by omega
      rw [e2] at b1 b3
      have p1 := a3 (.inr (by omega))
      have p2 := b3 (.inl (by omega))
      omega
    · have := Int.mul_lt_mul_of_pos_right (sqlt2 (a := 2 * v + 1) (b := 2 * r - 1) (by omega) (by omega)) hQ'
      omega
theorem nst_uniq {Q D : Nat} {v r : Int} (hQ : 0 < Q) (h : Nst Q D v) (k : Nst Q D r) : v = r := by
  rcases Int.lt_trichotomy v r with g | g | g
  · exact (nst_lt hQ h k g).elim
  · exact g
  · exact (nst_lt hQ k h g).elim
theorem nsr_even (Q D : Nat) (hQ : 0 < Q) : ∀ (j : Nat) (k : Int), 0 ≤ k → (k = 0 ∨ (2 * k - 1) * (2 * k - 1) * Q < D) → (D : Int) < (2 * (k + 2 ^ j) - 1) * (2 * (k + 2 ^ j) - 1) * Q →
    ((2 * nsr Q D j k - 1) * (2 * nsr Q D j k - 1) * Q = D ∨ (2 * nsr Q D j k + 1) * (2 * nsr Q D j k + 1) * (Q : Int) = D → nsr Q D j k % 2 = 0)
  | 0, k, h0, h1, h2 => by
    unfold nsr
    have e : 2 * (k + 2 ^ 0) - 1 = 2 * k + 1 := by omega
    rw [e] at h2
    intro h
    rcases h with h | h
    · rcases h1 with h1 | h1
      · subst h1; decide
      · omega
    · omega
  | j + 1, k, h0, h1, h2 => by
    have p1 : (0 : Int) < 2 ^ j := Int.pow_pos (by decide)
    unfold nsr
    obtain ⟨nx, hnx⟩ : ∃ x, x = k + (2 : Int) ^ j := ⟨_, rfl⟩
    have hp : (2 : Int) ^ (j + 1) = 2 ^ j + 2 ^ j := by rw [Int.pow_succ]; omega
    have e2 : k + (2 : Int) ^ (j + 1) = nx + 2 ^ j := by omega
    rw [e2] at h2
    rw [← hnx]
    have hc : ((((2 * nx - 1) * (2 * nx - 1)).toNat * Q : Nat) : Int) = (2 * nx - 1) * (2 * nx - 1) * Q := by
      rw [Int.natCast_mul, Int.toNat_of_nonneg (Int.mul_nonneg (by omega) (by omega))]
    rw [hc]
    obtain ⟨C, hC⟩ : ∃ C, C = (2 * nx - 1) * (2 * nx - 1) * (Q : Int) := ⟨_, rfl⟩
    rw [← hC]
    rcases Int.lt_trichotomy C (D : Int) with hl | he | hg
    · have s := sg_lt hl
      rw [if_neg (by rw [s]; decide), if_pos s]
      exact nsr_even Q D hQ j nx (by omega) (.inr (by rw [← hC]; exact hl)) h2
    · have s : sg C (D : Int) = 0 := by rw [he]; exact sg_eq _
      rw [if_pos s]
      intro _
      rw [Int.tmod_eq_emod_of_nonneg (by omega)]
      omega
    · have s := sg_gt hg
      rw [if_neg (by rw [s]; decide), if_neg (by rw [s]; decide)]
      exact nsr_even Q D hQ j k h0 h1 (by rw [← hnx, ← hC]; exact hg)
theorem nsr_nst {Q D j : Nat} (hQ : 0 < Q) (hD : (D : Int) < (2 * (0 + 2 ^ j) - 1) * (2 * (0 + 2 ^ j) - 1) * Q) : Nst Q D (nsr Q D j 0) := by
  obtain ⟨a, b, c⟩ := nsr_spec Q D j 0 (Int.le_refl _) (.inl rfl) hD
  exact ⟨a, b, c, nsr_even Q D hQ j 0 (Int.le_refl _) (.inl rfl) hD⟩
/-- Of two numbers of one ratio: what is compared with one is compared with the other. -/
theorem rat_cmp {A P : Int} {Q D E : Nat} (hQ : 0 < Q) (hE : 0 < E) (h : (D : Int) * E = 4 * P * Q) : (A * E < P * 4 → A * Q < D) ∧ (A * E = P * 4 → A * Q = D) ∧ (P * 4 < A * E → (D : Int) < A * Q) := by
  have q0 : (0 : Int) < (Q : Int) := by omega
  have e0 : (0 : Int) < (E : Int) := by omega
  have k1 : A * E * Q = A * Q * E := Int.mul_right_comm _ _ _
  have k2 : P * 4 * Q = D * E := by rw [h, Int.mul_comm P 4]
  refine ⟨fun g => ?_, fun g => ?_, fun g => ?_⟩
  · have := Int.mul_lt_mul_of_pos_right g q0
    rw [k1, k2] at this
    exact Int.lt_of_mul_lt_mul_right this (by omega)
  · have : A * Q * E = D * E := by rw [← k1, g, k2]
    exact Int.eq_of_mul_eq_mul_right (by omega) this
  · have := Int.mul_lt_mul_of_pos_right g q0
    rw [k1, k2] at this
    exact Int.lt_of_mul_lt_mul_right this (by omega)
theorem rnr_nst {s P : Int} {Q D E : Nat} (hQ : 0 < Q) (hE : 0 < E) (h : (D : Int) * E = 4 * P * Q) (hs : Rt (P / (E : Int)) s) : Nst Q D (rnr s P E) := by
  obtain ⟨s0, s1, s2⟩ := hs
  have e0 : (0 : Int) < (E : Int) := by omega
  have q0 : (0 : Int) < (Q : Int) := by omega
  have l1 : s * s * E ≤ P := (Int.le_ediv_iff_mul_le e0).1 s1
  have l2 : P < (s + 1) * (s + 1) * E := (Int.ediv_lt_iff_lt_mul e0).1 s2
  -- the root's bounds, fourfold
  have b1 : 4 * (s * s) * Q ≤ D := by
    have g := (rat_cmp (A := 4 * (s * s)) hQ hE h)
    refine Int.not_lt.1 fun c => ?_
    have k : 4 * (s * s) * E ≤ P * 4 := by rw [Int.mul_assoc]; omega
    rcases Int.lt_or_eq_of_le k with k | k
    · have := g.1 k; omega
    · have := g.2.1 k; omega
  have b2 : (D : Int) < 4 * ((s + 1) * (s + 1)) * Q := by
    have g := (rat_cmp (A := 4 * ((s + 1) * (s + 1))) hQ hE h)
    exact g.2.2 (by rw [Int.mul_assoc]; omega)
  have sq4 : ∀ a : Int, 4 * (a * a) = (2 * a) * (2 * a) := fun a => by rw [Int.mul_assoc, Int.mul_left_comm a 2 a]; omega
  have g := rat_cmp (A := (2 * s + 1) * (2 * s + 1)) hQ hE h
  have up : (2 * s + 1) * (2 * s + 1) * Q ≤ D → ((2 * s + 1) * (2 * s + 1) * (Q : Int) = D → s % 2 = 1) → Nst Q D (s + 1) := fun k1 k2 => by
    have e1 : 2 * (s + 1) - 1 = 2 * s + 1 := by omega
    have lt3 : (D : Int) < (2 * (s + 1) + 1) * (2 * (s + 1) + 1) * Q := by
      have := Int.mul_le_mul_of_nonneg_right (sq_le (a := 2 * (s + 1)) (b := 2 * (s + 1) + 1) (by omega) (by omega)) (show (0 : Int) ≤ Q by omega)
      rw [sq4] at b2
      omega
    refine ⟨by omega, .inr (by rw [e1]; exact k1), by omega, fun t => ?_⟩
    rw [e1] at t
    rcases t with t | t
    · have := k2 t; omega
    · omega
  have low : (D : Int) ≤ (2 * s + 1) * (2 * s + 1) * Q → ((2 * s + 1) * (2 * s + 1) * (Q : Int) = D → s % 2 = 0) → Nst Q D s := fun k1 k2 => by
    refine ⟨s0, ?_, k1, fun t => ?_⟩
    · by_cases z : s = 0
      · exact .inl z
      · refine .inr ?_
        have := Int.mul_le_mul_of_nonneg_right (sq_le (a := 2 * s - 1) (b := 2 * s) (by omega) (by omega)) (show (0 : Int) ≤ Q by omega)
        rw [sq4] at b1
        omega
    · rcases t with t | t
      · by_cases z : s = 0
        · subst z; decide
        · have := Int.mul_lt_mul_of_pos_right (sqlt2 (a := 2 * s - 1) (b := 2 * s) (by omega) (by omega)) q0
          rw [sq4] at b1
          omega
      · exact k2 t
  unfold rnr
  split
  · rename_i c
    have := g.1 c
    exact up (by omega) (fun t => by omega)
  · rename_i c
    split
    · rename_i c2
      have := g.2.1 c2.1
      exact up (by omega) (fun _ => c2.2)
    · rename_i c2
      rcases Int.lt_or_eq_of_le (Int.not_lt.1 c) with k | k
      · have := g.2.2 k
        exact low (by omega) (fun t => by omega)
      · have := g.2.1 k.symm
        exact low (by omega) (fun _ => by
          have : ¬ s % 2 = 1 := fun t => c2 ⟨k.symm, t⟩
          omega)
end Go.Proofs.YtldchepfcgbpiaaGreat
namespace Go.Proofs.YtldchepfcgbpiaaGreat
open Go Go.RowKit Go.Shelf
attribute [local go_sem] Oper.semAt_some

end Go.Proofs.YtldchepfcgbpiaaGreat
namespace Go.Proofs.YtldchepfcgbpiaaGreat

end Go.Proofs.YtldchepfcgbpiaaGreat
namespace Go.Proofs.YtldchepfcgbpiaaGreat

theorem prod_app : ∀ (x y : List Int), prod (x ++ y) = prod x * prod y
  | [], y => by show prod y = 1 * prod y; rw [Int.one_mul]
  | d :: x, y => by show d * prod (x ++ y) = d * prod x * prod y; rw [prod_app x y, Int.mul_assoc]
theorem take_last {a : List Int} {n : Nat} (h : a.length = n + 1) : a = a.take n ++ [a.getD n 0] := by
  have e : a.take (n + 1) = a := by rw [← h, List.take_length]
  have hn : n < a.length := by omega
  conv => lhs; rw [← e]
  rw [List.take_succ_eq_append_getElem hn]
  simp [List.getD, List.getElem?_eq_getElem hn]
theorem take_getD {a : List Int} {k n : Nat} (h : k < n) : (a.take n).getD k 0 = a.getD k 0 := by
  simp only [List.getD, List.getElem?_take_of_lt h]
end Go.Proofs.YtldchepfcgbpiaaGreat
namespace Go.Proofs.YtldchepfcgbpiaaGreat
open Go Go.RowKit Go.Shelf

theorem run_on {P : Program} {t e : TypeId} {i : TypeInfo} (hu : P.underlying t = some (.slice e)) (hi : P.info? e = some i) (hs : i.size = 1) (g f L c n : Nat) (h : n ≤ L) (hc : n < c) (wx : World) :
    (Instr.slice t (.slice (some ⟨g, f, none⟩) L c) (some (.int .i64 (n : Int))) none none).run P wx = .ok (.slice (some ⟨g, f + n, none⟩) (L - n) (c - n)) wx := by
  have a1 : (0 : Int) ≤ (n : Int) ∧ (n : Int) ≤ (L : Int) := by omega
  have a2 : ¬ c = n := by omega
  simp [Instr.slice, run_underlying hu, Instr.sliceBounds, Instr.sliceBound, asIntOf, sizeOf, typeInfo, hi, hs, a1.1, a2, Addr.add]
  rw [if_pos h]
  by_cases q : n = 0
  · subst q; simp
  · rw [if_neg q]
end Go.Proofs.YtldchepfcgbpiaaGreat
namespace Go.Proofs.YtldchepfcgbpiaaGreat
open Go Go.RowKit Go.Shelf

end Go.Proofs.YtldchepfcgbpiaaGreat
namespace Go.Proofs.YtldchepfcgbpiaaGreat
open Go Go.RowKit Go.Shelf

/-- Column j's sum when k words of the row are counted. -/
def cS (rl ml : List Int) (C k j : Nat) : Int := smA (fun i => rl.getD i 0 * ml.getD (i * C + j) 0) k
end Go.Proofs.YtldchepfcgbpiaaGreat
namespace Go.Proofs.YtldchepfcgbpiaaGreat
open Go Go.RowKit Go.Shelf
attribute [local go_sem] Oper.semAt_some

/-- The first j places. -/
def cks {N : Nat} : (j : Nat) → j ≤ N → List (Fin N)
  | 0, _ => []
  | j + 1, h => cks j (by omega) ++ [⟨j, h⟩]
theorem cks_len {N : Nat} : ∀ (j : Nat) (h : j ≤ N), (cks j h).length = j
  | 0, _ => rfl
  | j + 1, h => by simp [cks, cks_len j]
/-- What a round must keep: the two boxes. -/
def Kp2 (B1 B2 : Nat) (W W' : World) : Prop := W'.heap[B1]? = W.heap[B1]? ∧ W'.heap[B2]? = W.heap[B2]?
theorem Kp2.refl (B1 B2 : Nat) (W : World) : Kp2 B1 B2 W W := ⟨rfl, rfl⟩
theorem Kp2.trans {B1 B2 : Nat} {a b c : World} (h : Kp2 B1 B2 a b) (k : Kp2 B1 B2 b c) : Kp2 B1 B2 a c := ⟨k.1.trans h.1, k.2.trans h.2⟩
theorem Kp2.put {B1 B2 : Nat} {w : World} (h1 : B1 < w.heap.size) (h2 : B2 < w.heap.size) (W : World) (l : Nat) (o o' : Obj) (hl : w.heap.size ≤ l) (_ : W.heap[l]? = some o) (_ : o.isCells = false) (_ : o.isWalk = false) : Kp2 B1 B2 W (W.putObj l o') :=
  ⟨World.putObj_heap_other (by omega), World.putObj_heap_other (by omega)⟩
theorem Kp2.c1 {B1 B2 : Nat} {W W' : World} (h : Kp2 B1 B2 W W') : W'.cell? ⟨B1, 0, none⟩ = W.cell? ⟨B1, 0, none⟩ := by simp [World.cell?, h.1]
theorem Kp2.c2 {B1 B2 : Nat} {W W' : World} (h : Kp2 B1 B2 W W') : W'.cell? ⟨B2, 0, none⟩ = W.cell? ⟨B2, 0, none⟩ := by simp [World.cell?, h.2]
theorem run_mid {P : Program} {t e : TypeId} {i : TypeInfo} (hu : P.underlying t = some (.slice e)) (hi : P.info? e = some i) (hs : i.size = 1) (g f L c a m : Nat) (h : a + m ≤ c) (hm : 1 ≤ m) (wx : World) :
    (Instr.slice t (.slice (some ⟨g, f, none⟩) L c) (some (.int .i64 (a : Int))) (some (.int .i64 ((a : Int) + (m : Int)))) (some (.int .i64 ((a : Int) + (m : Int))))).run P wx = .ok (.slice (some ⟨g, f + a, none⟩) m m) wx := by
  have a1 : (0 : Int) ≤ (a : Int) + (m : Int) ∧ (a : Int) + (m : Int) ≤ (c : Int) := by omega
  have a2 : (a : Int) ≤ (a : Int) + (m : Int) := by omega
  have a3 : (0 : Int) ≤ (a : Int) := by omega
  have a4 : ((a : Int) + (m : Int)).toNat = a + m := by omega
  have a5 : ¬ a + m = a := by omega
  simp [Instr.slice, run_underlying hu, Instr.sliceBounds, Instr.sliceBound, asIntOf, sizeOf, typeInfo, hi, hs, a1.1, a1.2, Addr.add]
  have a6 : (a : Int) + (m : Int) ≤ max ((a : Int) + (m : Int)) 0 := by omega
  simp only [a4, a5, if_false]
  rw [if_pos a6, if_pos a2, Nat.add_sub_cancel_left]
  by_cases q : a = 0
  · subst q; simp
  · rw [if_neg q]
/-- A drawn region outside all rounds, at the wide fence: one frame is left. -/
theorem reg_wide {P : Program} {n id : Nat} {ops : Array Oper} {a F : Act} {W : World} {K : Exit → Act → World → Prop} {T : World → Prop} (h : (Code.region id ops true).wp P (fun e a2 W2 => e = .normal ∧ a2 = F ∧ T W2) a W) (hk : ∀ W2, T W2 → K .normal F W2) : (Code.region id ops true).wpIn Fence.wide n P K a W := by
  refine wpIn_mono (wpIn_wide.2 h) ?_
  rintro e a3 W3 ⟨rfl, rfl, h3⟩
  exact hk _ h3
/-- The chunk that the body is told. -/
def pck {N : Nat} (b f m : Nat) (x : Fin N) : Array Value := #[.slice (some ⟨b, f + x.1 * m, none⟩) m m]

set_option maxRecDepth 100000 in
set_option maxHeartbeats 4000000 in
theorem chunk1_in (n : Nat) (hn : 1 ≤ n) (l B1 B2 b f m N c : Nat) (hm : 1 ≤ m) (hNm : N * m ≤ 65536) (hc : N * m ≤ c) (J Jx : List (Fin N) → World → Prop)
    (hY : ∀ pre x W, J pre W → pre.length < N → YieldAt Fence.wide (n - 1) Tryz.prog l (pck b f m x) W fun e W' =>
      (e = .returned (.bool true) ∧ J (pre ++ [x]) W' ∧ Kp2 B1 B2 W W') ∨ (e = .returned (.bool false) ∧ Jx (pre ++ [x]) W'))
    (W : World) (hJa : AbidesFrom W.heap.size J) (h1 : W.cell? ⟨B1, 0, none⟩ = some (.slice (some ⟨b, f, none⟩) (N * m) c)) (h2 : W.cell? ⟨B2, 0, none⟩ = some (.int .i64 (m : Nat))) (h0 : J [] W) :
    CallsIn Fence.wide n Tryz.prog 40 #[.func (.yield l) #[] #[], .pointer (some ⟨B1, 0, none⟩), .pointer (some ⟨B2, 0, none⟩)] W fun e W' => (∃ v, e = .returned v) ∧
      ((∃ ys, ys = cks N (Nat.le_refl N) ∧ J ys W') ∨ (∃ pre, (∃ (j : Nat) (hj : j ≤ N), pre = cks j hj) ∧ Jx pre W')) := by
  obtain ⟨i1, hi1, hy0, hy1, hy2⟩ := info_parts infoW
  obtain ⟨NM, hNM⟩ : ∃ NM, NM = N * m := ⟨_, rfl⟩
  rw [← hNM] at hNm hc h1
  have HNM := Lib.hid hNM
  clear hNM
  refine callsIn_of_wp Tryz.func40 rfl trivial ?_ rfl
  simp only [Tryz.ntmps40, List.size_toArray, List.length_cons, List.length_nil, Nat.reduceAdd, Nat.reduceSub, Array.replicate_succ, Array.replicate_zero, List.push_toArray, List.append_toArray, List.nil_append, List.cons_append]
  have HC := Lib.hid (And.intro h1 h2)
  clear h1 h2
  gi_wp2
  gi_loopw [4] (fun s4 wQ => ∃ (j JM : Nat) (hj : j ≤ N), s4 = .int .i64 (JM : Nat) ∧ JM ≤ NM ∧ Hid (JM = j * m) ∧ J (cks j hj) wQ ∧ Hid (wQ.cell? ⟨B1, 0, none⟩ = some (.slice (some ⟨b, f, none⟩) NM c) ∧ wQ.cell? ⟨B2, 0, none⟩ = some (.int .i64 (m : Nat)))) (fun s4 _ => NM - (intOf s4).toNat)
  case atStart => exact ⟨0, 0, Nat.zero_le _, rfl, Nat.zero_le _, Lib.hid (by simp), h0, HC⟩
  case round =>
    obtain ⟨j, JM, hj, rfl, hJN, HJ, hJs, hK⟩ := hrel
    obtain ⟨k1, k2⟩ := hK.out
    by_cases hlt : j < N
    · have hJ1 : JM + m ≤ NM := by
        rw [HJ.out, HNM.out]
        have : (j + 1) * m ≤ N * m := Nat.mul_le_mul_right m hlt
        rwa [Nat.add_mul, Nat.one_mul] at this
      have HY : Hid (∀ w2, J (cks j hj) w2 → YieldAt Fence.wide (n - 1) Tryz.prog l #[.slice (some ⟨b, f + JM, none⟩) m m] w2 fun e W' => (e = .returned (.bool true) ∧ J (cks (j + 1) hlt) W' ∧ Kp2 B1 B2 w2 W') ∨ (e = .returned (.bool false) ∧ Jx (cks (j + 1) hlt) W')) := Lib.hid (fun w2 h => by
        have h2 := hY (cks j hj) ⟨j, hlt⟩ w2 h (by rw [cks_len]; exact hlt)
        rwa [show pck b f m (⟨j, hlt⟩ : Fin N) = #[.slice (some ⟨b, f + JM, none⟩) m m] by unfold pck; rw [HJ.out]] at h2)
      have HD : Hid (∀ q, J (cks j hj) (wr.drewN q)) := Lib.hid (fun q => by
        have hB := below_drw (Below.refl wr.heap.size wr) q
        exact hJa _ wr _ none hJs ⟨hB.os, hB.tape, hB.output, hB.size, fun k hk _ => hB.block k hk⟩ (fun r e => by cases e))
      have HJ1 : Hid (JM + m = (j + 1) * m) := Lib.hid (by rw [HJ.out, Nat.add_mul, Nat.one_mul])
      have hs1 := fun wx : World => run_on (P := Tryz.prog) (t := 24) Tryz.underlying24 hi1 hy1 b f NM c JM (by omega) (by omega) wx
      have hs2 := fun wx : World => run_mid (P := Tryz.prog) (t := 24) Tryz.underlying24 hi1 hy1 b f NM c JM m (by omega) hm wx
      have g1 : (JM : Int) < (NM : Int) := by omega
      have g2 : ¬ ((NM - JM : Nat) : Int) < (m : Int) := by omega
      have g3 : (m : Int) ≤ ((NM - JM : Nat) : Int) := by omega
      have hmin : min (m : Int) ((NM - JM : Nat) : Int) = (m : Int) := by omega
      gi_wp2
      refine' reg_wide (T := fun W2 => ∃ q, W2 = wr.drewN q) ?_ ?_
      rotate_left
      · go_quiet (fail)
        exact ⟨rfl, rfl, _, rfl⟩
      rintro W2 ⟨nq, rfl⟩
      have hJq := HD.out nq
      obtain ⟨wd, hwd⟩ : ∃ wd, wd = wr.drewN nq := ⟨_, rfl⟩
      have k3 : wd.cell? ⟨B1, 0, none⟩ = some (.slice (some ⟨b, f, none⟩) NM c) := by rw [hwd]; exact k1
      have k4 : wd.cell? ⟨B2, 0, none⟩ = some (.int .i64 (m : Nat)) := by rw [hwd]; exact k2
      rw [← hwd] at hJq ⊢
      obtain ⟨fn, tmps, assign, body, hy, hR⟩ := HY.out wd hJq
      have hK3 := Lib.hid (And.intro k3 k4)
      clear hwd k1 k2 hs1 g2 g3 HD hK HY
      gi_wp2
      refine hR.mono ?_
      rintro e W3 (⟨rfl, hJ3, hk3⟩ | ⟨rfl, hJx3⟩)
      · have c1 := (hk3.c1).trans hK3.out.1
        have c2 := (hk3.c2).trans hK3.out.2
        have HC3 := Lib.hid (And.intro c1 c2)
        gi_wp2
        go_roundw
        case rel => exact ⟨j + 1, JM + m, hlt, by go_num, hJ1, HJ1, hJ3, HC3⟩
        case measure => simp [intOf]; omega
      · gi_wp2
        refine bodyPost_ret (results_none rfl _ _ _) rfl ?_
        exact ⟨⟨_, rfl⟩, .inr ⟨cks (j + 1) hlt, ⟨_, _, rfl⟩, hJx3⟩⟩
    · obtain rfl : j = N := by omega
      have hJN2 : JM = NM := by rw [HJ.out, HNM.out]
      subst hJN2
      gi_wp2
      go_end0
      exact ⟨⟨_, rfl⟩, .inl ⟨_, rfl, hJs⟩⟩
/-- The iterator's contract. -/
theorem chunk_stops (n : Nat) (hn : 1 ≤ n) (B1 B2 b f m N c : Nat) (hm : 1 ≤ m) (hNm : N * m ≤ 65536) (hc : N * m ≤ c) (w : World) (h1 : Boxed w B1 24 (.slice (some ⟨b, f, none⟩) (N * m) c)) (h2 : Boxed w B2 3 (.int .i64 (m : Nat))) :
    SeqStopsK Fence.wide n Tryz.prog 40 #[.pointer (some ⟨B1, 0, none⟩), .pointer (some ⟨B2, 0, none⟩)] (pck (N := N) b f m) (Kp2 B1 B2) (fun ys => ys = cks N (Nat.le_refl N)) (fun pre => ∃ (j : Nat) (hj : j ≤ N), pre = cks j hj) N w := fun l J Jx W hW hJ _ hY h0 =>
  chunk1_in n hn l B1 B2 b f m N c hm hNm hc J Jx hY W hJ (box_on h1 hW).cell (box_on h2 hW).cell h0
set_option maxRecDepth 100000 in
set_option maxHeartbeats 2000000 in
/-- slices.Chunk. -/
theorem chunk_any (b f L c m : Nat) (hm : 1 ≤ m) (w : World) : Calls Tryz.prog 25 #[.slice (some ⟨b, f, none⟩) L c, .int .i64 (m : Nat)] w fun e w' =>
    e = .returned (.func (.func 40) #[] #[.pointer (some ⟨w.heap.size, 0, none⟩), .pointer (some ⟨w.heap.size + 1, 0, none⟩)]) ∧ w' = (w.alloc (.cells #[.slice (some ⟨b, f, none⟩) L c] 24)).alloc (.cells #[.int .i64 (m : Nat)] 3) := by
  have g1 : ¬ (m : Int) < 1 := by omega
  go_enter Tryz.func25, Tryz.ntmps25
  go_wp2
  go_ret
  exact ⟨rfl, rfl⟩
end Go.Proofs.YtldchepfcgbpiaaGreat
namespace Go.Proofs.YtldchepfcgbpiaaGreat
open Go Go.RowKit Go.Shelf

/-- Row l's words normed; those of the rows in L, one behind the other. -/
def nrw (n : Nat) (ds : List Int) (eps : Int) (f l : Nat) : List Int := (List.range n).map fun j => nmv (rsq ((ds.drop (l * n)).take n) eps f) ((n : Int) * ((ds.drop (l * n)).take n).getD j 0 - ((ds.drop (l * n)).take n).sum) f
def nrs (n : Nat) (ds : List Int) (eps : Int) (f : Nat) (L : List Nat) : List Int := L.flatMap (nrw n ds eps f)
theorem nrw_len (n : Nat) (ds : List Int) (eps : Int) (f l : Nat) : (nrw n ds eps f l).length = n := by simp [nrw]
theorem nrw_at {n l j : Nat} (ds : List Int) (eps : Int) (f : Nat) (hj : j < n) : (nrw n ds eps f l).getD j 0 = nmv (rsq ((ds.drop (l * n)).take n) eps f) ((n : Int) * ((ds.drop (l * n)).take n).getD j 0 - ((ds.drop (l * n)).take n).sum) f := by
  simp only [nrw, List.getD, List.getElem?_map, List.getElem?_range hj, Option.map_some, Option.getD_some]
theorem nrs_snoc (n : Nat) (ds : List Int) (eps : Int) (f l : Nat) (L : List Nat) : nrs n ds eps f (L ++ [l]) = nrs n ds eps f L ++ nrw n ds eps f l := by simp [nrs]
theorem nrs_len (n : Nat) (ds : List Int) (eps : Int) (f : Nat) : ∀ L : List Nat, (nrs n ds eps f L).length = L.length * n
  | [] => by simp [nrs]
  | l :: L => by
    have i := nrs_len n ds eps f L
    unfold nrs at i ⊢
    rw [List.flatMap_cons, List.length_append, i, nrw_len, List.length_cons, Nat.add_mul, Nat.one_mul, Nat.add_comm]
theorem nrs_take {n N : Nat} {ds : List Int} (eps : Int) (f : Nat) (h : ds.length = N * n) : ∀ k, k ≤ N → nrs n ds eps f (List.range k) = (nrt n ds eps f).take (k * n)
  | 0, _ => by simp [nrs]
  | k + 1, hk => by
    have hl : k * n + n ≤ ds.length := by
      have := Nat.mul_le_mul_right n hk
      rw [Nat.add_mul, Nat.one_mul] at this
      omega
    rw [List.range_succ, nrs_snoc, nrs_take eps f h k (by omega), Nat.add_mul, Nat.one_mul, List.take_add]
    congr 1
    refine List.ext_getElem (by rw [nrw_len, List.length_take, List.length_drop, nrt_len]; omega) (fun j h1 h2 => ?_)
    rw [nrw_len] at h1
    have a := nrw_at (l := k) ds eps f h1
    have b := nrt_at (n := n) (l := k) (j := j) (ds := ds) eps f h1 hl
    have c : (nrw n ds eps f k).getD j 0 = (nrt n ds eps f).getD (k * n + j) 0 := by rw [a, b]
    rw [List.getElem_take, List.getElem_drop]
    have h3 : j < (nrw n ds eps f k).length := by rw [nrw_len]; exact h1
    have h4 : k * n + j < (nrt n ds eps f).length := by rw [nrt_len]; omega
    simpa [List.getD, List.getElem?_eq_getElem h3, List.getElem?_eq_getElem h4] using c
theorem nrs_all {n N : Nat} {ds : List Int} (eps : Int) (f : Nat) (h : ds.length = N * n) : nrs n ds eps f (List.range N) = nrt n ds eps f := by
  rw [nrs_take eps f h N (Nat.le_refl _), List.take_of_length_le (by rw [nrt_len, h]; exact Nat.le_refl _)]
/-- A shape's words are rows of its last dimension. -/
theorem rows_of {sh : List Int} {n L : Nat} (h0 : sh.length ≠ 0) (hn : sh.getD (sh.length - 1) 0 = (n : Nat)) (hp : (L : Int) = prod sh) (h1 : 1 ≤ prod sh) (_hn1 : 1 ≤ n) : ∃ N, 1 ≤ N ∧ L = N * n := by
  obtain ⟨m, hm⟩ : ∃ m, sh.length = m + 1 := ⟨sh.length - 1, by omega⟩
  rw [hm, Nat.add_sub_cancel] at hn
  have e := take_last hm
  rw [hn] at e
  have e2 : prod sh = prod (sh.take m) * (n : Nat) := by
    rw [e, prod_app]
    have : prod [((n : Nat) : Int)] = (n : Nat) := by simp [prod]
    rw [this, ← e]
  have hP : 1 ≤ prod (sh.take m) := by
    refine Int.not_lt.1 fun h => ?_
    have := Int.mul_le_mul_of_nonneg_right (show prod (sh.take m) ≤ 0 by omega) (show (0 : Int) ≤ (n : Nat) by omega)
    rw [Int.zero_mul] at this
    omega
  obtain ⟨N, hN⟩ : ∃ N : Nat, prod (sh.take m) = (N : Nat) := ⟨(prod (sh.take m)).toNat, by omega⟩
  refine ⟨N, by omega, ?_⟩
  rw [e2, hN, ← Int.natCast_mul] at hp
  exact Int.ofNat_inj.1 hp
/-- A row's square is a wide number; its words' distances are bounded. -/
theorem row_bds {rl : List Int} (hw : wds rl = true) (hl : rl.length ≤ 4096) : (∀ k, k < rl.length → (rl.getD k 0).natAbs ≤ 140737488355328) ∧ rl.sum.natAbs ≤ 576460752303423488 := by
  have hwd : ∀ k, k < rl.length → (rl.getD k 0).natAbs ≤ 140737488355328 := fun k hk => by have := wds_at hw hk; omega
  refine ⟨hwd, ?_⟩
  have q := sum_bd rl (fun x hx => by
    obtain ⟨k, hk, rfl⟩ := List.mem_iff_getElem.1 hx
    have := hwd k hk
    simpa [List.getD, List.getElem?_eq_getElem hk] using this)
  have := Nat.mul_le_mul_right 140737488355328 hl
  omega
theorem row_bd {rl : List Int} {n j : Nat} (hw : wds rl = true) (hn : rl.length = n) (hl : n ≤ 4096) (hj : j < n) : ((n : Int) * rl.getD j 0).natAbs ≤ 576460752303423488 ∧ ((n : Int) * rl.getD j 0 - rl.sum).natAbs ≤ 1152921504606846976 := by
  obtain ⟨h1, h2⟩ := row_bds hw (by omega)
  have q := dist_bd (n := (n : Int)) (S := rl.sum) (a := rl.getD j 0) (by omega) h2 (h1 j (by omega))
  exact ⟨q.1, q.2.1⟩
theorem rsq_R {rl : List Int} {eps : Int} {f : Nat} (hw : wds rl = true) (hl : 1 ≤ rl.length ∧ rl.length ≤ 4096) (he : wd eps = true) (hf : f ≤ 32) : R (rsq rl eps f) := by
  obtain ⟨h1, h2⟩ := row_bds hw hl.2
  have hn : ((rl.length : Nat) : Int).natAbs ≤ 4096 := by omega
  obtain ⟨_, _, r3⟩ := rsb_bd (f := f) hn (show eps.natAbs ≤ 140737488355328 by have := wd_bd he; omega) hf
  have q := dsq_bd hn h2 rl (fun x hx => by
    obtain ⟨k, hk, rfl⟩ := List.mem_iff_getElem.1 hx
    have := h1 k hk
    simpa [List.getD, List.getElem?_eq_getElem hk] using this)
  have := Nat.mul_le_mul_right 162259276829213363391578010288128 hl.2
  rw [R_iff]
  unfold rsq
  omega
/-- All that lies but the block T and words' cells from B on lies on. -/
def Sq (B T : Nat) (X Y : World) : Prop := X.heap.size ≤ Y.heap.size ∧ ∀ k o, X.heap[k]? = some o → k ≠ T → (k < B ∨ ∀ cs r, o ≠ .cells cs 2 r) → Y.heap[k]? = some o
theorem Sq.refl (B T : Nat) (X : World) : Sq B T X X := ⟨Nat.le_refl _, fun _ _ h _ _ => h⟩
theorem Sq.trans {B T : Nat} {X Y Z : World} (h : Sq B T X Y) (k : Sq B T Y Z) : Sq B T X Z := ⟨Nat.le_trans h.1 k.1, fun i o h1 h2 h3 => k.2 i o (h.2 i o h1 h2 h3) h2 h3⟩
theorem Sq.of {B T : Nat} {X Y : World} (h : Below X.heap.size X Y) : Sq B T X Y := ⟨h.size, fun k _ h1 _ _ => (h.block k (Array.getElem?_eq_some_iff.1 h1).1).trans h1⟩
theorem Sq.blk {B T b : Nat} {X Y : World} {u : TypeId} {cs : Array Value} (h : Sq B T X Y) (hb : Blk X b u cs) (hn : b ≠ T) (hu : u ≠ 2) : Blk Y b u cs := h.2 b _ hb hn (.inr (fun c r e => by cases e; exact hu rfl))
theorem Sq.keeps {B T Q : Nat} {X Y : World} (h : Sq B T X Y) (hT : T < Q) : KeepsFrom Q X Y := ⟨h.1, fun k o hk ho hc => h.2 k o ho (by omega) (.inr (fun cs r e => by subst e; cases hc))⟩
theorem Sq.low {B T k : Nat} {X Y : World} (h : Sq B T X Y) (hk : k < B) (hl : k < X.heap.size) (hn : k ≠ T) : Y.heap[k]? = X.heap[k]? := by
  obtain ⟨o, ho⟩ : ∃ o, X.heap[k]? = some o := ⟨_, Array.getElem?_eq_getElem hl⟩
  rw [ho]; exact h.2 k o ho hn (.inl hk)
theorem Sq.set {B T i : Nat} (X : World) (v : Value) : Sq B T X (X.setCell ⟨T, i, none⟩ v) := ⟨by simp, fun k _ h hk _ => (Below.heap_setCell _ _ _ k hk).trans h⟩
theorem sq_step {X w9 : World} {T B n : Nat} {dv : Value} {xs : List Value} (hu : X.ownsRow B 2 1 dv n xs) (hgrow : X.grownBy w9 dv.ownBlock) : Sq B T X w9 := by
  refine ⟨hgrow.size, fun k o ho hk hc => ?_⟩
  have hl := (Array.getElem?_eq_some_iff.1 ho).1
  have hne : some k ≠ dv.ownBlock := by
    intro e
    rcases hu.2 with ⟨rfl, _⟩ | ⟨g', cap, cur, rfl, hb', hh, _⟩
    · simp [Value.ownBlock] at e
    · simp only [Value.ownBlock, Option.some.injEq] at e
      subst e
      rw [hh] at ho
      cases ho
      rcases hc with hc | hc
      · omega
      · exact hc _ _ rfl
  exact (hgrow.block k hl hne).trans ho
theorem ld_midq {W : World} {g f L c lo n : Nat} {ls : List Int} (h : Ld W (.slice (some ⟨g, f, none⟩) L c) ls) (hn : lo + n ≤ L) : Ld W (.slice (some ⟨g, f + lo, none⟩) n n) ((ls.drop lo).take n) := by
  obtain ⟨o2, c2, e, h1, h2⟩ := h
  simp only [Value.slice.injEq] at e
  obtain ⟨rfl, rfl, rfl⟩ := e
  have hl : ((ls.drop lo).take n).length = n := by simp; omega
  refine ⟨_, _, by rw [hl], by omega, fun k hk => ?_⟩
  obtain ⟨b, f', e1, e2, e3⟩ := h2 (lo + k) (by omega)
  simp only [Option.some.injEq, Addr.mk.injEq, and_true] at e1
  obtain ⟨rfl, rfl⟩ := e1
  refine ⟨g, f + lo, rfl, e2, ?_⟩
  rw [show f + lo + k = f + (lo + k) by omega, e3, take_getD (by omega)]
  simp [List.getD, List.getElem?_drop]
theorem wds_midq {ls : List Int} {lo n : Nat} (h : wds ls = true) (hn : lo + n ≤ ls.length) : wds ((ls.drop lo).take n) = true := wds_yes (fun k hk => by
  have hl : ((ls.drop lo).take n).length = n := by simp; omega
  rw [hl] at hk
  rw [mid_getD1 hk]
  exact wds_at h (by omega))
theorem own_lowq {W0 X : World} {base n T : Nat} {e : TypeId} {v : Value} {xs : List Value} (h : W0.ownsRow base e 1 v n xs) (hb : Below T W0 X) (hg : ∀ g, v.ownBlock = some g → g < T) : X.ownsRow base e 1 v n xs := by
  refine ⟨h.1, ?_⟩
  rcases h.2 with e | ⟨g, cap, cur, rfl, hb', hh, rest⟩
  · exact .inl e
  · exact .inr ⟨g, cap, cur, rfl, hb', (hb.block g (hg g rfl)).trans hh, rest⟩
/-- What stands between two rounds: the rows L are told, ex besides. -/
def NSt (n : Nat) (ds : List Int) (eps : Int) (f : Nat) (W0 : World) (T0 : Nat) (vT : Value) (L : List Nat) (ex : List Int) (W : World) : Prop :=
  ∃ vd, Blk W T0 26 #[vT, vd] ∧ W.ownsRow W0.heap.size 2 1 vd (nrs n ds eps f L ++ ex).length (ints (nrs n ds eps f L ++ ex)) ∧ Below T0 W0 W ∧ W0.heap.size ≤ W.heap.size
theorem nst_own {α : Type} (n : Nat) (ds : List Int) (eps : Int) (f : Nat) (W0 : World) (T0 : Nat) (vT : Value) {ll : List α → List Nat} (hT : T0 < W0.heap.size) : OwnFrom W0.heap.size (fun (pre : List α) W => NSt n ds eps f W0 T0 vT (ll pre) [] W) := by
  rintro s X Y row ⟨vd, h1, h2, h3, h4⟩ hg hr
  have hc : ∀ r, row = some r → ∃ o : Obj, X.heap[r]? = some o ∧ o.isCells = false := fun r e => (hr r e).2
  exact ⟨vd, blk_own (β := Unit) T0 _ (fun _ => _) () X Y row h1 hg hc, own_kept h2 hg hc, h3.grown hg (by omega) (fun k e => by have := (hr k e).1; omega), Nat.le_trans h4 hg.size⟩
theorem own_endq {X : World} {b D base n : Nat} {e : TypeId} {v : Value} {xs : List Value} {cs : Array Value} {o : Obj} (hO : X.ownsRow base e 1 v n xs) (hb : Blk X b 26 cs) (hD : X.heap[D]? = some o) (ho : o.isCells = false) (hne : e ≠ 26) (u1 u2 : Value) (o' : Obj) :
    (((X.setCell ⟨b, 0, none⟩ u1).setCell ⟨b, 1, none⟩ u2).putObj D o').ownsRow base e 1 v n xs := by
  have h1 := hO.kept (grown_set X ⟨b, 0, none⟩ u1) (.inr (tens_not_row hO hb hne))
  have hb1 := hb.set_ 0 u1
  have h2 := h1.kept (grown_set _ ⟨b, 1, none⟩ u2) (.inr (tens_not_row h1 hb1 hne))
  have hDb : D ≠ b := by rintro rfl; rw [show X.heap[D]? = _ from hb] at hD; cases hD; cases ho
  exact own_kept h2 (grownBy_putObj' _ D o') (fun r er => by cases er; exact ⟨o, ((Below.heap_setCell _ _ _ _ hDb).trans (Below.heap_setCell _ _ _ _ hDb)).trans hD, ho⟩)
theorem cks_mapq {N : Nat} : ∀ (j : Nat) (h : j ≤ N), (cks j h).map (fun x : Fin N => x.1) = List.range j
  | 0, _ => rfl
  | j + 1, h => by rw [cks, List.map_append, cks_mapq j, List.range_succ]; rfl
/-- A drawn region within a round: its frame by slots of its own. -/
theorem region_inT {P : Program} {n l id : Nat} {ops : Array Oper} {S : World → Prop} {a : Act} {W : World} {K : Exit → Act → World → Prop} (R : Act → World → Prop) (hd : (ops.toList.all fun o => nodf o.op) = true) (hm : P.follows .mixedOrders = true) (hS : S W.drew)
    (h : S W.drew → wpAnyH P .any ops (fun e a2 W2 => e = .normal ∧ R a2 W2) S ops.size (Array.replicate ops.size false) a W.drew) (hk : ∀ a2 X, R a2 X → K .normal a2 X) : (Code.region id ops true).wpIn (Fence.wide.inRound l) n P K a W := by
  refine wpIn_mono (region_inA (R := R) hd hm hS h) ?_
  rintro e a3 W3 ⟨rfl, h3⟩
  exact hk _ _ h3
end Go.Proofs.YtldchepfcgbpiaaGreat
