/-
  Roots of whole numbers: Newton's steps, and the nearest word to a root.
-/
import Derived.Test.YtkpkejccphpkpaaNumE
import Derived.Test.YtkpkejccphpkpaaWideC
namespace Go.Proofs.Ytkpkejccphpkpaa
open Go.RowKit

/-- s is the root of n, rounded down. -/
def Rt (n s : Int) : Prop := 0 ≤ s ∧ s * s ≤ n ∧ n < (s + 1) * (s + 1)
/-- r is the nearest whole number to half the root of x. -/
def Nr (x r : Int) : Prop := 0 ≤ r ∧ x ≤ (2 * r + 1) * (2 * r + 1) ∧ (r ≠ 0 → (2 * r - 1) * (2 * r - 1) < x)
/-- g is no guess below n's root. -/
def Gs (n g : Int) : Prop := 0 ≤ g ∧ g ≤ 1125899906842624 ∧ n < (g + 1) * (g + 1)
/-- The guess behind g. -/
def nx (n g : Int) : Int := (g + (if g = 0 then 0 else n / g)) / 2

theorem sq_mono {a b : Int} (h0 : 0 ≤ a) (h : a ≤ b) : a * a ≤ b * b := Int.mul_le_mul h h h0 (by omega)
theorem sq_lt {a b : Int} (h0 : 0 ≤ b) (h : a * a < b * b) : a < b := by
  rcases Int.lt_or_le a b with g | g
  · exact g
  · have := sq_mono h0 g; omega
theorem sq_succ (a : Int) : (a + 1) * (a + 1) = a * a + 2 * a + 1 := by rw [Int.add_mul, Int.mul_add]; omega
theorem am_gm {a b c : Int} (ha : 0 ≤ a) (h : a + b ≤ 2 * c) : a * b ≤ c * c := by
  have h1 : a * b ≤ a * (2 * c - a) := Int.mul_le_mul_of_nonneg_left (by omega) ha
  have h2 : 0 ≤ (c - a) * (c - a) := by
    rcases Int.le_total 0 (c - a) with g | g
    · exact Int.mul_nonneg g g
    · exact Int.mul_nonneg_of_nonpos_of_nonpos g g
  have e1 : a * (2 * c - a) = 2 * (a * c) - a * a := by rw [Int.mul_sub, Int.mul_left_comm]
  have e2 : (c - a) * (c - a) = c * c - 2 * (a * c) + a * a := by
    rw [Int.sub_mul, Int.mul_sub, Int.mul_sub, Int.mul_comm c a]; omega
  omega
theorem quo_le {n g : Int} (hn : 0 ≤ n) (h0 : 0 < g) (h : n < (g + 1) * (g + 1)) : 0 ≤ n / g ∧ n / g ≤ g + 2 := by
  refine ⟨Int.ediv_nonneg hn (by omega), ?_⟩
  rw [sq_succ] at h
  refine Int.le_of_lt_add_one ((Int.ediv_lt_iff_lt_mul h0).mpr ?_)
  have : (g + 2 + 1) * g = g * g + 3 * g := by rw [Int.add_mul, Int.add_mul]; omega
  omega
theorem nx_gs {n g : Int} (hn : 0 ≤ n) (h : Gs n g) (k : nx n g < g) : Gs n (nx n g) := by
  obtain ⟨g0, g1, g2⟩ := h
  have gp : g ≠ 0 := by
    rintro rfl
    unfold nx at k
    simp at k
  have q := quo_le hn (show 0 < g by omega) g2
  have e : nx n g = (g + n / g) / 2 := by unfold nx; rw [if_neg gp]
  rw [e] at k ⊢
  have d := Int.mul_ediv_add_emod n g
  have r1 := Int.emod_lt_of_pos n (show 0 < g by omega)
  have a := am_gm (a := g) (b := n / g + 1) (c := (g + n / g) / 2 + 1) g0 (by omega)
  rw [Int.mul_add] at a
  exact ⟨by omega, by omega, by omega⟩
theorem nx_end {n g : Int} (hn : 0 ≤ n) (h : Gs n g) (k : ¬ nx n g < g) : Rt n g := by
  obtain ⟨g0, g1, g2⟩ := h
  refine ⟨g0, ?_, g2⟩
  by_cases gp : g = 0
  · subst gp; omega
  · have e : nx n g = (g + n / g) / 2 := by unfold nx; rw [if_neg gp]
    rw [e] at k
    have d := Int.mul_ediv_add_emod n g
    have r0 := Int.emod_nonneg n gp
    have := Int.mul_le_mul_of_nonneg_left (show g ≤ n / g by omega) g0
    omega
theorem nx_bd {n g : Int} (hn : 0 ≤ n) (h : Gs n g) : 0 ≤ nx n g ∧ nx n g ≤ 1125899906842625 ∧ (g ≠ 0 → 0 ≤ n / g ∧ n / g ≤ 1125899906842626) := by
  obtain ⟨g0, g1, g2⟩ := h
  by_cases gp : g = 0
  · subst gp
    unfold nx
    rw [if_pos rfl]
    exact ⟨by decide, by decide, fun h => absurd rfl h⟩
  · have q := quo_le hn (show 0 < g by omega) g2
    unfold nx
    rw [if_neg gp]
    exact ⟨by omega, by omega, fun _ => ⟨q.1, by omega⟩⟩
theorem rt_same {n s t : Int} (h : Rt n s) (k : Rt n t) : s = t := by
  obtain ⟨a, b, c⟩ := h
  obtain ⟨d, e, f⟩ := k
  have := sq_lt (a := s) (b := t + 1) (by omega) (by omega)
  have := sq_lt (a := t) (b := s + 1) (by omega) (by omega)
  omega
/-- The first guess. -/
theorem gs_first {n : Int} (hn : 0 ≤ n) (h : n < 633825300114114700748351602688) : bl n ≤ 99 ∧ Gs n (2 ^ ((bl n + 1) / 2)) := by
  have hU : U n := by rw [U_iff]; omega
  have b : bl n ≤ 99 := by
    refine Lib.bitLenAux_le 128 n.toNat 99 ?_
    have : (2 : Nat) ^ 99 = 633825300114114700748351602688 := by decide
    omega
  refine ⟨b, ?_⟩
  have lt : n < 2 ^ bl n := by
    by_cases h0 : n = 0
    · subst h0; decide
    · exact (bl_bd hU h0).2.2
  have p : (2 : Int) ^ ((bl n + 1) / 2) ≤ 2 ^ 50 := by have := Nat.pow_le_pow_right (show 0 < 2 by decide) (show (bl n + 1) / 2 ≤ 50 by omega); exact_mod_cast this
  have p0 : (0 : Int) < 2 ^ ((bl n + 1) / 2) := Int.pow_pos (by decide)
  have m : (2 : Int) ^ bl n ≤ 2 ^ ((bl n + 1) / 2) * 2 ^ ((bl n + 1) / 2) := by
    rw [← Int.pow_add]
    have := Nat.pow_le_pow_right (show 0 < 2 by decide) (show bl n ≤ (bl n + 1) / 2 + (bl n + 1) / 2 by omega); exact_mod_cast this
  generalize (2 : Int) ^ ((bl n + 1) / 2) = g at *
  refine ⟨by omega, by omega, ?_⟩
  rw [sq_succ]
  omega
/-- The last bit. -/
theorem nr_last {x s : Int} (h : Rt x s) : Nr x (if (2 * (s / 2) + 1) * (2 * (s / 2) + 1) < x then s / 2 + 1 else s / 2) := by
  obtain ⟨s0, s1, s2⟩ := h
  split
  · rename_i g
    have l := sq_mono (a := s + 1) (b := 2 * (s / 2 + 1) + 1) (by omega) (by omega)
    refine ⟨by omega, by omega, fun _ => ?_⟩
    rw [show 2 * (s / 2 + 1) - 1 = 2 * (s / 2) + 1 by omega]
    exact g
  · rename_i g
    refine ⟨by omega, by omega, fun h => ?_⟩
    have a := sq_succ (2 * (s / 2) - 1)
    rw [show 2 * (s / 2) - 1 + 1 = 2 * (s / 2) by omega] at a
    have := sq_mono (a := 2 * (s / 2)) (b := s) (by omega) (by omega)
    omega
theorem nr_same {x r t : Int} (h : Nr x r) (k : Nr x t) : r = t := by
  obtain ⟨a, b, c⟩ := h
  obtain ⟨d, e, f⟩ := k
  rcases Int.lt_trichotomy r t with g | g | g
  · have := f (by omega)
    have := sq_lt (a := 2 * t - 1) (b := 2 * r + 1) (by omega) (by omega)
    omega
  · exact g
  · have := c (by omega)
    have := sq_lt (a := 2 * r - 1) (b := 2 * t + 1) (by omega) (by omega)
    omega
theorem nr_mono {x y r t : Int} (h : Nr x r) (k : Nr y t) (l : x ≤ y) : r ≤ t := by
  obtain ⟨a, b, c⟩ := h
  obtain ⟨d, e, f⟩ := k
  rcases Int.lt_or_le t r with g | g
  · have := c (by omega)
    have := sq_lt (a := 2 * r - 1) (b := 2 * t + 1) (by omega) (by omega)
    omega
  · exact g
theorem nr_top {x r B : Int} (h : Nr x r) (hB : 0 ≤ B) (k : x ≤ (2 * B + 1) * (2 * B + 1)) : r ≤ B := by
  obtain ⟨a, b, c⟩ := h
  rcases Int.lt_or_le B r with g | g
  · have := c (by omega)
    have := sq_lt (a := 2 * r - 1) (b := 2 * B + 1) (by omega) (by omega)
    omega
  · exact g
/-- The root of 4 m^2. -/
theorem nr_square {m : Int} (h : 0 ≤ m) : Nr (4 * (m * m)) m := by
  have a := sq_succ (2 * m)
  have e : (2 * m) * (2 * m) = 4 * (m * m) := by rw [Int.mul_assoc, Int.mul_left_comm m 2 m]; omega
  refine ⟨h, by omega, fun g => ?_⟩
  have b := sq_succ (2 * m - 1)
  rw [show 2 * m - 1 + 1 = 2 * m by omega] at b
  omega
theorem nr_twice {x r t : Int} (h : Nr x r) (k : Nr (4 * x) t) : t - 2 * r ≤ 1 ∧ 2 * r - t ≤ 1 := by
  obtain ⟨a, b, c⟩ := h
  obtain ⟨d, e, f⟩ := k
  have q : ∀ y : Int, (2 * y) * (2 * y) = 4 * (y * y) := fun y => by rw [Int.mul_assoc, Int.mul_left_comm y 2 y]; omega
  constructor
  · by_cases g : t = 0
    · omega
    · have := f g
      have := q (2 * r + 1)
      have := sq_lt (a := 2 * t - 1) (b := 2 * (2 * r + 1)) (by omega) (by omega)
      omega
  · by_cases g : r = 0
    · omega
    · have := c g
      have := q (2 * r - 1)
      have := sq_lt (a := 2 * (2 * r - 1)) (b := 2 * t + 1) (by omega) (by omega)
      omega
theorem floor_is {x D t r : Int} (hD : 0 < D) (h : x = t * D + r) (h0 : 0 ≤ r) (h1 : r < D) : x / D = t := by
  rw [h, Int.add_comm, Int.add_mul_ediv_right _ _ (by omega), Int.ediv_eq_zero_of_lt h0 h1, Int.zero_add]
theorem dn_floor {x D : Int} (hx : 0 ≤ x) (hD : 0 < D) : dn x D = x / D := by
  have eD : ab D = D := by unfold ab; omega
  have ex : ab x = x := by unfold ab; omega
  have nD : ng D = false := by unfold ng; exact decide_eq_false (by omega)
  have nx : ng x = false := by unfold ng; exact decide_eq_false (by omega)
  unfold dn
  rw [eD, ex, nD, nx]
  simp [sd]
/-- n over d, rounded up. -/
def cl (n d : Int) : Int := -dn (-n) d
theorem cl_is {n d : Int} (hn : 0 ≤ n) (hd : 0 < d) : n ≤ cl n d * d ∧ (cl n d - 1) * d < n ∧ 0 ≤ cl n d ∧ cl n d ≤ n := by
  have eD : ab d = d := by unfold ab; omega
  have ex : ab (-n) = n := by unfold ab; omega
  have nD : ng d = false := by unfold ng; exact decide_eq_false (by omega)
  have e := Int.mul_ediv_add_emod n d
  have r0 := Int.emod_nonneg n (show d ≠ 0 by omega)
  have r1 := Int.emod_lt_of_pos n hd
  have q0 : 0 ≤ n / d := Int.ediv_nonneg hn (by omega)
  have q1 : n / d ≤ n := Int.ediv_le_self _ hn
  have v : cl n d = if n % d = 0 then n / d else n / d + 1 := by
    unfold cl dn
    rw [eD, ex, nD]
    by_cases h : n = 0
    · subst h
      have : ng (-0) = false := rfl
      rw [this]
      simp [sd]
    · have : ng (-n) = true := by unfold ng; exact decide_eq_true (by omega)
      rw [this]
      by_cases g : n % d = 0
      · simp [sd, g]
      · simp [sd, g]
  rw [v]
  have m := Int.mul_comm d (n / d)
  split
  · rename_i g
    refine ⟨by omega, ?_, q0, q1⟩
    rw [Int.sub_mul]
    omega
  · rename_i g
    refine ⟨?_, ?_, by omega, ?_⟩
    · rw [Int.add_mul]; omega
    · rw [Int.add_sub_cancel]; omega
    · have : n / d < n ∨ n / d = n := by omega
      rcases this with t | t
      · omega
      · exfalso
        have k := Int.mul_le_mul_of_nonneg_left (show 1 ≤ d by omega) q0
        rw [t] at k m e
        omega
/-- A greater divisor has no greater quotient. -/
theorem cl_mono {n a b : Int} (hn : 0 ≤ n) (ha : 0 < a) (h : a ≤ b) : cl n b ≤ cl n a := by
  have A := cl_is hn ha
  have B := cl_is hn (show 0 < b by omega)
  rcases Int.lt_or_le (cl n a) (cl n b) with g | g
  · have k := Int.mul_le_mul_of_nonneg_right (show cl n a ≤ cl n b - 1 by omega) (show 0 ≤ b by omega)
    have l := Int.mul_le_mul_of_nonneg_left h A.2.2.1
    omega
  · exact g
end Go.Proofs.Ytkpkejccphpkpaa
