/-
  Roots of whole numbers: Newton's steps, and the nearest word to a root.
  The nearest whole number to the root of a rational number, by its half; odd numbers over 2 and 4.
  FxLaws' arithmetic: whole quotients; a quotient's half, a product's half over a power of 2, in lowest terms.
  fx's decimal as a word.
-/
import Derived.Test.YteplhlmdaabpaaaGreatDoorM01
import Derived.Test.YteplhlmdaabpaaaGreatDoorM03
import Derived.Test.YteplhlmdaabpaaaGreatDoorM05
import Derived.Test.YteplhlmdaabpaaaGreatDoorM21
namespace Go.Proofs.YteplhlmdaabpaaaGreatDoor
open Go.RowKit

/-- s is the root of n, rounded down. -/
def Rt (n s : Int) : Prop := 0 ≤ s ∧ s * s ≤ n ∧ n < (s + 1) * (s + 1)
/-- r is the nearest whole number to half the root of x. -/
def Nr (x r : Int) : Prop := 0 ≤ r ∧ x ≤ (2 * r + 1) * (2 * r + 1) ∧ (r ≠ 0 → (2 * r - 1) * (2 * r - 1) < x)
/-- g is no guess below n's root. -/
def Gs (n g : Int) : Prop := 0 ≤ g ∧ g ≤ 1125899906842624 ∧ n < (g + 1) * (g + 1)
/-- The guess behind g. -/
def nx (n g : Int) : Int := (g + (if g = 0 then 0 else n / g)) / 2

theorem sq_mono {a b : Int} (h0 : 0 ≤ a) (h : a ≤ b) : a * a ≤ b * b := Int.mul_le_mul h h h0 (by omega)
theorem sq_lt {a b : Int} (h0 : 0 ≤ b) (h : a * a < b * b) : a < b := by
  rcases Int.lt_or_le a b with g | g
  · exact g
  · have := sq_mono h0 g; omega
theorem sq_succ (a : Int) : (a + 1) * (a + 1) = a * a + 2 * a + 1 := by rw [Int.add_mul, Int.mul_add]; omega
theorem am_gm {a b c : Int} (ha : 0 ≤ a) (h : a + b ≤ 2 * c) : a * b ≤ c * c := by
  have h1 : a * b ≤ a * (2 * c - a) := Int.mul_le_mul_of_nonneg_left (by omega) ha
  have h2 : 0 ≤ (c - a) * (c - a) := by
    rcases Int.le_total 0 (c - a) with g | g
    · exact Int.mul_nonneg g g
    · exact Int.mul_nonneg_of_nonpos_of_nonpos g g
  have e1 : a * (2 * c - a) = 2 * (a * c) - a * a := by rw [Int.mul_sub, Int.mul_left_comm]
  have e2 : (c - a) * (c - a) = c * c - 2 * (a * c) + a * a := by
    rw [Int.sub_mul, Int.mul_sub, Int.mul_sub, Int.mul_comm c a]; omega
  omega
theorem quo_le {n g : Int} (hn : 0 ≤ n) (h0 : 0 < g) (h : n < (g + 1) * (g + 1)) : 0 ≤ n / g ∧ n / g ≤ g + 2 := by
  refine ⟨Int.ediv_nonneg hn (by omega), ?_⟩
  rw [sq_succ] at h
  refine Int.le_of_lt_add_one ((Int.ediv_lt_iff_lt_mul h0).mpr ?_)
  have : (g + 2 + 1) * g = g * g + 3 * g := by rw [Int.add_mul, Int.add_mul]; omega
  omega
theorem nx_gs {n g : Int} (hn : 0 ≤ n) (h : Gs n g) (k : nx n g < g) : Gs n (nx n g) := by
  obtain ⟨g0, g1, g2⟩ := h
  have gp : g ≠ 0 := by
    rintro rfl
    unfold nx at k
    simp at k
  have q := quo_le hn (show 0 < g by omega) g2
  have e : nx n g = (g + n / g) / 2 := by unfold nx; rw [if_neg gp]
  rw [e] at k ⊢
  have d := Int.mul_ediv_add_emod n g
  have r1 := Int.emod_lt_of_pos n (show 0 < g by omega)
  have a := am_gm (a := g) (b := n / g + 1) (c := (g + n / g) / 2 + 1) g0 (by omega)
  rw [Int.mul_add] at a
  exact ⟨by omega, by omega, by omega⟩
theorem nx_end {n g : Int} (hn : 0 ≤ n) (h : Gs n g) (k : ¬ nx n g < g) : Rt n g := by
  obtain ⟨g0, g1, g2⟩ := h
  refine ⟨g0, ?_, g2⟩
  by_cases gp : g = 0
  · subst gp; omega
  · have e : nx n g = (g + n / g) / 2 := by unfold nx; rw [if_neg gp]
    rw [e] at k
    have d := Int.mul_ediv_add_emod n g
    have r0 := Int.emod_nonneg n gp
    have := Int.mul_le_mul_of_nonneg_left (show g ≤ n / g by omega) g0
    omega
theorem nx_bd {n g : Int} (hn : 0 ≤ n) (h : Gs n g) : 0 ≤ nx n g ∧ nx n g ≤ 1125899906842625 ∧ (g ≠ 0 → 0 ≤ n / g ∧ n / g ≤ 1125899906842626) := by
  obtain ⟨g0, g1, g2⟩ := h
  by_cases gp : g = 0
  · subst gp
    unfold nx
    rw [if_pos rfl]
    exact ⟨by decide, by decide, fun h => absurd rfl h⟩
  · have q := quo_le hn (show 0 < g by omega) g2
    unfold nx
    rw [if_neg gp]
    exact ⟨by omega, by omega, fun _ => ⟨q.1, by omega⟩⟩
theorem rt_same {n s t : Int} (h : Rt n s) (k : Rt n t) : s = t := by
  obtain ⟨a, b, c⟩ := h
  obtain ⟨d, e, f⟩ := k
  have := sq_lt (a := s) (b := t + 1) (by omega) (by omega)
  have := sq_lt (a := t) (b := s + 1) (by omega) (by omega)
  omega
/-- The first guess. -/
theorem gs_first {n : Int} (hn : 0 ≤ n) (h : n < 633825300114114700748351602688) : bl n ≤ 99 ∧ Gs n (2 ^ ((bl n + 1) / 2)) := by
  have hU : U n := by rw [U_iff]; omega
  have b : bl n ≤ 99 := by
    refine Lib.bitLenAux_le 128 n.toNat 99 ?_
    have : (2 : Nat) ^ 99 = 633825300114114700748351602688 := by decide
    omega
  refine ⟨b, ?_⟩
  have lt : n < 2 ^ bl n := by
    by_cases h0 : n = 0
    · subst h0; decide
    · exact (bl_bd hU h0).2.2
  have p : (2 : Int) ^ ((bl n + 1) / 2) ≤ 2 ^ 50 := by have := Nat.pow_le_pow_right (show 0 < 2 by decide) (show (bl n + 1) / 2 ≤ 50 by omega); exact_mod_cast this
  have p0 : (0 : Int) < 2 ^ ((bl n + 1) / 2) := Int.pow_pos (by decide)
  have m : (2 : Int) ^ bl n ≤ 2 ^ ((bl n + 1) / 2) * 2 ^ ((bl n + 1) / 2) := by
    rw [← Int.pow_add]
    have := Nat.pow_le_pow_right (show 0 < 2 by decide) (show bl n ≤ (bl n + 1) / 2 + (bl n + 1) / 2 by omega); exact_mod_cast this
  generalize (2 : Int) ^ ((bl n + 1) / 2) = g at *
  refine ⟨by omega, by omega, ?_⟩
  rw [sq_succ]
  omega
/-- The last bit. -/
theorem nr_last {x s : Int} (h : Rt x s) : Nr x (if (2 * (s / 2) + 1) * (2 * (s / 2) + 1) < x then s / 2 + 1 else s / 2) := by
  obtain ⟨s0, s1, s2⟩ := h
  split
  · rename_i g
    have l := sq_mono (a := s + 1) (b := 2 * (s / 2 + 1) + 1) (by omega) (by omega)
    refine ⟨by omega, by omega, fun _ => ?_⟩
    rw [show 2 * (s / 2 + 1) - 1 = 2 * (s / 2) + 1 by omega]
    exact g
  · rename_i g
    refine ⟨by omega, by omega, fun h => ?_⟩
    have a := sq_succ (2 * (s / 2) - 1)
    rw [show 2 * (s / 2) - 1 + 1 = 2 * (s / 2) by omega] at a
    have := sq_mono (a := 2 * (s / 2)) (b := s) (by omega) (by omega)
    omega
theorem nr_same {x r t : Int} (h : Nr x r) (k : Nr x t) : r = t := by
  obtain ⟨a, b, c⟩ := h
  obtain ⟨d, e, f⟩ := k
  rcases Int.lt_trichotomy r t with g | g | g
  · have := f (by omega)
    have := sq_lt (a := 2 * t - 1) (b := 2 * r + 1) (by omega) (by omega)
    omega
  · exact g
  · have := c (by omega)
    have := sq_lt (a := 2 * r - 1) (b := 2 * t + 1) (by omega) (by omega)
    omega
theorem nr_mono {x y r t : Int} (h : Nr x r) (k : Nr y t) (l : x ≤ y) : r ≤ t := by
  obtain ⟨a, b, c⟩ := h
  obtain ⟨d, e, f⟩ := k
  rcases Int.lt_or_le t r with g | g
  · have := c (by omega)
    have := sq_lt (a := 2 * r - 1) (b := 2 * t + 1) (by omega) (by omega)
    omega
  · exact g
theorem nr_top {x r B : Int} (h : Nr x r) (hB : 0 ≤ B) (k : x ≤ (2 * B + 1) * (2 * B + 1)) : r ≤ B := by
  obtain ⟨a, b, c⟩ := h
  rcases Int.lt_or_le B r with g | g
  · have := c (by omega)
    have := sq_lt (a := 2 * r - 1) (b := 2 * B + 1) (by omega) (by omega)
    omega
  · exact g
/-- The root of 4 m^2. -/
theorem nr_square {m : Int} (h : 0 ≤ m) : Nr (4 * (m * m)) m := by
  have a := sq_succ (2 * m)
  have e : (2 * m) * (2 * m) = 4 * (m * m) := by rw [Int.mul_assoc, Int.mul_left_comm m 2 m]; omega
  refine ⟨h, by omega, fun g => ?_⟩
  have b := sq_succ (2 * m - 1)
  rw [show 2 * m - 1 + 1 = 2 * m by omega] at b
  omega
theorem nr_twice {x r t : Int} (h : Nr x r) (k : Nr (4 * x) t) : t - 2 * r ≤ 1 ∧ 2 * r - t ≤ 1 := by
  obtain ⟨a, b, c⟩ := h
  obtain ⟨d, e, f⟩ := k
  have q : ∀ y : Int, (2 * y) * (2 * y) = 4 * (y * y) := fun y => by rw [Int.mul_assoc, Int.mul_left_comm y 2 y]; omega
  constructor
  · by_cases g : t = 0
    · omega
    · have := f g
      have := q (2 * r + 1)
      have := sq_lt (a := 2 * t - 1) (b := 2 * (2 * r + 1)) (by omega) (by omega)
      omega
  · by_cases g : r = 0
    · omega
    · have := c g
      have := q (2 * r - 1)
      have := sq_lt (a := 2 * (2 * r - 1)) (b := 2 * t + 1) (by omega) (by omega)
      omega
theorem floor_is {x D t r : Int} (hD : 0 < D) (h : x = t * D + r) (h0 : 0 ≤ r) (h1 : r < D) : x / D = t := by
  rw [h, Int.add_comm, Int.add_mul_ediv_right _ _ (by omega), Int.ediv_eq_zero_of_lt h0 h1, Int.zero_add]
theorem dn_floor {x D : Int} (hx : 0 ≤ x) (hD : 0 < D) : dn x D = x / D := by
  have eD : ab D = D := by unfold ab; omega
  have ex : ab x = x := by unfold ab; omega
  have nD : ng D = false := by unfold ng; exact decide_eq_false (by omega)
  have nx : ng x = false := by unfold ng; exact decide_eq_false (by omega)
  unfold dn
  rw [eD, ex, nD, nx]
  simp [sd]
/-- n over d, rounded up. -/
def cl (n d : Int) : Int := -dn (-n) d
theorem cl_is {n d : Int} (hn : 0 ≤ n) (hd : 0 < d) : n ≤ cl n d * d ∧ (cl n d - 1) * d < n ∧ 0 ≤ cl n d ∧ cl n d ≤ n := by
  have eD : ab d = d := by unfold ab; omega
  have ex : ab (-n) = n := by unfold ab; omega
  have nD : ng d = false := by unfold ng; exact decide_eq_false (by omega)
  have e := Int.mul_ediv_add_emod n d
  have r0 := Int.emod_nonneg n (show d ≠ 0 by omega)
  have r1 := Int.emod_lt_of_pos n hd
  have q0 : 0 ≤ n / d := Int.ediv_nonneg hn (by omega)
  have q1 : n / d ≤ n := Int.ediv_le_self _ hn
  have v : cl n d = if n % d = 0 then n / d else n / d + 1 := by
    unfold cl dn
    rw [eD, ex, nD]
    by_cases h : n = 0
    · subst h
      have : ng (-0) = false := rfl
      rw [this]
      simp [sd]
    · have : ng (-n) = true := by unfold ng; exact decide_eq_true (by omega)
      rw [this]
      by_cases g : n % d = 0
      · simp [sd, g]
      · simp [sd, g]
  rw [v]
  have m := Int.mul_comm d (n / d)
  split
  · rename_i g
    refine ⟨by omega, ?_, q0, q1⟩
    rw [Int.sub_mul]
    omega
  · rename_i g
    refine ⟨?_, ?_, by omega, ?_⟩
    · rw [Int.add_mul]; omega
    · rw [Int.add_sub_cancel]; omega
    · have : n / d < n ∨ n / d = n := by omega
      rcases this with t | t
      · omega
      · exfalso
        have k := Int.mul_le_mul_of_nonneg_left (show 1 ≤ d by omega) q0
        rw [t] at k m e
        omega
/-- A greater divisor has no greater quotient. -/
theorem cl_mono {n a b : Int} (hn : 0 ≤ n) (ha : 0 < a) (h : a ≤ b) : cl n b ≤ cl n a := by
  have A := cl_is hn ha
  have B := cl_is hn (show 0 < b by omega)
  rcases Int.lt_or_le (cl n a) (cl n b) with g | g
  · have k := Int.mul_le_mul_of_nonneg_right (show cl n a ≤ cl n b - 1 by omega) (show 0 ≤ b by omega)
    have l := Int.mul_le_mul_of_nonneg_left h A.2.2.1
    omega
  · exact g
end Go.Proofs.YteplhlmdaabpaaaGreatDoor
namespace Go.Proofs.YteplhlmdaabpaaaGreatDoor
open Go.RowKit

theorem lowest_g (m : Int) {d : Nat} (hd : d ≠ 0) : ∃ g : Nat, g = Nat.gcd m.natAbs d ∧ 0 < g ∧ m.tdiv (g : Int) * g = m ∧ d / g * g = d := by
  refine ⟨_, rfl, Nat.gcd_pos_of_pos_right _ (by omega), ?_, Nat.div_mul_cancel (Nat.gcd_dvd_right _ _)⟩
  exact Int.tdiv_mul_cancel (Int.ofNat_dvd_left.mpr (Nat.gcd_dvd_left _ _))
theorem half_low {m : Int} {d : Nat} {a : Int} {c : Nat} (hd : d ≠ 0) (h : 2 * (m.natAbs) ≤ d) (ha : a = m.tdiv (Nat.gcd m.natAbs d : Nat)) (hc : c = d / Nat.gcd m.natAbs d) : 2 * a.natAbs ≤ c ∧ c ≠ 0 ∧ a.natAbs ≤ m.natAbs ∧ c ≤ d := by
  obtain ⟨g, hg, g0, e1, e2⟩ := lowest_g m hd
  rw [← hg] at ha hc
  rw [← ha] at e1
  rw [← hc] at e2
  have e3 : a.natAbs * g = m.natAbs := by rw [← e1, Int.natAbs_mul]; simp
  have k : (2 * a.natAbs) * g ≤ c * g := by rw [Nat.mul_assoc]; omega
  refine ⟨Nat.le_of_mul_le_mul_right k g0, ?_, ?_, ?_⟩
  · rintro rfl; omega
  · rw [← e3]; exact Nat.le_mul_of_pos_right _ g0
  · rw [← e2]; exact Nat.le_mul_of_pos_right _ g0
theorem pow_odd : ∀ (n : Nat) (m : Nat), m % 2 = 1 → m ∣ 2 ^ n → m = 1
  | 0, m, _, h => by simpa using h
  | n + 1, m, hm, h => by
    rw [Nat.pow_succ] at h
    have c : Nat.Coprime m 2 := by unfold Nat.Coprime; rw [Nat.gcd_comm, Nat.gcd_rec, hm]; rfl
    exact pow_odd n m hm (Nat.Coprime.dvd_of_dvd_mul_right c h)
theorem odd_gcd2 {m : Int} (h : m % 2 = 1) : Nat.gcd m.natAbs 2 = 1 := by
  rw [Nat.gcd_comm, Nat.gcd_rec, show m.natAbs % 2 = 1 by omega]; rfl
theorem odd_gcd4 {m : Int} (h : m % 2 = 1) : Nat.gcd m.natAbs 4 = 1 := by
  rw [Nat.gcd_comm, Nat.gcd_rec]
  rcases (show m.natAbs % 4 = 1 ∨ m.natAbs % 4 = 3 by omega) with g | g <;> rw [g] <;> rfl
theorem odd_make {m : Int} (h : m % 2 = 1) : m = m.tdiv (Nat.gcd m.natAbs 2 : Nat) ∧ 2 = 2 / Nat.gcd m.natAbs 2 := by
  rw [odd_gcd2 h]
  exact ⟨by simp, rfl⟩
theorem odd_sq {m : Int} (h : m % 2 = 1) : (m * m) % 2 = 1 := by
  rw [Int.mul_emod, h]; rfl
theorem rsq_facts {a M N x : Int} {k : Nat} (ha : 0 < a) (hM : M = 2 ^ k) (hN : N = 4 * M) (c1 : N ≤ x * a) (c2 : (x - 1) * a < N) : ∃ (P : Int) (Q : Nat), P = M.tdiv (Nat.gcd M.natAbs a.natAbs : Nat) ∧ Q = a.natAbs / Nat.gcd M.natAbs a.natAbs ∧ 0 ≤ P ∧ Q ≠ 0 ∧ (x - 1) * Q < 4 * P ∧ 4 * P ≤ x * Q ∧ (∀ j : Int, 0 ≤ j → (2 * j + 1) * (2 * j + 1) * Q = P * 4 → j = 0) ∧ P.natAbs ≤ M.natAbs ∧ Q ≤ a.natAbs := by
  have p0 : 0 < M := by rw [hM]; exact Int.pow_pos (by decide)
  obtain ⟨g, hg, g0, e1, e2⟩ := lowest_g M (d := a.natAbs) (by omega)
  rw [← hg]
  generalize M.tdiv (g : Int) = P at *
  generalize a.natAbs / g = Q at *
  have e2 : (Q : Int) * g = a := by have : ((Q * g : Nat) : Int) = (a.natAbs : Int) := by rw [e2]
                                    rw [Int.natCast_mul] at this; omega
  have g1 : (0 : Int) < g := by omega
  have P0 : 0 ≤ P := by
    rcases Int.lt_or_le P 0 with h | h
    · have := Int.mul_neg_of_neg_of_pos h g1; omega
    · exact h
  have Q0 : Q ≠ 0 := by rintro rfl; simp at e2; omega
  refine ⟨P, Q, rfl, rfl, P0, Q0, ?_, ?_, ?_, ?_, ?_⟩
  · refine Int.lt_of_mul_lt_mul_right (a := g) ?_ (by omega)
    rw [Int.mul_assoc, e2, Int.mul_assoc, e1]; omega
  · refine Int.le_of_mul_le_mul_right (a := g) ?_ g1
    rw [Int.mul_assoc, e1, Int.mul_assoc, e2]; omega
  · intro j j0 h
    have h2 : (2 * j + 1) * (2 * j + 1) * a = 2 ^ (k + 2) := by
      rw [← e2, ← Int.mul_assoc, h, Int.mul_right_comm, e1, hM, Int.pow_add]; rfl
    have d : (2 * j + 1) ∣ (2 : Int) ^ (k + 2) := ⟨(2 * j + 1) * a, by rw [← h2, Int.mul_assoc]⟩
    have d2 : (2 * j + 1).natAbs ∣ 2 ^ (k + 2) := by have := Int.natAbs_dvd_natAbs.mpr d; rwa [Int.natAbs_pow] at this
    have := pow_odd _ _ (by omega) d2
    omega
  · have : M.natAbs = P.natAbs * g := by rw [← e1, Int.natAbs_mul]; simp
    rw [this]; exact Nat.le_mul_of_pos_right _ g0
  · have : a.natAbs = Q * g := by omega
    rw [this]; exact Nat.le_mul_of_pos_right _ g0
theorem odd_make4 {m : Int} (h : m % 2 = 1) : m = m.tdiv (Nat.gcd m.natAbs 4 : Nat) ∧ 4 = 4 / Nat.gcd m.natAbs 4 := by
  rw [odd_gcd4 h]
  exact ⟨by simp, rfl⟩
/-- P over Q's root, rounded down, lies where? -/
theorem rt_quo {P Q s : Int} (hQ : 0 < Q) (hs : Rt (P / Q) s) : s * s * Q ≤ P ∧ P < (s + 1) * (s + 1) * Q := by
  obtain ⟨s0, s1, s2⟩ := hs
  have e := Int.mul_ediv_add_emod P Q
  have r0 := Int.emod_nonneg P (show Q ≠ 0 by omega)
  have r1 := Int.emod_lt_of_pos P hQ
  have a := Int.mul_le_mul_of_nonneg_right s1 (show 0 ≤ Q by omega)
  have b := Int.mul_le_mul_of_nonneg_right (show P / Q + 1 ≤ (s + 1) * (s + 1) by omega) (show 0 ≤ Q by omega)
  rw [Int.add_mul, Int.one_mul, Int.mul_comm (P / Q) Q] at b
  rw [Int.mul_comm (P / Q) Q] at a
  exact ⟨by omega, by omega⟩
/-- The half below the root: one more. -/
theorem near_up {P Q x s : Int} (hQ : 0 < Q) (h1 : (x - 1) * Q < 4 * P) (h2 : 4 * P ≤ x * Q) (hs : Rt (P / Q) s) (g : (2 * s + 1) * (2 * s + 1) * Q < P * 4) : Nr x (s + 1) := by
  obtain ⟨a, b⟩ := rt_quo hQ hs
  obtain ⟨s0, _, _⟩ := hs
  refine ⟨by omega, ?_, fun _ => ?_⟩
  · have k : (x - 1) * Q < (2 * (s + 1)) * (2 * (s + 1)) * Q := by
      have e : (2 * (s + 1)) * (2 * (s + 1)) * Q = 4 * ((s + 1) * (s + 1) * Q) := by
        generalize s + 1 = t
        rw [Int.mul_assoc 2 t, Int.mul_left_comm t 2 t, ← Int.mul_assoc, Int.mul_assoc]; omega
      omega
    have k2 := Int.lt_of_mul_lt_mul_right k (show 0 ≤ Q by omega)
    have := sq_mono (a := 2 * (s + 1)) (b := 2 * (s + 1) + 1) (by omega) (by omega)
    omega
  · have k : (2 * s + 1) * (2 * s + 1) * Q < x * Q := by omega
    have k2 := Int.lt_of_mul_lt_mul_right k (show 0 ≤ Q by omega)
    rw [show 2 * (s + 1) - 1 = 2 * s + 1 by omega]
    exact k2
/-- The half not below the root: it stays. -/
theorem near_stay {P Q x s : Int} (hQ : 0 < Q) (h1 : (x - 1) * Q < 4 * P) (h2 : 4 * P ≤ x * Q) (hs : Rt (P / Q) s) (g : P * 4 ≤ (2 * s + 1) * (2 * s + 1) * Q) : Nr x s := by
  obtain ⟨a, b⟩ := rt_quo hQ hs
  obtain ⟨s0, _, _⟩ := hs
  refine ⟨s0, ?_, fun g0 => ?_⟩
  · have k : (x - 1) * Q < (2 * s + 1) * (2 * s + 1) * Q := by omega
    have k2 := Int.lt_of_mul_lt_mul_right k (show 0 ≤ Q by omega)
    omega
  · have e : (2 * s) * (2 * s) * Q = 4 * (s * s * Q) := by
      rw [Int.mul_assoc 2 s, Int.mul_left_comm s 2 s, ← Int.mul_assoc, Int.mul_assoc]; omega
    have k : (2 * s) * (2 * s) * Q ≤ x * Q := by omega
    have k2 := Int.le_of_mul_le_mul_right k hQ
    have := sq_succ (2 * s - 1)
    rw [show 2 * s - 1 + 1 = 2 * s by omega] at this
    omega
/-- No half is a whole number's root. -/
theorem no_tie {P k : Int} : ¬ (2 * k + 1) * (2 * k + 1) * 1 = P * 4 := by
  intro h
  rw [Int.mul_one] at h
  have : ((2 * k + 1) * (2 * k + 1)) % 2 = 1 := odd_sq (by omega)
  omega
end Go.Proofs.YteplhlmdaabpaaaGreatDoor
namespace Go.Proofs.YteplhlmdaabpaaaGreatDoor
open Go.RowKit

theorem rd_whole (a : Int) {d : Int} (h : d ≠ 0) : rd (a * d) d = a := by
  have H := (half_math (a * d) d h).1
  generalize rd (a * d) d = q at *
  rw [← Int.sub_mul, Int.natAbs_mul] at H
  have H : 2 * ((a - q).natAbs * d.natAbs) ≤ 1 * d.natAbs := by omega
  rw [← Nat.mul_assoc] at H
  have := Nat.le_of_mul_le_mul_right H (show 0 < d.natAbs by omega)
  omega
theorem sg_at {a b : Int} (h : a ≤ b) : ¬ 0 < sg a b := by
  rcases Int.lt_or_eq_of_le h with g | g
  · rw [sg_lt g]; decide
  · rw [g, sg_eq]; decide
/-- A quotient's half. -/
theorem law_quo {a N b d : Int} (hb : b ≠ 0) (h : d = rd (a * N) b) : ¬ 0 < sg (((d * b - a * N).natAbs : Int) * 2 ^ 1) (b.natAbs : Int) := by
  refine sg_at ?_
  have H := (half_math (a * N) b hb).1
  rw [← h] at H
  omega
/-- What is left between a rounded quotient and the quotient in lowest terms. -/
theorem last_half {M X : Int} {D : Nat} (hD : D ≠ 0) (h : 2 * (M - X * D).natAbs ≤ D) : ∃ (P : Int) (Q : Nat) (m : Int), P = M.tdiv (Nat.gcd M.natAbs D : Nat) ∧ Q = D / Nat.gcd M.natAbs D ∧ m = X * ((Q : Nat) : Int) + (-P) * ((1 : Nat) : Int) ∧ Q ≠ 0 ∧ P.natAbs ≤ M.natAbs ∧ Q ≤ D ∧ 2 * m.natAbs ≤ Q := by
  obtain ⟨g, hg, g0, e1, e2⟩ := lowest_g M hD
  rw [← hg]
  generalize M.tdiv (g : Int) = P at *
  generalize D / g = Q at *
  have Q0 : Q ≠ 0 := by rintro rfl; simp at e2; omega
  refine ⟨P, Q, _, rfl, rfl, rfl, Q0, ?_, ?_, ?_⟩
  · have : M.natAbs = P.natAbs * g := by rw [← e1, Int.natAbs_mul]; simp
    rw [this]; exact Nat.le_mul_of_pos_right _ g0
  · rw [← e2]; exact Nat.le_mul_of_pos_right _ g0
  · have e3 : M - X * D = (P - X * Q) * g := by
      rw [Int.sub_mul, e1, Int.mul_assoc, ← e2, Int.natCast_mul]
    have e4 : (M - X * D).natAbs = (P - X * Q).natAbs * g := by rw [e3, Int.natAbs_mul]; simp
    rw [e4, ← e2, ← Nat.mul_assoc] at h
    have := Nat.le_of_mul_le_mul_right h g0
    have e5 : X * ((Q : Nat) : Int) + (-P) * ((1 : Nat) : Int) = -(P - X * Q) := by simp; omega
    rw [e5, Int.natAbs_neg]
    exact this
/-- A product's half, over a power of 2, in lowest terms. -/
theorem law_prod {M X : Int} {D : Nat} (hD : D ≠ 0) (h : X = rd M D) : ∃ (P : Int) (Q : Nat) (m : Int) (A : Int) (C : Nat), P = M.tdiv (Nat.gcd M.natAbs D : Nat) ∧ Q = D / Nat.gcd M.natAbs D ∧ m = X * ((Q : Nat) : Int) + (-P) * ((1 : Nat) : Int) ∧ Q ≠ 0 ∧ P.natAbs ≤ M.natAbs ∧ Q ≤ D ∧ m.natAbs ≤ D ∧ A = m.tdiv (Nat.gcd m.natAbs Q : Nat) ∧ C = Q / Nat.gcd m.natAbs Q ∧ A.natAbs ≤ D ∧ C ≤ D ∧ ¬ 0 < sg (((A.natAbs : Nat) : Int) * (2 : Nat)) (1 * ((C : Nat) : Int)) := by
  have H := (half_math M D (by omega)).1
  rw [← h] at H
  obtain ⟨P, Q, m, h1, h2, h3, h4, h5, h6, h7⟩ := last_half (M := M) (X := X) hD (by omega)
  have K := half_low h4 h7 rfl rfl
  exact ⟨P, Q, m, _, _, h1, h2, h3, h4, h5, h6, by omega, rfl, rfl, by omega, by omega, sg_at (by omega)⟩
end Go.Proofs.YteplhlmdaabpaaaGreatDoor
namespace Go.Proofs.YteplhlmdaabpaaaGreatDoor
open Go.RowKit

theorem dv_snoc : ∀ (l : List Nat) (d : Nat), dv (l ++ [d]) = 10 * dv l + d
  | [], d => by simp [dv]
  | a :: t, d => by
    have := dv_snoc t d
    simp only [List.cons_append, dv, List.length_append, List.length_singleton, Nat.pow_succ, this]
    rw [← Nat.mul_assoc]
    generalize a * 10 ^ t.length = x
    omega
theorem dv_append : ∀ (l m : List Nat), dv (l ++ m) = dv l * 10 ^ m.length + dv m
  | [], m => by simp [dv]
  | a :: t, m => by
    have := dv_append t m
    simp only [List.cons_append, dv, List.length_append, this, Nat.pow_add, Nat.add_mul, Nat.mul_assoc, Nat.add_assoc]
theorem dv_take_le (l : List Nat) (k : Nat) : dv (l.take k) ≤ dv l := by
  have h := dv_append (l.take k) (l.drop k)
  rw [List.take_append_drop] at h
  have h2 : dv (l.take k) * 1 ≤ dv (l.take k) * 10 ^ (l.drop k).length := Nat.mul_le_mul_left _ (Nat.pow_pos (by decide))
  omega
/-- The word that a decimal is nearest to: A ahead of the point, D behind it. -/
def wval (m : Bool) (A D : List Nat) (f : Nat) : Int := if m then -rd (((dv A * 10 ^ D.length + dv D) * 2 ^ f : Nat) : Int) ((10 ^ D.length : Nat) : Int) else rd (((dv A * 10 ^ D.length + dv D) * 2 ^ f : Nat) : Int) ((10 ^ D.length : Nat) : Int)
theorem wval_over {m : Bool} {A D : List Nat} {f : Nat} (h : 2 ^ (47 - f) ≤ dv A) (hf : f ≤ 32) : tw (wval m A D f) = 0 ∧ te (wval m A D f) = 3 := by
  have hK : (0 : Int) < ((10 ^ D.length : Nat) : Int) := by have : 0 < 10 ^ D.length := Nat.pow_pos (by decide); omega
  have h1 : ((dv A * 2 ^ f : Nat) : Int) ≤ rd (((dv A * 10 ^ D.length + dv D) * 2 ^ f : Nat) : Int) ((10 ^ D.length : Nat) : Int) := by
    have e := rd_whole ((dv A * 2 ^ f : Nat) : Int) (show ((10 ^ D.length : Nat) : Int) ≠ 0 by omega)
    rw [← e]
    refine rd_mono hK ?_
    have : dv A * 2 ^ f * 10 ^ D.length ≤ (dv A * 10 ^ D.length + dv D) * 2 ^ f := by
      rw [Nat.add_mul, Nat.mul_right_comm]
      exact Nat.le_add_right _ _
    exact_mod_cast this
  have h2 : 140737488355328 ≤ dv A * 2 ^ f := by
    have : 2 ^ (47 - f) * 2 ^ f ≤ dv A * 2 ^ f := Nat.mul_le_mul_right _ h
    rw [← Nat.pow_add, show 47 - f + f = 47 by omega] at this
    exact this
  have hw : wd (wval m A D f) = false := by
    unfold wval wd
    generalize rd (((dv A * 10 ^ D.length + dv D) * 2 ^ f : Nat) : Int) ((10 ^ D.length : Nat) : Int) = x at *
    rw [decide_eq_false_iff_not]
    cases m <;> simp <;> omega
  exact ⟨tw_out hw, te_out hw⟩
theorem wval_in {A D : List Nat} {f : Nat} (hD : ∀ d ∈ D, d ≤ 9) (h : dv A < 2 ^ (47 - f)) (hf : f ≤ 32) : 0 ≤ rd (((dv A * 10 ^ D.length + dv D) * 2 ^ f : Nat) : Int) ((10 ^ D.length : Nat) : Int) ∧ rd (((dv A * 10 ^ D.length + dv D) * 2 ^ f : Nat) : Int) ((10 ^ D.length : Nat) : Int) ≤ 140737488355328 := by
  have hK : (0 : Int) < ((10 ^ D.length : Nat) : Int) := by have : 0 < 10 ^ D.length := Nat.pow_pos (by decide); omega
  have e0 := rd_whole 0 (show ((10 ^ D.length : Nat) : Int) ≠ 0 by omega)
  have e1 := rd_whole 140737488355328 (show ((10 ^ D.length : Nat) : Int) ≠ 0 by omega)
  constructor
  · rw [← e0]
    exact rd_mono hK (by rw [Int.zero_mul]; omega)
  · have h0 := dv_lt D hD
    rw [← e1]
    refine rd_mono hK ?_
    have h1 : dv A * 10 ^ D.length + dv D ≤ 2 ^ (47 - f) * 10 ^ D.length := by
      have : (dv A + 1) * 10 ^ D.length ≤ 2 ^ (47 - f) * 10 ^ D.length := Nat.mul_le_mul_right _ h
      rw [Nat.add_mul, Nat.one_mul] at this
      omega
    have h2 : (dv A * 10 ^ D.length + dv D) * 2 ^ f ≤ 140737488355328 * 10 ^ D.length := by
      have := Nat.mul_le_mul_right (2 ^ f) h1
      rw [Nat.mul_right_comm, ← Nat.pow_add, show 47 - f + f = 47 by omega] at this
      exact this
    clear e0 e1 h1 h0 hK
    generalize (dv A * 10 ^ D.length + dv D) * 2 ^ f = x at *
    generalize 10 ^ D.length = K at *
    omega

theorem lt8_b8 {D : List Nat} {P : ByteArray} (hD : ∀ d ∈ D, d ≤ 9) (hP : P.data.toList = D.map (fun d => UInt8.ofNat (48 + d))) : (P.data.toList.map fun b => Value.int .u8 (b.toNat : Int)) = D.map lt8 := by
  rw [hP, List.map_map]
  refine List.map_congr_left fun d hd => ?_
  have := hD d hd
  show Value.int .u8 ((UInt8.ofNat (48 + d)).toNat : Int) = .int .u8 (48 + (d : Int))
  have e2 : (UInt8.ofNat (48 + d)).toNat = (48 + d) % 256 := by simp
  rw [e2]
  exact congrArg _ (by omega)

theorem box3 (w : World) (a b c : Value) (t : TypeId) : (w.alloc (.cells #[a, b, c] t)).cell? ⟨w.heap.size, 0, none⟩ = some a ∧ (w.alloc (.cells #[a, b, c] t)).cell? ⟨w.heap.size, 1, none⟩ = some b ∧ (w.alloc (.cells #[a, b, c] t)).cell? ⟨w.heap.size, 2, none⟩ = some c := by
  have h := World.alloc_heap_new w (.cells #[a, b, c] t)
  refine ⟨?_, ?_, ?_⟩ <;> (unfold World.cell?; rw [h]; rfl)
set_option maxRecDepth 100000 in
set_option maxHeartbeats 8000000 in
/-- decimal.word -/
theorem word_any (m : Bool) (W P : ByteArray) (A D : List Nat) (f : Nat) (w : World) (hA : ∀ d ∈ A, d ≤ 9) (hW : W.data.toList = A.map (fun d => UInt8.ofNat (48 + d))) (hD : ∀ d ∈ D, d ≤ 9) (hP : P.data.toList = D.map (fun d => UInt8.ofNat (48 + d))) (ha : A.length ≤ 64) (hl : D.length ≤ 64) (hf : f ≤ 32) (hf8 : 8 ≤ f) :
    Calls Tryz.prog 19 #[.agg #[.bool m, .string W, .string P], .int .i64 f] w fun e w' => e = .returned (.tuple #[.int .i64 (tw (wval m A D f)), .int .i64 (te (wval m A D f))]) ∧ Below w.heap.size w w' := by
  have hps : W.size = A.length := by
    have := congrArg List.length hW
    rw [List.length_map, Array.length_toList] at this
    exact this
  obtain ⟨r0, r1, r2⟩ := byteRow_of_string (w.alloc (.cells #[.bool m, .string W, .string P] 50)) 5 W (by omega) w.heap.size (by simp)
  have cv1 := Lib.run_convert_string_bytes (P := Tryz.prog) (w.alloc (.cells #[.bool m, .string W, .string P] 50)) 9 44 5 W Tryz.underlying9 Tryz.underlying44 Tryz.underlying5
  rw [hps, lt8_b8 hA hW] at r0
  have hbox := box3 w (.bool m) (.string W) (.string P) 50
  have r0 : ByteRow (Lib.bytesWorld (w.alloc (.cells #[.bool m, .string W, .string P] 50)) 5 W) w.heap.size 5 (.slice (some ⟨w.heap.size + 1, 0, none⟩) A.length (grownCap (w.alloc (.cells #[.bool m, .string W, .string P] 50)) A.length 0 5)) (A.map lt8) := by simpa using r0
  have hBb : Below w.heap.size w (Lib.bytesWorld (w.alloc (.cells #[.bool m, .string W, .string P] 50)) 5 W) := ((Below.refl _ _).alloc (Nat.le_refl _) _).trans (r1.mono (by simp))
  have hbx : ∀ i v, (w.alloc (.cells #[.bool m, .string W, .string P] 50)).cell? ⟨w.heap.size, i, none⟩ = some v → (Lib.bytesWorld (w.alloc (.cells #[.bool m, .string W, .string P] 50)) 5 W).cell? ⟨w.heap.size, i, none⟩ = some v := fun i v h => (r1.cell (p := ⟨w.heap.size, i, none⟩) (by simp)).trans h
  have b0 := hbx 0 _ hbox.1
  have b1 := hbx 1 _ hbox.2.1
  have b2 := hbx 2 _ hbox.2.2
  have HR := Lib.hid r0
  have RD := Lib.hid (fun (s : Nat) (W0 : World) (h : s < 2 ^ (47 - f)) => rounded_any m W P D s f W0 hD hP hl hf h)
  have HD := Lib.hid (And.intro hA (And.intro hD hP))
  clear hA hW hD hP r0 r1 r2 hbx hbox
  go_enter Tryz.func19, Tryz.ntmps19
  go_wp2
  generalize Lib.bytesWorld (w.alloc (.cells #[.bool m, .string W, .string P] 50)) 5 W = w1 at *
  generalize grownCap (w.alloc (.cells #[.bool m, .string W, .string P] 50)) A.length 0 5 = cap at *
  obtain ⟨g, hg⟩ : ∃ g, g = 47 - f := ⟨_, rfl⟩
  have eg : 47 - (f : Int) = (g : Int) := by omega
  obtain ⟨B, hB0⟩ : ∃ B, B = 2 ^ g := ⟨_, rfl⟩
  have hB1 : B ≤ 549755813888 := by rw [hB0]; exact Nat.le_trans (Nat.pow_le_pow_right (by decide) (by omega : g ≤ 39)) (by decide)
  have eB : IntKind.u64.wrap (2 ^ g) = (B : Int) := by
    have e : (2 : Int) ^ g = ((2 ^ g : Nat) : Int) := by simp
    rw [e, ← hB0, IntKind.wrap_u64]
    omega
  have HB := Lib.hid (And.intro hg hB0)
  have RD2 : Hid (∀ (s : Nat) (W0 : World), s < B → _) := fun s W0 h => RD.out s W0 (by rw [← hg, ← hB0]; exact h)
  clear hB0
  have hp0 : 0 < B := by rw [HB.out.2]; exact Nat.pow_pos (by decide)
  clear hg RD
  go_loopw [6, 8, 14] (fun s6 _ s14 wr => ∃ k s : Nat, k ≤ A.length ∧ s14 = .int .i64 k ∧ s6 = .int .u64 s ∧ s = dv (A.take k) ∧ s < B ∧ wr = w1) (fun _ _ s14 _ => A.length - (RowKit.intOf s14).toNat)
  case atStart => exact ⟨0, 0, Nat.zero_le _, rfl, rfl, by simp [dv], hp0, rfl⟩
  case round =>
    obtain ⟨k, s, hk, rfl, rfl, hs, hsB, rfl⟩ := hrel
    by_cases g1 : k < A.length
    · obtain ⟨d, hd⟩ : ∃ d, d = A[k] := ⟨_, rfl⟩
      have hd9 : d ≤ 9 := HD.out.1 d (by rw [hd]; exact List.getElem_mem g1)
      have hcell : wr.cell? ⟨w.heap.size + 1, k, none⟩ = some (.int .u8 (48 + (d : Int))) := by
        refine HR.out.cells k _ ?_
        rw [List.getElem?_map, List.getElem?_eq_getElem g1, ← hd]; rfl
      have hnext : Hid (10 * s + d = dv (A.take (k + 1))) := by unfold Hid; rw [List.take_succ_eq_append_getElem g1, dv_snoc, ← hd, hs]
      have e8 : (48 + (d : Int) - 48) = (d : Int) := by omega
      have e9 : IntKind.u64.wrap (10 * (s : Int)) = ((10 * s : Nat) : Int) := by rw [IntKind.wrap_u64]; omega
      clear hd hs
      by_cases gb : B ≤ 10 * s + d
      · have hov : Hid (tw (wval m A D f) = 0 ∧ te (wval m A D f) = 3) := by
          refine wval_over ?_ hf
          rw [← HB.out.1, ← HB.out.2]
          have := dv_take_le A (k + 1)
          rw [← hnext.out] at this
          omega
        go_wp2
        refine bodyPost_ret (results_tmp2 rfl _ _ _) rfl ?_
        exact ⟨by rw [hov.out.1, hov.out.2]; rfl, hBb⟩
      · go_wp2
        exact ⟨⟨k + 1, 10 * s + d, by omega, by go_num, congrArg (Value.int .u64) (by omega), hnext.out, by omega, trivial⟩, by simp [RowKit.intOf]; omega⟩
    · have e : k = A.length := by omega
      subst e
      rw [List.take_of_length_le (Nat.le_refl _)] at hs
      clear g1
      have hin := wval_in (A := A) HD.out.2.1 (show dv A < 2 ^ (47 - f) by rw [← hs, ← HB.out.1, ← HB.out.2]; exact hsB) hf
      have hwv : wval m A D f = if m then -rd (((s * 10 ^ D.length + dv D) * 2 ^ f : Nat) : Int) ((10 ^ D.length : Nat) : Int) else rd (((s * 10 ^ D.length + dv D) * 2 ^ f : Nat) : Int) ((10 ^ D.length : Nat) : Int) := by unfold wval; rw [hs]
      rw [← hs] at hin
      have RD3 := Lib.hid (fun W0 : World => RD2.out s W0 hsB)
      clear RD2
      generalize rd (((s * 10 ^ D.length + dv D) * 2 ^ f : Nat) : Int) ((10 ^ D.length : Nat) : Int) = x at *
      obtain ⟨x0, x1⟩ := hin
      obtain ⟨y, hy⟩ : ∃ y : Nat, x = (y : Int) := ⟨x.toNat, by omega⟩
      subst hy
      have hwv := Lib.hid hwv
      clear hs hsB x0 hp0 eB hB1
      have hy47 : y ≤ 140737488355328 := by omega
      clear x1
      cases m with
      | true =>
        have TL := Lib.hid (fun W0 : World => told_any (-(y : Int)) W0)
        go_wp2_with (first | (go_at_call 40; (with_reducible refine (RD3.out _).mono ?_); rintro e w5 ⟨rfl, hb5⟩; have c5 := (hb5.cell (p := ⟨w.heap.size, 0, none⟩) (World.block_lt_of_cell? _ _ b0)).trans b0) | (go_at_call 41; (with_reducible refine (TL.out _).mono ?_); rintro e w6 ⟨rfl, rfl⟩) | fail)
        refine bodyPost_ret (results_tmp2 rfl _ _ _) rfl ?_
        exact ⟨by rw [hwv.out]; rfl, hBb.trans (hb5.mono hBb.size)⟩
      | false =>
        have TL := Lib.hid (fun W0 : World => told_any (y : Int) W0)
        go_wp2_with (first | (go_at_call 40; (with_reducible refine (RD3.out _).mono ?_); rintro e w5 ⟨rfl, hb5⟩; have c5 := (hb5.cell (p := ⟨w.heap.size, 0, none⟩) (World.block_lt_of_cell? _ _ b0)).trans b0) | (go_at_call 41; (with_reducible refine (TL.out _).mono ?_); rintro e w6 ⟨rfl, rfl⟩) | fail)
        refine bodyPost_ret (results_tmp2 rfl _ _ _) rfl ?_
        exact ⟨by rw [hwv.out]; rfl, hBb.trans (hb5.mono hBb.size)⟩
end Go.Proofs.YteplhlmdaabpaaaGreatDoor
