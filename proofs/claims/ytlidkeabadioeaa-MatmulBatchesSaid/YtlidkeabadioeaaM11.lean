/-
  The nearest whole number to the root of a rational number, by its half; odd numbers over 2 and 4.
  FxLaws' arithmetic: whole quotients; a quotient's half, a product's half over a power of 2, in lowest terms.
  Rounded quotients of words: they are words, but for one.
  package reduce: sums, closed.
  package reduce: Sum, Mean.
  package reduce: Max.
  What ReduceTwice says, in numbers: sums by two axes, by none; greatest words.
  Products of matrices, in numbers: shapes, blocks, sums.
-/
import Derived.Test.YtlidkeabadioeaaM08
import Derived.Test.YtlidkeabadioeaaM09
import Derived.Test.YtlidkeabadioeaaM10
namespace Go.Proofs.Ytlidkeabadioeaa
open Go.RowKit

theorem lowest_g (m : Int) {d : Nat} (hd : d ≠ 0) : ∃ g : Nat, g = Nat.gcd m.natAbs d ∧ 0 < g ∧ m.tdiv (g : Int) * g = m ∧ d / g * g = d := by
  refine ⟨_, rfl, Nat.gcd_pos_of_pos_right _ (by omega), ?_, Nat.div_mul_cancel (Nat.gcd_dvd_right _ _)⟩
  exact Int.tdiv_mul_cancel (Int.ofNat_dvd_left.mpr (Nat.gcd_dvd_left _ _))
theorem half_low {m : Int} {d : Nat} {a : Int} {c : Nat} (hd : d ≠ 0) (h : 2 * (m.natAbs) ≤ d) (ha : a = m.tdiv (Nat.gcd m.natAbs d : Nat)) (hc : c = d / Nat.gcd m.natAbs d) : 2 * a.natAbs ≤ c ∧ c ≠ 0 ∧ a.natAbs ≤ m.natAbs ∧ c ≤ d := by
  obtain ⟨g, hg, g0, e1, e2⟩ := lowest_g m hd
  rw [← hg] at ha hc
  rw [← ha] at e1
  rw [← hc] at e2
  have e3 : a.natAbs * g = m.natAbs := by rw [← e1, Int.natAbs_mul]; simp
  have k : (2 * a.natAbs) * g ≤ c * g := by rw [Nat.mul_assoc]; omega
  refine ⟨Nat.le_of_mul_le_mul_right k g0, ?_, ?_, ?_⟩
  · rintro rfl; omega
  · rw [← e3]; exact Nat.le_mul_of_pos_right _ g0
  · rw [← e2]; exact Nat.le_mul_of_pos_right _ g0
theorem pow_odd : ∀ (n : Nat) (m : Nat), m % 2 = 1 → m ∣ 2 ^ n → m = 1
  | 0, m, _, h => by simpa using h
  | n + 1, m, hm, h => by
    rw [Nat.pow_succ] at h
    have c : Nat.Coprime m 2 := by unfold Nat.Coprime; rw [Nat.gcd_comm, Nat.gcd_rec, hm]; rfl
    exact pow_odd n m hm (Nat.Coprime.dvd_of_dvd_mul_right c h)
theorem odd_gcd2 {m : Int} (h : m % 2 = 1) : Nat.gcd m.natAbs 2 = 1 := by
  rw [Nat.gcd_comm, Nat.gcd_rec, show m.natAbs % 2 = 1 by omega]; rfl
theorem odd_gcd4 {m : Int} (h : m % 2 = 1) : Nat.gcd m.natAbs 4 = 1 := by
  rw [Nat.gcd_comm, Nat.gcd_rec]
  rcases (show m.natAbs % 4 = 1 ∨ m.natAbs % 4 = 3 by omega) with g | g <;> rw [g] <;> rfl
theorem odd_make {m : Int} (h : m % 2 = 1) : m = m.tdiv (Nat.gcd m.natAbs 2 : Nat) ∧ 2 = 2 / Nat.gcd m.natAbs 2 := by
  rw [odd_gcd2 h]
  exact ⟨by simp, rfl⟩
theorem odd_sq {m : Int} (h : m % 2 = 1) : (m * m) % 2 = 1 := by
  rw [Int.mul_emod, h]; rfl
theorem rsq_facts {a M N x : Int} {k : Nat} (ha : 0 < a) (hM : M = 2 ^ k) (hN : N = 4 * M) (c1 : N ≤ x * a) (c2 : (x - 1) * a < N) : ∃ (P : Int) (Q : Nat), P = M.tdiv (Nat.gcd M.natAbs a.natAbs : Nat) ∧ Q = a.natAbs / Nat.gcd M.natAbs a.natAbs ∧ 0 ≤ P ∧ Q ≠ 0 ∧ (x - 1) * Q < 4 * P ∧ 4 * P ≤ x * Q ∧ (∀ j : Int, 0 ≤ j → (2 * j + 1) * (2 * j + 1) * Q = P * 4 → j = 0) ∧ P.natAbs ≤ M.natAbs ∧ Q ≤ a.natAbs := by
  have p0 : 0 < M := by rw [hM]; exact Int.pow_pos (by decide)
  obtain ⟨g, hg, g0, e1, e2⟩ := lowest_g M (d := a.natAbs) (by omega)
  rw [← hg]
  generalize M.tdiv (g : Int) = P at *
  generalize a.natAbs / g = Q at *
  have e2 : (Q : Int) * g = a := by have : ((Q * g : Nat) : Int) = (a.natAbs : Int) := by rw [e2]
                                    rw [Int.natCast_mul] at this; omega
  have g1 : (0 : Int) < g := by omega
  have P0 : 0 ≤ P := by
    rcases Int.lt_or_le P 0 with h | h
    · have := Int.mul_neg_of_neg_of_pos h g1; omega
    · exact h
  have Q0 : Q ≠ 0 := by rintro rfl; simp at e2; omega
  refine ⟨P, Q, rfl, rfl, P0, Q0, ?_, ?_, ?_, ?_, ?_⟩
  · refine Int.lt_of_mul_lt_mul_right (a := g) ?_ (by omega)
    rw [Int.mul_assoc, e2, Int.mul_assoc, e1]; omega
  · refine Int.le_of_mul_le_mul_right (a := g) ?_ g1
    rw [Int.mul_assoc, e1, Int.mul_assoc, e2]; omega
  · intro j j0 h
    have h2 : (2 * j + 1) * (2 * j + 1) * a = 2 ^ (k + 2) := by
      rw [← e2, ← Int.mul_assoc, h, Int.mul_right_comm, e1, hM, Int.pow_add]; rfl
    have d : (2 * j + 1) ∣ (2 : Int) ^ (k + 2) := ⟨(2 * j + 1) * a, by rw [← h2, Int.mul_assoc]⟩
    have d2 : (2 * j + 1).natAbs ∣ 2 ^ (k + 2) := by have := Int.natAbs_dvd_natAbs.mpr d; rwa [Int.natAbs_pow] at this
    have := pow_odd _ _ (by omega) d2
    omega
  · have : M.natAbs = P.natAbs * g := by rw [← e1, Int.natAbs_mul]; simp
    rw [this]; exact Nat.le_mul_of_pos_right _ g0
  · have : a.natAbs = Q * g := by omega
    rw [this]; exact Nat.le_mul_of_pos_right _ g0
theorem odd_make4 {m : Int} (h : m % 2 = 1) : m = m.tdiv (Nat.gcd m.natAbs 4 : Nat) ∧ 4 = 4 / Nat.gcd m.natAbs 4 := by
  rw [odd_gcd4 h]
  exact ⟨by simp, rfl⟩
/-- P over Q's root, rounded down, lies where? -/
theorem rt_quo {P Q s : Int} (hQ : 0 < Q) (hs : Rt (P / Q) s) : s * s * Q ≤ P ∧ P < (s + 1) * (s + 1) * Q := by
  obtain ⟨s0, s1, s2⟩ := hs
  have e := Int.mul_ediv_add_emod P Q
  have r0 := Int.emod_nonneg P (show Q ≠ 0 by omega)
  have r1 := Int.emod_lt_of_pos P hQ
  have a := Int.mul_le_mul_of_nonneg_right s1 (show 0 ≤ Q by omega)
  have b := Int.mul_le_mul_of_nonneg_right (show P / Q + 1 ≤ (s + 1) * (s + 1) by omega) (show 0 ≤ Q by omega)
  rw [Int.add_mul, Int.one_mul, Int.mul_comm (P / Q) Q] at b
  rw [Int.mul_comm (P / Q) Q] at a
  exact ⟨by omega, by omega⟩
/-- The half below the root: one more. -/
theorem near_up {P Q x s : Int} (hQ : 0 < Q) (h1 : (x - 1) * Q < 4 * P) (h2 : 4 * P ≤ x * Q) (hs : Rt (P / Q) s) (g : (2 * s + 1) * (2 * s + 1) * Q < P * 4) : Nr x (s + 1) := by
  obtain ⟨a, b⟩ := rt_quo hQ hs
  obtain ⟨s0, _, _⟩ := hs
  refine ⟨by omega, ?_, fun _ => ?_⟩
  · have k : (x - 1) * Q < (2 * (s + 1)) * (2 * (s + 1)) * Q := by
      have e : (2 * (s + 1)) * (2 * (s + 1)) * Q = 4 * ((s + 1) * (s + 1) * Q) := by
        generalize s + 1 = t
        rw [Int.mul_assoc 2 t, Int.mul_left_comm t 2 t, ← Int.mul_assoc, Int.mul_assoc]; omega
      omega
    have k2 := Int.lt_of_mul_lt_mul_right k (show 0 ≤ Q by omega)
    have := sq_mono (a := 2 * (s + 1)) (b := 2 * (s + 1) + 1) (by omega) (by omega)
    omega
  · have k : (2 * s + 1) * (2 * s + 1) * Q < x * Q := by omega
    have k2 := Int.lt_of_mul_lt_mul_right k (show 0 ≤ Q by omega)
    rw [show 2 * (s + 1) - 1 = 2 * s + 1 by omega]
    exact k2
/-- The half not below the root: it stays. -/
theorem near_stay {P Q x s : Int} (hQ : 0 < Q) (h1 : (x - 1) * Q < 4 * P) (h2 : 4 * P ≤ x * Q) (hs : Rt (P / Q) s) (g : P * 4 ≤ (2 * s + 1) * (2 * s + 1) * Q) : Nr x s := by
  obtain ⟨a, b⟩ := rt_quo hQ hs
  obtain ⟨s0, _, _⟩ := hs
  refine ⟨s0, ?_, fun g0 => ?_⟩
  · have k : (x - 1) * Q < (2 * s + 1) * (2 * s + 1) * Q := by omega
    have k2 := Int.lt_of_mul_lt_mul_right k (show 0 ≤ Q by omega)
    omega
  · have e : (2 * s) * (2 * s) * Q = 4 * (s * s * Q) := by
      rw [Int.mul_assoc 2 s, Int.mul_left_comm s 2 s, ← Int.mul_assoc, Int.mul_assoc]; omega
    have k : (2 * s) * (2 * s) * Q ≤ x * Q := by omega
    have k2 := Int.le_of_mul_le_mul_right k hQ
    have := sq_succ (2 * s - 1)
    rw [show 2 * s - 1 + 1 = 2 * s by omega] at this
    omega
/-- No half is a whole number's root. -/
theorem no_tie {P k : Int} : ¬ (2 * k + 1) * (2 * k + 1) * 1 = P * 4 := by
  intro h
  rw [Int.mul_one] at h
  have : ((2 * k + 1) * (2 * k + 1)) % 2 = 1 := odd_sq (by omega)
  omega
end Go.Proofs.Ytlidkeabadioeaa
namespace Go.Proofs.Ytlidkeabadioeaa
open Go.RowKit

theorem rd_whole (a : Int) {d : Int} (h : d ≠ 0) : rd (a * d) d = a := by
  have H := (half_math (a * d) d h).1
  generalize rd (a * d) d = q at *
  rw [← Int.sub_mul, Int.natAbs_mul] at H
  have H : 2 * ((a - q).natAbs * d.natAbs) ≤ 1 * d.natAbs := by omega
  rw [← Nat.mul_assoc] at H
  have := Nat.le_of_mul_le_mul_right H (show 0 < d.natAbs by omega)
  omega
theorem sg_at {a b : Int} (h : a ≤ b) : ¬ 0 < sg a b := by
  rcases Int.lt_or_eq_of_le h with g | g
  · rw [sg_lt g]; decide
  · rw [g, sg_eq]; decide
/-- A quotient's half. -/
theorem law_quo {a N b d : Int} (hb : b ≠ 0) (h : d = rd (a * N) b) : ¬ 0 < sg (((d * b - a * N).natAbs : Int) * 2 ^ 1) (b.natAbs : Int) := by
  refine sg_at ?_
  have H := (half_math (a * N) b hb).1
  rw [← h] at H
  omega
/-- What is left between a rounded quotient and the quotient in lowest terms. -/
theorem last_half {M X : Int} {D : Nat} (hD : D ≠ 0) (h : 2 * (M - X * D).natAbs ≤ D) : ∃ (P : Int) (Q : Nat) (m : Int), P = M.tdiv (Nat.gcd M.natAbs D : Nat) ∧ Q = D / Nat.gcd M.natAbs D ∧ m = X * ((Q : Nat) : Int) + (-P) * ((1 : Nat) : Int) ∧ Q ≠ 0 ∧ P.natAbs ≤ M.natAbs ∧ Q ≤ D ∧ 2 * m.natAbs ≤ Q := by
  obtain ⟨g, hg, g0, e1, e2⟩ := lowest_g M hD
  rw [← hg]
  generalize M.tdiv (g : Int) = P at *
  generalize D / g = Q at *
  have Q0 : Q ≠ 0 := by rintro rfl; simp at e2; omega
  refine ⟨P, Q, _, rfl, rfl, rfl, Q0, ?_, ?_, ?_⟩
  · have : M.natAbs = P.natAbs * g := by rw [← e1, Int.natAbs_mul]; simp
    rw [this]; exact Nat.le_mul_of_pos_right _ g0
  · rw [← e2]; exact Nat.le_mul_of_pos_right _ g0
  · have e3 : M - X * D = (P - X * Q) * g := by
      rw [Int.sub_mul, e1, Int.mul_assoc, ← e2, Int.natCast_mul]
    have e4 : (M - X * D).natAbs = (P - X * Q).natAbs * g := by rw [e3, Int.natAbs_mul]; simp
    rw [e4, ← e2, ← Nat.mul_assoc] at h
    have := Nat.le_of_mul_le_mul_right h g0
    have e5 : X * ((Q : Nat) : Int) + (-P) * ((1 : Nat) : Int) = -(P - X * Q) := by simp; omega
    rw [e5, Int.natAbs_neg]
    exact this
/-- A product's half, over a power of 2, in lowest terms. -/
theorem law_prod {M X : Int} {D : Nat} (hD : D ≠ 0) (h : X = rd M D) : ∃ (P : Int) (Q : Nat) (m : Int) (A : Int) (C : Nat), P = M.tdiv (Nat.gcd M.natAbs D : Nat) ∧ Q = D / Nat.gcd M.natAbs D ∧ m = X * ((Q : Nat) : Int) + (-P) * ((1 : Nat) : Int) ∧ Q ≠ 0 ∧ P.natAbs ≤ M.natAbs ∧ Q ≤ D ∧ m.natAbs ≤ D ∧ A = m.tdiv (Nat.gcd m.natAbs Q : Nat) ∧ C = Q / Nat.gcd m.natAbs Q ∧ A.natAbs ≤ D ∧ C ≤ D ∧ ¬ 0 < sg (((A.natAbs : Nat) : Int) * (2 : Nat)) (1 * ((C : Nat) : Int)) := by
  have H := (half_math M D (by omega)).1
  rw [← h] at H
  obtain ⟨P, Q, m, h1, h2, h3, h4, h5, h6, h7⟩ := last_half (M := M) (X := X) hD (by omega)
  have K := half_low h4 h7 rfl rfl
  exact ⟨P, Q, m, _, _, h1, h2, h3, h4, h5, h6, by omega, rfl, rfl, by omega, by omega, sg_at (by omega)⟩
end Go.Proofs.Ytlidkeabadioeaa
namespace Go.Proofs.Ytlidkeabadioeaa
open Go.RowKit

theorem sd_abs (s : Bool) (x : Int) : (sd s x).natAbs = x.natAbs := by cases s <;> simp [sd]
theorem ab_ab (d : Int) : ab (ab d) = ab d := by unfold ab; omega
theorem up_ab (n d : Int) : up n d = up n (ab d) := by unfold up; rw [ab_ab]
theorem rd_small {n d : Int} (hd : d ≠ 0) : (rd n d).natAbs ≤ n.natAbs := by
  have dp : 0 < ab d := by unfold ab; omega
  obtain ⟨q0, q1, q2⟩ := quo_small (n := n) dp
  have hu := up_rest (n := n) dp
  rw [← up_ab] at hu
  rw [ab_ab] at q0 q1 q2 hu
  unfold rd
  rw [sd_abs]
  have en : ab n = n.natAbs := rfl
  generalize ab n / ab d = q at *
  generalize ab n % ab d = r at *
  generalize ab n = A at *
  cases h : up n d with
  | true => have := q2 (hu h); simp only [if_true]; omega
  | false => simp only [Bool.false_eq_true, if_false]; omega
theorem rd_top {n d : Int} (h0 : -9223372036854775808 ≤ n) (h1 : n ≤ 9223372036854775807) (hd : d ≠ 0) (hs : isS (rd n d) = false) : n = -9223372036854775808 ∧ d = -1 := by
  have hs2 : ¬ (-9223372036854775808 ≤ rd n d ∧ rd n d ≤ 9223372036854775807) := by unfold isS at hs; exact of_decide_eq_false hs
  have sm := rd_small (n := n) hd
  have top : rd n d = 9223372036854775808 := by omega
  have hn : n = -9223372036854775808 := by omega
  refine ⟨hn, ?_⟩
  subst hn
  have dp : 0 < ab d := by unfold ab; omega
  have hu := up_rest (n := -9223372036854775808) dp
  rw [← up_ab, ab_ab] at hu
  have ea : ab (-9223372036854775808) = 9223372036854775808 := by decide
  unfold rd at top
  rw [ea] at top hu
  have nn : ng (-9223372036854775808) = true := by decide
  rw [nn] at top
  rcases (by omega : ab d = 1 ∨ 2 ≤ ab d) with h | h
  · rw [h, Int.ediv_one] at top
    rw [h, Int.emod_one] at hu
    cases hd2 : ng d with
    | true =>
      unfold ng at hd2
      have := of_decide_eq_true hd2
      unfold ab at h
      omega
    | false =>
      rw [hd2] at top
      cases hup : up (-9223372036854775808) d with
      | true => exact absurd rfl (hu hup)
      | false => rw [hup] at top; simp [sd] at top
  · have q1 : 9223372036854775808 / ab d ≤ 9223372036854775808 / 2 := by
      have r0 := Int.emod_nonneg 9223372036854775808 (show ab d ≠ 0 by omega)
      have e := Int.mul_ediv_add_emod 9223372036854775808 (ab d)
      have q0 : 0 ≤ 9223372036854775808 / ab d := Int.ediv_nonneg (by decide) (by omega)
      have : 2 * (9223372036854775808 / ab d) ≤ ab d * (9223372036854775808 / ab d) := Int.mul_le_mul_of_nonneg_right h q0
      omega
    have q0 : 0 ≤ 9223372036854775808 / ab d := Int.ediv_nonneg (by decide) (by omega)
    generalize 9223372036854775808 / ab d = q at *
    generalize (true != ng d) = s at *
    generalize up (-9223372036854775808) d = u at *
    cases s <;> cases u <;> simp [sd] at top <;> omega
end Go.Proofs.Ytlidkeabadioeaa
namespace Go.Proofs.Ytlidkeabadioeaa
open Go Go.RowKit Go.Shelf

/-- A told tensor: its shape came in, its words are in new memory. -/
def SomeDt (w : World) (er : Int) (vs : Value) (ds : List Int) (e : Ending) (w' : World) : Prop := ∃ od cd, e = .returned (.tuple #[.agg #[if er = 0 then vs else .slice none 0 0, .slice od ds.length cd], .int .i64 er]) ∧ Hid (w'.ownsRow w.heap.size 2 1 (.slice od ds.length cd) ds.length (ints ds)) ∧ Below w.heap.size w w'
/-- What a sum over D is closed to, and its error. -/
def cva (f : Nat → Int) (D : Int) (k : Nat) : Int := tw (rd (f k) D)
def cer (f : Nat → Int) (D : Int) (k : Nat) : Int := te (rd (f k) D)
theorem rd_by1 (a : Int) : rd a 1 = a := by
  have := rd_whole a (d := 1) (by decide)
  rwa [Int.mul_one] at this
theorem rd_R {n d : Int} (h0 : -9223372036854775808 ≤ n) (h1 : n ≤ 9223372036854775807) (hd : d ≠ 0) : R (rd n d) := by
  have := rd_small (n := n) hd
  rw [R_iff]
  omega
theorem blkw {W : World} {b : Nat} {t : TypeId} {x y : Value} (h : Blk W b t #[x, y]) : W.cell? ⟨b, 0, none⟩ = some x ∧ W.cell? ⟨b, 1, none⟩ = some y := ⟨h.cell 0, h.cell 1⟩

end Go.Proofs.Ytlidkeabadioeaa
namespace Go.Proofs.Ytlidkeabadioeaa
open Go Go.RowKit Go.Shelf

/-- The error of sums over D, and the words. -/
def rde (sh ds ax : List Int) (D : Int) (M : Nat) : Int := fer (cer (sms sh ax ds ds.length) D) M
def rdv (sh ds ax : List Int) (D : Int) (M : Nat) : List Int := vls (cva (sms sh ax ds ds.length) D) M
theorem al_below0 {W : World} (o : Obj) : Below W.heap.size W (W.alloc o) := (Below.refl _ _).alloc (Nat.le_refl _) o
theorem cell_off2 {W : World} {B b i n m : Nat} {u v x : Value} (hb : ¬ b = B) (hx : W.cell? ⟨b, i, none⟩ = some x) : ((W.setCell ⟨B, n, none⟩ u).setCell ⟨B, m, none⟩ v).cell? ⟨b, i, none⟩ = some x := by
  rw [← hx]
  simp only [World.cell?]
  rw [Below.heap_setCell _ _ _ _ hb, Below.heap_setCell _ _ _ _ hb]
theorem rsum_end {w W : World} {E : Int} {M B base2 b6 : Nat} {VL L : List Int} {so o6 od : Option Addr} {sn sc m6 c6 cd : Nat} (_hE : E = 0 → VL.length = M) (hsv : (Value.slice so sn sc) = if E = 0 then .slice o6 m6 c6 else .slice none 0 0)
    (hm6 : m6 = L.length) (ho : W.ownsRow b6 3 1 (.slice o6 m6 c6) m6 (ints L)) (hb : w.heap.size ≤ b6 ∧ w.heap.size ≤ base2) (hd : W.ownsRow base2 2 1 (.slice od (unl E VL).length cd) (unl E VL).length (ints (unl E VL))) (hx : Blk W B 26 #[.slice none 0 0, .slice none 0 0]) (hB : w.heap.size ≤ B) (hw : Below w.heap.size w W) :
    SomeT w E (unl E L) (unl E VL) (.returned (.tuple #[.agg #[.slice so sn sc, .slice od (unl E VL).length cd], .int .i64 E])) ((W.setCell ⟨B, 0, none⟩ (.slice so sn sc)).setCell ⟨B, 1, none⟩ (.slice od (unl E VL).length cd)) := by
  have hw2 := (hw.setCell (p := ⟨B, 0, none⟩) hB (.slice so sn sc)).setCell (p := ⟨B, 1, none⟩) hB (.slice od (unl E VL).length cd)
  have hd2 := own_setx (i := 1) (z := .slice od (unl E VL).length cd) (own_setx (i := 0) (z := .slice so sn sc) (own_base hd hb.2) hx (by decide)) (hx.set_ 0 _) (by decide)
  subst hm6
  by_cases e0 : E = 0
  · rw [if_pos e0] at hsv
    simp only [Value.slice.injEq] at hsv
    obtain ⟨e1, e2, e3⟩ := hsv
    subst e1 e2 e3
    have h2 := own_setx (i := 1) (z := .slice od (unl E VL).length cd) (own_setx (i := 0) (z := .slice so L.length sc) (own_base ho hb.1) hx (by decide)) (hx.set_ 0 _) (by decide)
    refine ⟨so, sc, od, cd, ?_, ?_, hd2, hw2⟩
    · rw [show (unl E L) = L from if_pos e0]
    · rw [show (unl E L) = L from if_pos e0]; exact h2
  · rw [if_neg e0] at hsv
    simp only [Value.slice.injEq] at hsv
    obtain ⟨rfl, rfl, rfl⟩ := hsv
    refine ⟨none, 0, od, cd, ?_, ?_, hd2, hw2⟩
    · rw [show (unl E L) = [] from if_neg e0]; rfl
    · rw [show (unl E L) = [] from if_neg e0]; exact World.ownsRow_nil _ _ _ _




end Go.Proofs.Ytlidkeabadioeaa
namespace Go.Proofs.Ytlidkeabadioeaa
open Go Go.RowKit Go.Shelf
attribute [local go_sem] Oper.semAt_some

/-- Where the n-th place's index stands along an axis. -/
def stx (sh : List Int) (a : Nat) (n : Nat) : Int := (atl sh (n : Nat)).getD a 0
/-- The greatest words when n are counted, and where they stand. -/
def mxl (sh ds : List Int) (a n M : Nat) : List Int := (List.range M).map fun m : Nat => mxv (into sh [(a : Int)]) (stx sh a) (fun k => ds.getD k 0) n (m : Int)
def mpl (sh ds : List Int) (a n M : Nat) : List Int := (List.range M).map fun m : Nat => mxp (into sh [(a : Int)]) (stx sh a) (fun k => ds.getD k 0) n (m : Int)
theorem mxl_len (sh ds : List Int) (a n M : Nat) : (mxl sh ds a n M).length = M := by simp [mxl]
theorem mpl_len (sh ds : List Int) (a n M : Nat) : (mpl sh ds a n M).length = M := by simp [mpl]
theorem map_getD {f : Nat → Int} {M m : Nat} (h : m < M) : ((List.range M).map f).getD m 0 = f m := by
  simp [List.getD_eq_getElem?_getD, h]
theorem mxl_getD {sh ds : List Int} {a n M m : Nat} (h : m < M) : (mxl sh ds a n M).getD m 0 = mxv (into sh [(a : Int)]) (stx sh a) (fun k => ds.getD k 0) n (m : Int) := map_getD h
theorem mpl_getD {sh ds : List Int} {a n M m : Nat} (h : m < M) : (mpl sh ds a n M).getD m 0 = mxp (into sh [(a : Int)]) (stx sh a) (fun k => ds.getD k 0) n (m : Int) := map_getD h
theorem mxl_zero (sh ds : List Int) (a M : Nat) : mxl sh ds a 0 M = List.replicate M 0 ∧ mpl sh ds a 0 M = List.replicate M 0 := by
  refine ⟨ext_getD (by simp [mxl]) (fun k hk => ?_), ext_getD (by simp [mpl]) (fun k hk => ?_)⟩
  · rw [mxl_len] at hk
    rw [mxl_getD hk]
    simp [List.getD_eq_getElem?_getD, hk, mxv]
  · rw [mpl_len] at hk
    rw [mpl_getD hk]
    simp [List.getD_eq_getElem?_getD, hk, mxp]
/-- A greater word, or the first one. -/
theorem mxl_put {sh ds : List Int} {a n M k : Nat} (hk : into sh [(a : Int)] n = (k : Int)) (hM : k < M) (c : stx sh a n = 0 ∨ (mxl sh ds a n M).getD k 0 < ds.getD n 0) : mxl sh ds a (n + 1) M = (mxl sh ds a n M).set k (ds.getD n 0) ∧ mpl sh ds a (n + 1) M = (mpl sh ds a n M).set k (stx sh a n) := by
  rw [mxl_getD hM] at c
  refine ⟨ext_getD (by simp [mxl]) (fun j hj => ?_), ext_getD (by simp [mpl]) (fun j hj => ?_)⟩
  · rw [mxl_len] at hj
    rw [mxl_getD hj]
    show (if into sh [(a : Int)] n = (j : Int) ∧ (stx sh a n = 0 ∨ mxv _ _ _ n (j : Int) < ds.getD n 0) then ds.getD n 0 else mxv _ _ _ n (j : Int)) = _
    by_cases e : k = j
    · subst e
      rw [if_pos ⟨hk, c⟩, set_getD_self (by rw [mxl_len]; exact hM)]
    · rw [if_neg (fun h => by have := h.1; omega), set_getD_ne e, mxl_getD hj]
  · rw [mpl_len] at hj
    rw [mpl_getD hj]
    show (if into sh [(a : Int)] n = (j : Int) ∧ (stx sh a n = 0 ∨ mxv _ _ _ n (j : Int) < ds.getD n 0) then stx sh a n else mxp _ _ _ n (j : Int)) = _
    by_cases e : k = j
    · subst e
      rw [if_pos ⟨hk, c⟩, set_getD_self (by rw [mpl_len]; exact hM)]
    · rw [if_neg (fun h => by have := h.1; omega), set_getD_ne e, mpl_getD hj]
theorem mxl_keep {sh ds : List Int} {a n M k : Nat} (hk : into sh [(a : Int)] n = (k : Int)) (hM : k < M) (c : ¬ (stx sh a n = 0 ∨ (mxl sh ds a n M).getD k 0 < ds.getD n 0)) : mxl sh ds a (n + 1) M = mxl sh ds a n M ∧ mpl sh ds a (n + 1) M = mpl sh ds a n M := by
  rw [mxl_getD hM] at c
  have hc : ∀ j : Nat, ¬ (into sh [(a : Int)] n = (j : Int) ∧ (stx sh a n = 0 ∨ mxv (into sh [(a : Int)]) (stx sh a) (fun k => ds.getD k 0) n (j : Int) < ds.getD n 0)) := fun j h => by
    have : k = j := by have := h.1; omega
    subst this
    exact c h.2
  refine ⟨ext_getD (by simp [mxl]) (fun j hj => ?_), ext_getD (by simp [mpl]) (fun j hj => ?_)⟩
  · rw [mxl_len] at hj
    rw [mxl_getD hj, mxl_getD hj]
    exact if_neg (hc j)
  · rw [mpl_len] at hj
    rw [mpl_getD hj, mpl_getD hj]
    exact if_neg (hc j)
/-- A tensor and picks, told. -/
def SomeM (w : World) (sh L P : List Int) (e : Ending) (w' : World) : Prop := ∃ os cs gd gp, e = .returned (.tuple #[.agg #[.slice os sh.length cs, .slice (some ⟨gd, 0, none⟩) L.length L.length], .slice (some ⟨gp, 0, none⟩) P.length P.length, .int .i64 0]) ∧ Hid (w'.ownsRow w.heap.size 3 1 (.slice os sh.length cs) sh.length (ints sh)) ∧
  Hid (Blk w' gd 2 (ints L).toArray ∧ Blk w' gp 3 (ints P).toArray ∧ w.heap.size ≤ gd ∧ w.heap.size ≤ gp) ∧ Below w.heap.size w w'
/-- What the cut behind the two rows asks. -/
def MxC (w4 wx : World) (S2 S3 M m6 c6 : Nat) (o6 : Option Addr) : Prop := ∃ gd gp : Nat, Hid (Blk wx S2 26 #[.slice o6 m6 c6, .slice (some ⟨gd, 0, none⟩) M M]) ∧ Hid (Blk wx S3 23 #[.slice (some ⟨gp, 0, none⟩) M M]) ∧ Hid (Blk wx gd 2 (ints (List.replicate M 0)).toArray) ∧ Hid (Blk wx gp 3 (ints (List.replicate M 0)).toArray) ∧ Hid (w4.heap.size ≤ gd ∧ w4.heap.size ≤ gp) ∧ Hid (Below S2 w4 wx) ∧ Hid (w4.heap.size ≤ wx.heap.size ∧ ∀ k, k < w4.heap.size → ¬ k = S2 → ¬ k = S3 → wx.heap[k]? = w4.heap[k]?)
/-- How the memory stands on the way there. -/
def Mst (w4 W : World) (S2 S3 : Nat) (x y z : Value) : Prop := Blk W S2 26 #[x, y] ∧ Blk W S3 23 #[z] ∧ w4.heap.size ≤ W.heap.size ∧ (∀ k, k < w4.heap.size → ¬ k = S2 → ¬ k = S3 → W.heap[k]? = w4.heap[k]?) ∧ Below S2 w4 W ∧ S2 ≤ w4.heap.size ∧ S2 ≤ S3
theorem mst_alloc {w4 W : World} {S2 S3 : Nat} {x y z : Value} (h : Mst w4 W S2 S3 x y z) (o : Obj) : Mst w4 (W.alloc o) S2 S3 x y z :=
  ⟨h.1.alloc o, h.2.1.alloc o, by rw [World.size_alloc]; exact Nat.le_succ_of_le h.2.2.1, fun k hk h2 h3 => (Below.heap_alloc _ _ k (Nat.lt_of_lt_of_le hk h.2.2.1)).trans (h.2.2.2.1 k hk h2 h3), h.2.2.2.2.1.alloc (Nat.le_trans h.2.2.2.2.2.1 h.2.2.1) o, h.2.2.2.2.2⟩
theorem mst_s2 {w4 W : World} {S2 S3 : Nat} {x y z : Value} (h : Mst w4 W S2 S3 x y z) (hn : ¬ S2 = S3) (u v : Value) : Mst w4 ((W.setCell ⟨S2, 0, none⟩ u).setCell ⟨S2, 1, none⟩ v) S2 S3 u v z :=
  ⟨(h.1.set_ 0 u).set_ 1 v, (h.2.1.far (p := ⟨S2, 0, none⟩) (Ne.symm hn) u).far (p := ⟨S2, 1, none⟩) (Ne.symm hn) v, by rw [World.size_setCell, World.size_setCell]; exact h.2.2.1, fun k hk h2 h3 => (Below.heap_setCell _ _ _ k h2).trans ((Below.heap_setCell _ _ _ k h2).trans (h.2.2.2.1 k hk h2 h3)), (h.2.2.2.2.1.setCell (p := ⟨S2, 0, none⟩) (Nat.le_refl _) u).setCell (p := ⟨S2, 1, none⟩) (Nat.le_refl _) v, h.2.2.2.2.2⟩
theorem mst_s3 {w4 W : World} {S2 S3 : Nat} {x y z : Value} (h : Mst w4 W S2 S3 x y z) (hn : ¬ S2 = S3) (u : Value) : Mst w4 (W.setCell ⟨S3, 0, none⟩ u) S2 S3 x y u :=
  ⟨h.1.far (p := ⟨S3, 0, none⟩) hn u, h.2.1.set_ 0 u, by rw [World.size_setCell]; exact h.2.2.1, fun k hk h2 h3 => (Below.heap_setCell _ _ _ k h3).trans (h.2.2.2.1 k hk h2 h3), h.2.2.2.2.1.setCell (p := ⟨S3, 0, none⟩) h.2.2.2.2.2.2 u, h.2.2.2.2.2⟩
theorem Ld.keepx {w W : World} {v : Value} {ls : List Int} {S2 S3 : Nat} (h : Ld w v ls) (h2 : Blk w S2 26 #[.slice none 0 0, .slice none 0 0]) (h3 : Blk w S3 23 #[.slice none 0 0]) (hs : w.heap.size ≤ W.heap.size) (hk : ∀ k, k < w.heap.size → ¬ k = S2 → ¬ k = S3 → W.heap[k]? = w.heap[k]?) : Ld W v ls := by
  obtain ⟨o, c, rfl, hc, hx⟩ := h
  refine ⟨o, c, rfl, hc, fun i hi => ?_⟩
  obtain ⟨b, f, e1, e2, e3⟩ := hx i hi
  have n2 : ¬ b = S2 := by
    rintro rfl
    rcases Nat.lt_or_ge (f + i) 2 with h | h
    · rcases (show f + i = 0 ∨ f + i = 1 by omega) with e | e
      · rw [e, h2.cell 0] at e3; simp at e3
      · rw [e, h2.cell 1] at e3; simp at e3
    · rw [h2.cell, Array.getElem?_eq_none (by simpa using h)] at e3; cases e3
  have n3 : ¬ b = S3 := by
    rintro rfl
    rcases Nat.eq_zero_or_pos (f + i) with e | e
    · rw [e, h3.cell 0] at e3; simp at e3
    · rw [h3.cell, Array.getElem?_eq_none (by simp; omega)] at e3; cases e3
  refine ⟨b, f, e1, by omega, ?_⟩
  rw [← e3]
  simp only [World.cell?]
  rw [hk b e2 n2 n3]
/-- What a round keeps. -/
def MxK (S2 gd gp : Nat) (w7 W : World) : Prop := Below S2 w7 W ∧ ∀ k, k < w7.heap.size → ¬ k = gd → ¬ k = gp → W.heap[k]? = w7.heap[k]?
theorem mxk_own {S2 gd gp : Nat} {w7 X Y : World} {row : Option Nat} (h : MxK S2 gd gp w7 X) (hs : S2 ≤ w7.heap.size) (hg : X.grownBy Y row) (hr : ∀ r, row = some r → w7.heap.size ≤ r) : MxK S2 gd gp w7 Y :=
  ⟨h.1.grown hg (Nat.le_trans hs h.1.size) (fun k e => Nat.le_trans hs (hr k e)), fun k hk h1 h2 => (hg.block k (Nat.lt_of_lt_of_le hk h.1.size) (fun e => by have := hr k e.symm; omega)).trans (h.2 k hk h1 h2)⟩
theorem mxk_blk {S2 gd gp b : Nat} {w7 X : World} {t : TypeId} {cs : Array Value} (h : MxK S2 gd gp w7 X) (hb : Blk w7 b t cs) (hl : b < w7.heap.size) (h1 : ¬ b = gd) (h2 : ¬ b = gp) : Blk X b t cs := (h.2 b hl h1 h2).trans hb
/-- A drawn region within a round that leaves one frame and one world. -/
theorem region_inF {P : Program} {n l id : Nat} {ops : Array Oper} {S : World → Prop} {a F : Act} {W X : World} {K : Exit → Act → World → Prop} (hd : (ops.toList.all fun o => nodf o.op) = true) (hm : P.follows .mixedOrders = true) (hS : S W.drew)
    (h : S W.drew → wpAnyH P .any ops (fun e a2 W2 => e = .normal ∧ a2 = F ∧ W2 = X) S ops.size (Array.replicate ops.size false) a W.drew) (hk : K .normal F X) : (Code.region id ops true).wpIn (Fence.wide.inRound l) n P K a W := by
  refine wpIn_mono (region_inA (R := fun a2 W2 => a2 = F ∧ W2 = X) hd hm hS h) ?_
  rintro e a3 W3 ⟨rfl, rfl, rfl⟩
  exact hk
theorem own_keepx {w W : World} {base n : Nat} {v : Value} {xs : List Value} {S2 S3 : Nat} (h : w.ownsRow base 3 1 v n xs) (h2 : Blk w S2 26 #[.slice none 0 0, .slice none 0 0]) (h3 : Blk w S3 23 #[.slice none 0 0]) (_hs : w.heap.size ≤ W.heap.size) (hk : ∀ k, k < w.heap.size → ¬ k = S2 → ¬ k = S3 → W.heap[k]? = w.heap[k]?) : W.ownsRow base 3 1 v n xs := by
  refine ⟨h.1, ?_⟩
  rcases h.2 with e | ⟨g, cap, cur, rfl, hb, hh, rest⟩
  · exact .inl e
  · have n2 : ¬ g = S2 := fun e => tens_not_row h h2 (by decide) (by rw [← e]; rfl)
    have n3 : ¬ g = S3 := fun e => tens_not_row h h3 (by decide) (by rw [← e]; rfl)
    exact .inr ⟨g, cap, cur, rfl, hb, (hk g (Array.getElem?_eq_some_iff.1 hh).1 n2 n3).trans hh, rest⟩
/-- How the memory stands at Max's end. -/
def Mfin (w W : World) (S2 S3 gd gp m6 c6 D : Nat) (o6 : Option Addr) (L Ld Lp : List Int) : Prop := Blk W gd 2 (ints Ld).toArray ∧ Blk W gp 3 (ints Lp).toArray ∧ (W.ownsRow (w.heap.size + 5) 3 1 (.slice o6 m6 c6) m6 (ints L) ∧ m6 = L.length) ∧ (Below w.heap.size w W ∧ w.heap.size ≤ S2 ∧ w.heap.size ≤ S3) ∧ W.heap[D]? = some (.deferred (some []))
theorem mfin_at {w W : World} {S2 S3 gd gp m6 c6 D i S : Nat} {o6 : Option Addr} {L Ld Lp : List Int} {t : TypeId} {cs : Array Value} (h : Mfin w W S2 S3 gd gp m6 c6 D o6 L Ld Lp) (hS : w.heap.size ≤ S) (hb : Blk W S t cs) (ht : ¬ 3 = t) (n1 : ¬ gd = S) (n2 : ¬ gp = S) (u : Value) : Mfin w (W.setCell ⟨S, i, none⟩ u) S2 S3 gd gp m6 c6 D o6 L Ld Lp :=
  ⟨h.1.far (p := ⟨S, i, none⟩) n1 u, h.2.1.far (p := ⟨S, i, none⟩) n2 u, ⟨own_setx h.2.2.1.1 hb ht, h.2.2.1.2⟩, ⟨h.2.2.2.1.1.setCell (p := ⟨S, i, none⟩) hS u, h.2.2.2.1.2⟩, (Below.heap_setCell _ _ _ D (fun e => by subst e; have h2 := h.2.2.2.2.symm.trans hb; cases h2)).trans h.2.2.2.2⟩
theorem mfin_end {w W : World} {S2 S3 gd gp m6 c6 D M : Nat} {o6 : Option Addr} {L Ld Lp : List Int} (h : Mfin w W S2 S3 gd gp m6 c6 D o6 L Ld Lp) (hd : Ld.length = M) (hp : Lp.length = M) (hD : w.heap.size ≤ D) (n1 : w.heap.size ≤ gd) (n2 : w.heap.size ≤ gp) :
    SomeM w L Ld Lp (.returned (.tuple #[.agg #[.slice o6 m6 c6, .slice (some ⟨gd, 0, none⟩) M M], .slice (some ⟨gp, 0, none⟩) M M, .int .i64 0])) (W.putObj D (.deferred none)) := by
  obtain ⟨h1, h2, ⟨h3, h4⟩, ⟨h5, _, _⟩, h6⟩ := h
  subst h4
  have hc : ∀ r, some D = some r → ∃ o : Obj, W.heap[r]? = some o ∧ o.isCells = false := fun r e => by cases e; exact ⟨_, h6, rfl⟩
  have e1 := blk_own (β := Unit) _ _ (fun _ => _) () W _ _ h1 (grownBy_putObj' W D (.deferred none)) hc
  have e2 := blk_own (β := Unit) _ _ (fun _ => _) () W _ _ h2 (grownBy_putObj' W D (.deferred none)) hc
  have e3 := own_kept h3 (grownBy_putObj' W D (.deferred none)) hc
  refine ⟨o6, c6, gd, gp, by rw [hd, hp], Lib.hid (own_base e3 (Nat.le_add_right _ 5)), Lib.hid ⟨e1, e2, n1, n2⟩, h5.trans (belowK_b (w := w) (Nat.le_refl _) _ D _ (.deferred none) hD h6 rfl rfl)⟩
theorem axb_at {n : Nat} {x : Int} (h : axb (n : Int) [x] (-1) = true) : 0 ≤ x ∧ x < n := by
  unfold axb at h
  simp only [Bool.and_eq_true, decide_eq_true_eq] at h
  omega


end Go.Proofs.Ytlidkeabadioeaa
namespace Go.Proofs.Ytlidkeabadioeaa

theorem fer_zero {er : Nat → Int} : ∀ {n : Nat}, fer er n = 0 → ∀ k, k < n → er k = 0
  | 0, _, k, hk => absurd hk (Nat.not_lt_zero _)
  | n + 1, h, k, hk => by
    unfold fer at h
    by_cases e : fer er n = 0
    · rw [if_pos e] at h
      by_cases ek : k = n
      · subst ek; exact h
      · exact fer_zero e k (by omega)
    · rw [if_neg e] at h; exact absurd h e
theorem fer_eq {a b : Nat → Int} : ∀ {n : Nat}, (∀ k, k < n → a k = b k) → fer a n = fer b n
  | 0, _ => rfl
  | n + 1, h => by
    unfold fer
    rw [fer_eq (n := n) (fun k hk => h k (by omega)), h n (by omega)]
theorem vls_eq {a b : Nat → Int} {n : Nat} (h : ∀ k, k < n → a k = b k) : vls a n = vls b n := by
  unfold vls
  exact List.map_congr_left (fun k hk => h k (List.mem_range.1 hk))
theorem te_wd {v : Int} (h : te v = 0) : wd v = true := by
  cases g : wd v with
  | true => rfl
  | false => rw [te_out g] at h; exact absurd h (by decide)
theorem vls_getD {va : Nat → Int} {n k : Nat} (h : k < n) : (vls va n).getD k 0 = va k := map_getD h
theorem cva_one {f : Nat → Int} {k : Nat} (h : cer f 1 k = 0) : cva f 1 k = f k ∧ wd (f k) = true := by
  unfold cer at h
  rw [rd_by1] at h
  have hw := te_wd h
  exact ⟨by unfold cva; rw [rd_by1, tw_in hw], hw⟩
theorem twice_num {sh ds : List Int} {lo hi M1 M2 : Nat} (ht : tnb sh ds = true) (hl : lo < hi) (_hh : hi < sh.length) (h1 : (M1 : Int) = prod (lf sh [(hi : Int)] 0))
    (f : rde sh ds [(hi : Int)] 1 M1 = 0) (g : rde sh ds [(lo : Int), (hi : Int)] 1 M2 = 0) :
    tnb (lf sh [(hi : Int)] 0) (rdv sh ds [(hi : Int)] 1 M1) = true ∧ rde (lf sh [(hi : Int)] 0) (rdv sh ds [(hi : Int)] 1 M1) [(lo : Int)] 1 M2 = 0 ∧
    rdv (lf sh [(hi : Int)] 0) (rdv sh ds [(hi : Int)] 1 M1) [(lo : Int)] 1 M2 = rdv sh ds [(lo : Int), (hi : Int)] 1 M2 ∧ lf (lf sh [(hi : Int)] 0) [(lo : Int)] 0 = lf sh [(lo : Int), (hi : Int)] 0 := by
  obtain ⟨hm, hdl, _⟩ := tnb_parts ht
  have hp := may_pos hm
  have f1 := fer_zero f
  have hlen : (rdv sh ds [(hi : Int)] 1 M1).length = M1 := vls_len _ _
  have hget : ∀ k, k < M1 → (rdv sh ds [(hi : Int)] 1 M1).getD k 0 = sms sh [(hi : Int)] ds ds.length k := fun k hk => by
    show (vls _ M1).getD k 0 = _
    rw [vls_getD hk, (cva_one (f1 k hk)).1]
  have hsm : ∀ m, sms (lf sh [(hi : Int)] 0) [(lo : Int)] (rdv sh ds [(hi : Int)] 1 M1) (rdv sh ds [(hi : Int)] 1 M1).length m = sms sh [(lo : Int), (hi : Int)] ds ds.length m := fun m => by
    rw [hlen]
    unfold sms
    have e1 := smN_twice (into sh [(hi : Int)]) (into (lf sh [(hi : Int)] 0) [(lo : Int)]) (fun k => ds.getD k 0) (m : Int) M1 ds.length (fun n hn => by
      have := (into_bd (ax := [(hi : Int)]) (n := n) hp (by omega)).2
      omega)
    rw [← smN_same (key := fun n => into (lf sh [(hi : Int)] 0) [(lo : Int)] (into sh [(hi : Int)] n).toNat) (d := fun k => ds.getD k 0) (fun n hn => ⟨into_two hp (by omega) hl, rfl⟩), ← e1]
    exact smN_same (fun k hk => ⟨rfl, hget k hk⟩)
  refine ⟨?_, ?_, ?_, lf_twice sh hl⟩
  · unfold tnb
    rw [lf_may _ hm, hlen, decide_eq_true h1]
    have : wds (rdv sh ds [(hi : Int)] 1 M1) = true := wds_yes (fun k hk => by
      rw [hlen] at hk
      rw [hget k hk]
      exact wd_bd (cva_one (f1 k hk)).2)
    rw [this]; rfl
  · unfold rde at g ⊢
    rw [← g]
    exact fer_eq (fun k _ => by unfold cer; rw [hsm])
  · unfold rdv
    exact vls_eq (fun k _ => by unfold cva; rw [← hsm]; rfl)
theorem smN_id (d : Nat → Int) (m : Nat) : ∀ n : Nat, smN (fun k => (k : Int)) d (m : Int) n = if m < n then d m else 0
  | 0 => rfl
  | n + 1 => by
    show smN _ d _ n + (if ((n : Int)) = (m : Int) then d n else 0) = _
    rw [smN_id d m n]
    by_cases e : n = m
    · subst e; rw [if_neg (by omega), if_pos rfl, if_pos (by omega)]; omega
    · rw [if_neg (show ¬ ((n : Int) = (m : Int)) by omega)]
      by_cases g : m < n
      · rw [if_pos g, if_pos (by omega)]; omega
      · rw [if_neg g, if_neg (by omega)]; omega
theorem none_num {sh ds : List Int} (ht : tnb sh ds = true) : rde sh ds [] 1 ds.length = 0 ∧ rdv sh ds [] 1 ds.length = ds ∧ lf sh [] 0 = sh ∧ (ds.length : Int) = prod (lf sh [] 0) := by
  obtain ⟨hm, hdl, hw⟩ := tnb_parts ht
  have hp := may_pos hm
  have hs : ∀ m, m < ds.length → sms sh [] ds ds.length m = ds.getD m 0 := fun m hk => by
    unfold sms
    rw [smN_same (key' := fun k => (k : Int)) (d' := fun k => ds.getD k 0) (fun k hk => ⟨into_none hp (by omega), rfl⟩), smN_id, if_pos hk]
  have hww : ∀ k, k < ds.length → wd (ds.getD k 0) = true := fun k hk => wds_wd hw hk
  refine ⟨fer_no (fun k hk => ?_), ?_, lf_none sh, by rw [lf_none]; exact hdl⟩
  · unfold cer; rw [rd_by1, hs k hk, te_in (hww k hk)]
  · refine ext_getD (vls_len _ _) (fun k hk => ?_)
    have hk2 : k < ds.length := by rwa [show (rdv sh ds [] 1 ds.length).length = ds.length from vls_len _ _] at hk
    show (vls _ _).getD k 0 = _
    rw [vls_getD hk2]
    unfold cva
    rw [rd_by1, hs k hk2, tw_in (hww k hk2)]
/-- A word, the greatest one where it goes, and where that stands. -/
theorem top_num {sh ds : List Int} {a M k : Nat} (ht : tnb sh ds = true) (ha : a < sh.length) (hM : (M : Int) = prod (lf sh [(a : Int)] 0)) (hk : k < ds.length) :
    ∃ q : Nat, into sh [(a : Int)] k = (q : Int) ∧ q < M ∧ ¬ (mxl sh ds a ds.length M).getD q 0 < ds.getD k 0 ∧ (stx sh a k < (mpl sh ds a ds.length M).getD q 0 → ds.getD k 0 < (mxl sh ds a ds.length M).getD q 0) ∧ (stx sh a k = (mpl sh ds a ds.length M).getD q 0 → ds.getD k 0 = (mxl sh ds a ds.length M).getD q 0) := by
  obtain ⟨hm, hdl, _⟩ := tnb_parts ht
  have hp := may_pos hm
  have hb := (into_bd (ax := [(a : Int)]) (n := k) hp (by omega)).2
  refine ⟨(into sh [(a : Int)] k).toNat, by omega, by omega, ?_⟩
  have hs := ((mx_spec (d := fun k => ds.getD k 0) (ord_axis hp ha hdl) ds.length (Nat.le_refl _)).1 k hk)
  have hq : ((into sh [(a : Int)] k).toNat : Int) = into sh [(a : Int)] k := by omega
  rw [mxl_getD (by omega), mpl_getD (by omega), hq]
  exact ⟨by have := hs.1; exact Int.not_lt.2 this, hs.2.1, hs.2.2⟩
end Go.Proofs.Ytlidkeabadioeaa
namespace Go.Proofs.Ytlidkeabadioeaa

theorem prod_app : ∀ (x y : List Int), prod (x ++ y) = prod x * prod y
  | [], y => by show prod y = 1 * prod y; rw [Int.one_mul]
  | d :: x, y => by show d * prod (x ++ y) = d * prod x * prod y; rw [prod_app x y, Int.mul_assoc]
theorem prod_last (x : List Int) (d : Int) : prod (x ++ [d]) = prod x * d := by
  rw [prod_app]; show prod x * (d * 1) = _; rw [Int.mul_one]
theorem take_last {a : List Int} {n : Nat} (h : a.length = n + 1) : a = a.take n ++ [a.getD n 0] := by
  have e : a.take (n + 1) = a := by rw [← h, List.take_length]
  have hn : n < a.length := by omega
  conv => lhs; rw [← e]
  rw [List.take_succ_eq_append_getElem hn]
  simp [List.getD, List.getElem?_eq_getElem hn]
theorem take_getD {a : List Int} {k n : Nat} (h : k < n) : (a.take n).getD k 0 = a.getD k 0 := by
  simp only [List.getD, List.getElem?_take_of_lt h]
/-- May two shapes be multiplied, but for the answer's shape? -/
def mfit (a b : List Int) : Bool := decide (2 ≤ a.length) && (decide (b.length = 2) || decide (b.length = a.length)) && decide (a.take (b.length - 2) = b.take (b.length - 2)) && decide (a.getD (a.length - 1) 0 = b.getD (b.length - 2) 0)
/-- The answer's shape. -/
def msh (a b : List Int) : List Int := a.set (a.length - 1) (b.getD (b.length - 1) 0)
/-- How many rows one matrix meets. -/
def mrw (a b : List Int) : Int := if b.length = 2 then prod (a.take (a.length - 1)) else a.getD (a.length - 2) 0
theorem mfit_len {a b : List Int} (h : mfit a b = true) : 2 ≤ a.length ∧ 2 ≤ b.length ∧ (b.length = 2 ∨ b.length = a.length) ∧ a.take (b.length - 2) = b.take (b.length - 2) ∧ a.getD (a.length - 1) 0 = b.getD (b.length - 2) 0 := by
  simp only [mfit, Bool.and_eq_true, Bool.or_eq_true, decide_eq_true_eq] at h
  obtain ⟨⟨⟨h1, h2⟩, h3⟩, h4⟩ := h
  exact ⟨h1, by omega, h2, h3, h4⟩
theorem msh_len (a b : List Int) : (msh a b).length = a.length := by simp [msh]
theorem msh_is {a b : List Int} (h : 2 ≤ a.length) : msh a b = a.take (a.length - 1) ++ [b.getD (b.length - 1) 0] := by
  obtain ⟨n, hn⟩ : ∃ n, a.length = n + 1 := ⟨a.length - 1, by omega⟩
  have e := take_last hn
  unfold msh
  rw [hn, Nat.add_sub_cancel]
  conv => lhs; rw [e]
  have hl : (a.take n).length = n := by simp; omega
  rw [List.set_append_right _ _ (by omega), hl, Nat.sub_self]; rfl
/-- What the shapes tell: D the depth, C the columns, Rb a block's rows, NB how many blocks. -/
theorem mul_parts {a b : List Int} (h : mfit a b = true) (ma : may a = true) (mb : may b = true) (ms : may (msh a b) = true) :
    ∃ D C Rb NB : Nat, a.getD (a.length - 1) 0 = (D : Int) ∧ b.getD (b.length - 1) 0 = (C : Int) ∧ b.getD (b.length - 2) 0 = (D : Int) ∧ mrw a b = (Rb : Int) ∧ prod a = ((NB * Rb * D : Nat) : Int) ∧ prod b = ((NB * (D * C) : Nat) : Int) ∧ prod (msh a b) = ((NB * Rb * C : Nat) : Int) ∧
      (1 ≤ D ∧ D ≤ 4096) ∧ (1 ≤ C ∧ C ≤ 4096) ∧ 1 ≤ Rb ∧ 1 ≤ NB ∧ NB * Rb * D ≤ 65536 ∧ NB * (D * C) ≤ 65536 ∧ NB * Rb * C ≤ 65536 := by
  obtain ⟨h1, h2, h3, h4, h5⟩ := mfit_len h
  obtain ⟨d1, d2⟩ := may_dim ma (i := a.length - 1) (by omega)
  obtain ⟨c1, c2⟩ := may_dim mb (i := b.length - 1) (by omega)
  obtain ⟨r1, r2⟩ := may_dim ma (i := a.length - 2) (by omega)
  obtain ⟨D, hD⟩ := Int.eq_ofNat_of_zero_le (show 0 ≤ a.getD (a.length - 1) 0 by omega)
  obtain ⟨C, hC⟩ := Int.eq_ofNat_of_zero_le (show 0 ≤ b.getD (b.length - 1) 0 by omega)
  have pa := may_prod ma
  have pb := may_prod mb
  have ps := may_prod ms
  have ea : prod a = prod (a.take (a.length - 1)) * D := by
    conv => lhs; rw [take_last (a := a) (n := a.length - 1) (by omega)]
    rw [prod_last, hD]
  have es : prod (msh a b) = prod (a.take (a.length - 1)) * C := by rw [msh_is h1, prod_last, hC]
  have eb : prod b = prod (b.take (b.length - 2)) * (D * C) := by
    have e1 := take_last (a := b) (n := b.length - 1) (by omega)
    have e2 := take_last (a := b.take (b.length - 1)) (n := b.length - 2) (by simp; omega)
    have e3 : (b.take (b.length - 1)).getD (b.length - 2) 0 = b.getD (b.length - 2) 0 := take_getD (by omega)
    have e4 : (b.take (b.length - 1)).take (b.length - 2) = b.take (b.length - 2) := by rw [List.take_take]; congr 1; omega
    rw [e3, e4] at e2
    conv => lhs; rw [e1, e2]
    rw [prod_last, prod_last, hC, ← h5, hD, Int.mul_assoc]
  have ha1 : 1 ≤ prod (a.take (a.length - 1)) := prod_pos (fun d hd => (may_pos ma) d (List.mem_of_mem_take hd))
  rcases Decidable.em (b.length = 2) with hb | hb
  · obtain ⟨Rb, hR⟩ := Int.eq_ofNat_of_zero_le (show 0 ≤ prod (a.take (a.length - 1)) by omega)
    have eb2 : prod (b.take (b.length - 2)) = 1 := by rw [hb]; rfl
    rw [hR] at ea es ha1
    rw [eb2, Int.one_mul] at eb
    refine ⟨D, C, Rb, 1, hD, hC, by rw [← h5]; exact hD, by unfold mrw; rw [if_pos hb]; exact hR, by rw [ea, Nat.one_mul]; push_cast; rfl, by rw [eb, Nat.one_mul]; push_cast; rfl, by rw [es, Nat.one_mul]; push_cast; rfl, by omega, by omega, by omega, by omega, ?_, ?_, ?_⟩
    · have : ((1 * Rb * D : Nat) : Int) = prod a := by rw [ea, Nat.one_mul]; push_cast; rfl
      omega
    · have : ((1 * (D * C) : Nat) : Int) = prod b := by rw [eb, Nat.one_mul]; push_cast; rfl
      omega
    · have : ((1 * Rb * C : Nat) : Int) = prod (msh a b) := by rw [es, Nat.one_mul]; push_cast; rfl
      omega
  · have hl : b.length = a.length := by omega
    obtain ⟨Rb, hR⟩ := Int.eq_ofNat_of_zero_le (show 0 ≤ a.getD (a.length - 2) 0 by omega)
    have hb1 : 1 ≤ prod (b.take (b.length - 2)) := prod_pos (fun d hd => (may_pos mb) d (List.mem_of_mem_take hd))
    obtain ⟨NB, hN⟩ := Int.eq_ofNat_of_zero_le (show 0 ≤ prod (b.take (b.length - 2)) by omega)
    have e5 : prod (a.take (a.length - 1)) = NB * Rb := by
      have e2 := take_last (a := a.take (a.length - 1)) (n := a.length - 2) (by simp; omega)
      have e3 : (a.take (a.length - 1)).getD (a.length - 2) 0 = a.getD (a.length - 2) 0 := take_getD (by omega)
      have e4 : (a.take (a.length - 1)).take (a.length - 2) = a.take (a.length - 2) := by rw [List.take_take]; congr 1; omega
      rw [hl] at h4 hN
      rw [e2, prod_last, e3, e4, hR, ← hN, h4]
    rw [e5] at ea es
    rw [hN] at eb hb1
    have g1 : prod a = ((NB * Rb * D : Nat) : Int) := by rw [ea]; push_cast; rfl
    have g2 : prod b = ((NB * (D * C) : Nat) : Int) := by rw [eb]; push_cast; rfl
    have g3 : prod (msh a b) = ((NB * Rb * C : Nat) : Int) := by rw [es]; push_cast; rfl
    exact ⟨D, C, Rb, NB, hD, hC, by rw [← h5]; exact hD, by unfold mrw; rw [if_neg hb]; exact hR, g1, g2, g3, by omega, by omega, by omega, by omega, by omega, by omega, by omega⟩
/-- One word's exact sum: row r of all rows, column j of matrix x. -/
def mS (da db : List Int) (D C x r j : Nat) : Int := smA (fun k => da.getD (r * D + k) 0 * db.getD (x * (D * C) + (k * C + j)) 0) D
/-- That of the n-th word. -/
def mN (da db : List Int) (D C Rb n : Nat) : Int := mS da db D C (n / C / Rb) (n / C) (n % C)
def mva (da db : List Int) (D C Rb f n : Nat) : Int := tw (rd (mN da db D C Rb n) (2 ^ f))
def mvr (da db : List Int) (D C Rb f n : Nat) : Int := te (rd (mN da db D C Rb n) (2 ^ f))
theorem smA_bd {d : Nat → Int} {B : Int} (h0 : 0 ≤ B) : ∀ {n : Nat}, (∀ k, k < n → -B ≤ d k ∧ d k ≤ B) → -(B * n) ≤ smA d n ∧ smA d n ≤ B * n
  | 0, _ => by show -(B * (0 : Nat)) ≤ (0 : Int) ∧ (0 : Int) ≤ B * (0 : Nat); simp
  | n + 1, h => by
    have ih := smA_bd h0 (n := n) (fun k hk => h k (by omega))
    have hn := h n (by omega)
    have e : B * ((n + 1 : Nat) : Int) = B * n + B := by push_cast; rw [Int.mul_add, Int.mul_one]
    show -(B * ((n + 1 : Nat) : Int)) ≤ smA d n + d n ∧ smA d n + d n ≤ B * ((n + 1 : Nat) : Int)
    rw [e]; omega
/-- A product of two words. -/
theorem word_mul {x y : Int} (hx : wd x = true) (hy : wd y = true) : -19807040628566084398385987584 ≤ x * y ∧ x * y ≤ 19807040628566084398385987584 := by
  have h1 := wd_bd hx
  have h2 := wd_bd hy
  have h3 : (x * y).natAbs ≤ 140737488355328 * 140737488355328 := by
    rw [Int.natAbs_mul]; exact Nat.mul_le_mul (by omega) (by omega)
  omega
theorem sum_R {d : Nat → Int} {n : Nat} (hn : n ≤ 4096) (h : ∀ k, k < n → -19807040628566084398385987584 ≤ d k ∧ d k ≤ 19807040628566084398385987584) : R (smA d n) := by
  have := smA_bd (B := 19807040628566084398385987584) (by decide) h
  rw [R_iff]
  omega
end Go.Proofs.Ytlidkeabadioeaa
