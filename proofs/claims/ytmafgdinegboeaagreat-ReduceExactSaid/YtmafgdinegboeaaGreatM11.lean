/-
  Shifts and products of whole numbers.
  Quotients by a divisor above 0: the rounded one is the lower one, or 1 more; both are wide numbers.
  Rounded quotients of words: half of the divisor away at most.
  Rounded quotients of words: they are words, but for one.
  Shifted and rounded back: whole numbers.
  Words: what the calls of package fx do, said of whole numbers.
  Rounded quotients: of multiples, of negatives.
  The nearest whole number to a quotient, as the references reckon it.
  The document's own answer for package wide: the nearest quotient.
  The document's own answer for package wide: a wide number as a whole one.
  Rounded quotients of wide numbers.
  Quotients of wide numbers, rounded down.
-/
import Derived.Test.YtmafgdinegboeaaGreatM01
import Derived.Test.YtmafgdinegboeaaGreatM03
import Derived.Test.YtmafgdinegboeaaGreatM04
import Derived.Test.YtmafgdinegboeaaGreatM07
import Derived.Test.YtmafgdinegboeaaGreatM08
import Derived.Test.YtmafgdinegboeaaGreatM09
import Derived.Test.YtmafgdinegboeaaGreatM10
namespace Go.Proofs.YtmafgdinegboeaaGreat
open Go.RowKit

theorem sd_ab (a : Int) (p : Int) : sd (ng a) (ab a * p) = a * p := by
  unfold sd ng ab
  by_cases h : a < 0
  · have : ((a.natAbs : Nat) : Int) = -a := by omega
    simp only [h, decide_true, if_true, this]
    rw [Int.neg_mul, Int.neg_neg]
  · have : ((a.natAbs : Nat) : Int) = a := by omega
    simp only [h, decide_false, this]; rfl
theorem left_far {a : Int} (ha : R a) (n : Nat) (h1 : n ≤ 126) (h : 128 < bl (ab a) + n) : ¬ R (a * 2 ^ n) := by
  have hU := U_ab ha
  have h0 : ab a ≠ 0 := by intro e; rw [e, bl_zero] at h; omega
  obtain ⟨b1, b2, b3⟩ := bl_bd hU h0
  have m := pow_mono (show 128 ≤ (bl (ab a) - 1) + n by omega)
  rw [Int.pow_add, pow128] at m
  have := Int.mul_le_mul_of_nonneg_right b2 (show (0 : Int) ≤ 2 ^ n from Int.le_of_lt (Int.pow_pos (by decide)))
  have e := sd_ab a (2 ^ n)
  intro hr
  rw [← e, R_iff] at hr
  unfold sd at hr
  split at hr <;> omega
theorem left_near {a : Int} (ha : R a) (n : Nat) (h : bl (ab a) + n ≤ 128) : ws (ab a * 2 ^ n) = ab a * 2 ^ n := by
  have hU := U_ab ha
  have hb := ab_bd ha
  by_cases h0 : ab a = 0
  · rw [h0, Int.zero_mul]; rfl
  obtain ⟨b1, b2, b3⟩ := bl_bd hU h0
  have m := pow_mono (show bl (ab a) + n ≤ 128 from h)
  rw [Int.pow_add, pow128] at m
  have hp : (0 : Int) < 2 ^ n := Int.pow_pos (by decide)
  have := Int.mul_le_mul_of_nonneg_right (show ab a + 1 ≤ 2 ^ bl (ab a) by omega) (Int.le_of_lt hp)
  rw [Int.add_mul] at this
  have p0 : 0 ≤ ab a * 2 ^ n := Int.mul_nonneg hb.1 (Int.le_of_lt hp)
  exact ws_in (by rw [U_iff]; omega)

end Go.Proofs.YtmafgdinegboeaaGreat
namespace Go.Proofs.YtmafgdinegboeaaGreat
open Go.RowKit

theorem up_rest {n d : Int} (hd : 0 < d) (h : up n d = true) : ab n % ab d ≠ 0 := by
  intro e
  have dp : 0 < ab d := by unfold ab; omega
  unfold up at h
  rw [e, Int.mul_zero, sg_lt dp] at h
  simp at h
theorem quo_small {n d : Int} (hd : 0 < d) : 0 ≤ ab n / ab d ∧ ab n / ab d ≤ ab n ∧ (ab n % ab d ≠ 0 → ab n / ab d + 1 ≤ ab n) := by
  have dp : 0 < ab d := by unfold ab; omega
  have n0 : 0 ≤ ab n := by unfold ab; omega
  have q0 : 0 ≤ ab n / ab d := Int.ediv_nonneg n0 (by omega)
  refine ⟨q0, Int.ediv_le_self _ n0, fun hr => ?_⟩
  have r0 := Int.emod_nonneg (ab n) (show ab d ≠ 0 by omega)
  have e := Int.mul_ediv_add_emod (ab n) (ab d)
  have : 1 * (ab n / ab d) ≤ ab d * (ab n / ab d) := Int.mul_le_mul_of_nonneg_right (by omega) q0
  omega
end Go.Proofs.YtmafgdinegboeaaGreat
namespace Go.Proofs.YtmafgdinegboeaaGreat
open Go.RowKit

theorem sd_mul (n d k : Int) : n - sd (ng n != ng d) k * d = sd (ng n) (ab n - ab d * k) := by
  have en : n = sd (ng n) (ab n) := by unfold sd ng ab; by_cases h : n < 0 <;> simp [h] <;> omega
  have ed : d = sd (ng d) (ab d) := by unfold sd ng ab; by_cases h : d < 0 <;> simp [h] <;> omega
  generalize ng n = s at *
  generalize ng d = t at *
  generalize ab n = A at *
  generalize ab d = D at *
  subst en
  subst ed
  cases s <;> cases t <;> simp [sd, Int.mul_comm D k, Int.neg_mul, Int.mul_neg] <;> omega
theorem up_cases (n d : Int) : (up n d = true ∧ (ab d < 2 * (ab n % ab d) ∨ (2 * (ab n % ab d) = ab d ∧ ab n / ab d % 2 = 1))) ∨ (up n d = false ∧ (2 * (ab n % ab d) < ab d ∨ (2 * (ab n % ab d) = ab d ∧ ab n / ab d % 2 ≠ 1))) := by
  unfold up
  generalize 2 * (ab n % ab d) = r
  generalize ab n / ab d = q
  generalize ab d = D
  rcases Int.lt_trichotomy r D with h | h | h
  · rw [sg_lt h]; simp; omega
  · rw [h, sg_eq]
    by_cases hq : q % 2 = 1
    · simp [hq]
    · simp [hq]
  · have e : sg r D = 1 := by unfold sg; rw [if_neg (by omega), if_pos h]
    rw [e]; simp; omega
theorem half_math (n d : Int) (h0 : d ≠ 0) : 2 * ((n - rd n d * d).natAbs : Int) ≤ d.natAbs ∧ (2 * ((n - rd n d * d).natAbs : Int) = d.natAbs → rd n d % 2 = 0) := by
  have dp : 0 < ab d := by unfold ab; omega
  have ed : (d.natAbs : Int) = ab d := rfl
  rw [ed]
  have r0 := Int.emod_nonneg (ab n) (show ab d ≠ 0 by omega)
  have r1 := Int.emod_lt_of_pos (ab n) dp
  have e := Int.mul_ediv_add_emod (ab n) (ab d)
  have en : ∀ s x, (sd s x).natAbs = x.natAbs := fun s x => by cases s <;> simp [sd]
  have e2 : ∀ s x, (sd s x) % 2 = 0 ↔ x % 2 = 0 := fun s x => by cases s <;> simp [sd] <;> omega
  have U := up_cases n d
  unfold rd
  rw [sd_mul, en, e2]
  generalize ab n / ab d = q at *
  generalize ab n % ab d = r at *
  generalize ab n = A at *
  rcases U with ⟨u, h⟩ | ⟨u, h⟩ <;> rw [u] <;> simp only [if_true, if_false, Bool.false_eq_true] <;> (try rw [Int.mul_add, Int.mul_one]) <;> generalize ab d * q = m at * <;> omega
end Go.Proofs.YtmafgdinegboeaaGreat
namespace Go.Proofs.YtmafgdinegboeaaGreat
open Go.RowKit

theorem sd_abs (s : Bool) (x : Int) : (sd s x).natAbs = x.natAbs := by cases s <;> simp [sd]
theorem ab_ab (d : Int) : ab (ab d) = ab d := by unfold ab; omega
theorem up_ab (n d : Int) : up n d = up n (ab d) := by unfold up; rw [ab_ab]
theorem rd_small {n d : Int} (hd : d ≠ 0) : (rd n d).natAbs ≤ n.natAbs := by
  have dp : 0 < ab d := by unfold ab; omega
  obtain ⟨q0, q1, q2⟩ := quo_small (n := n) dp
  have hu := up_rest (n := n) dp
  rw [← up_ab] at hu
  rw [ab_ab] at q0 q1 q2 hu
  unfold rd
  rw [sd_abs]
  have en : ab n = n.natAbs := rfl
  generalize ab n / ab d = q at *
  generalize ab n % ab d = r at *
  generalize ab n = A at *
  cases h : up n d with
  | true => have := q2 (hu h); simp only [if_true]; omega
  | false => simp only [Bool.false_eq_true, if_false]; omega
end Go.Proofs.YtmafgdinegboeaaGreat
namespace Go.Proofs.YtmafgdinegboeaaGreat
open Go.RowKit

end Go.Proofs.YtmafgdinegboeaaGreat
namespace Go.Proofs.YtmafgdinegboeaaGreat
open Go.RowKit

/-- Is v a word? -/
def wd (v : Int) : Bool := decide (-140737488355328 < v ∧ v < 140737488355328)
/-- A number told as a word; and the error beside it. -/
def tw (v : Int) : Int := if wd v = true then v else 0
def te (v : Int) : Int := if wd v = true then 0 else 3
theorem wd_bd {v : Int} (h : wd v = true) : -140737488355328 < v ∧ v < 140737488355328 := of_decide_eq_true h
theorem wd_mk {v : Int} (h : -140737488355328 < v ∧ v < 140737488355328) : wd v = true := decide_eq_true h
theorem wd_no {v : Int} (h : wd v = false) : v ≤ -140737488355328 ∨ 140737488355328 ≤ v := by have := of_decide_eq_false h; omega
theorem tw_in {v : Int} (h : wd v = true) : tw v = v := if_pos h
theorem te_in {v : Int} (h : wd v = true) : te v = 0 := if_pos h
theorem tw_out {v : Int} (h : wd v = false) : tw v = 0 := if_neg (by simp [h])
theorem te_out {v : Int} (h : wd v = false) : te v = 3 := if_neg (by simp [h])
/-- fx.Check -/
theorem check_any (v : Int) (w : World) : Calls Tryz.prog 153 #[.int .i64 v] w fun e w' => e = .returned (.int .i64 (if wd v = true then 0 else 1)) ∧ w = w' := by
  cases g : wd v with
  | true =>
    obtain ⟨g1, g2⟩ := wd_bd g
    clear g
    go_enter Tryz.func153, Tryz.ntmps153
    go_wp2
    go_ret
    exact ⟨rfl, rfl⟩
  | false =>
    have h := wd_no g
    clear g
    by_cases g1 : v ≤ -140737488355328
    · clear h
      go_enter Tryz.func153, Tryz.ntmps153
      go_wp2
      go_ret
      exact ⟨rfl, rfl⟩
    · have g2 : 140737488355328 ≤ v := by omega
      clear h
      go_enter Tryz.func153, Tryz.ntmps153
      go_wp2
      go_ret
      exact ⟨rfl, rfl⟩
/-- fx.told -/
theorem told_any (v : Int) (w : World) : Calls Tryz.prog 203 #[.int .i64 v] w fun e w' => e = .returned (.tuple #[.int .i64 (tw v), .int .i64 (te v)]) ∧ w = w' := by
  have C := Lib.hid (fun W : World => check_any v W)
  cases g : wd v with
  | true =>
    rw [g] at C
    have H := Lib.hid (And.intro (tw_in g) (te_in g))
    clear g
    go_enter Tryz.func203, Tryz.ntmps203
    go_wp2_with (go_at_call 153; (with_reducible refine (C.out _).mono ?_); rintro e w' ⟨rfl, rfl⟩)
    go_ret2
    exact ⟨by rw [H.out.1, H.out.2] <;> rfl, rfl⟩
  | false =>
    rw [g] at C
    have H := Lib.hid (And.intro (tw_out g) (te_out g))
    clear g
    go_enter Tryz.func203, Tryz.ntmps203
    go_wp2_with (go_at_call 153; (with_reducible refine (C.out _).mono ?_); rintro e w' ⟨rfl, rfl⟩)
    go_ret2
    exact ⟨by rw [H.out.1, H.out.2] <;> rfl, rfl⟩
end Go.Proofs.YtmafgdinegboeaaGreat
namespace Go.Proofs.YtmafgdinegboeaaGreat
open Go.RowKit

theorem ab_mul (a b : Int) : ab (a * b) = ab a * ab b := by unfold ab; rw [Int.natAbs_mul]; rfl
theorem ng_mul_pos (a : Int) {k : Int} (hk : 0 < k) : ng (a * k) = ng a := by
  unfold ng
  rw [Bool.eq_iff_iff]; simp only [decide_eq_true_eq]
  constructor
  · intro h
    rcases Int.lt_or_le a 0 with h1 | h1
    · exact h1
    · have := Int.mul_nonneg h1 (Int.le_of_lt hk); omega
  · intro h; exact Int.mul_neg_of_neg_of_pos h hk
theorem sg_scale (a b : Int) {k : Int} (hk : 0 < k) : sg (a * k) (b * k) = sg a b := by
  rcases Int.lt_trichotomy a b with h | h | h
  · rw [sg_lt h, sg_lt (Int.mul_lt_mul_of_pos_right h hk)]
  · rw [h, sg_eq, sg_eq]
  · rw [sg_gt h, sg_gt (Int.mul_lt_mul_of_pos_right h hk)]
theorem rd_scale (n d : Int) {k : Int} (hk : 0 < k) : rd (n * k) (d * k) = rd n d := by
  have ek : ab k = k := by unfold ab; omega
  unfold rd up
  have er : ab n * k % (ab d * k) = (ab n % ab d) * k := by rw [Int.mul_comm (ab n) k, Int.mul_comm (ab d) k, Int.mul_emod_mul_of_pos _ _ hk, Int.mul_comm]
  rw [ab_mul, ab_mul, ng_mul_pos n hk, ng_mul_pos d hk, ek, Int.mul_ediv_mul_of_pos_left _ _ hk, er, ← Int.mul_assoc, sg_scale _ _ hk]
end Go.Proofs.YtmafgdinegboeaaGreat
namespace Go.Proofs.YtmafgdinegboeaaGreat
open Go.RowKit

theorem ediv_is {x D t r : Int} (hD : 0 < D) (h : x = t * D + r) (h0 : 0 ≤ r) (h1 : r < D) : x / D = t := by
  rw [h, Int.add_comm, Int.add_mul_ediv_right _ _ (by omega), Int.ediv_eq_zero_of_lt h0 h1, Int.zero_add]
theorem dn_ediv (x : Int) {D : Int} (hD : 0 < D) : dn x D = x / D := by
  have eD : ab D = D := by unfold ab; omega
  have nD : ng D = false := by unfold ng; exact decide_eq_false (by omega)
  have e := Int.mul_ediv_add_emod (ab x) D
  have r0 := Int.emod_nonneg (ab x) (show D ≠ 0 by omega)
  have r1 := Int.emod_lt_of_pos (ab x) hD
  unfold dn
  rw [eD, nD]
  rcases Int.lt_or_le x 0 with h | h
  · have nx : ng x = true := by unfold ng; exact decide_eq_true h
    have ax : ab x = -x := by unfold ab; omega
    rw [nx]
    generalize ab x / D = q at *
    generalize ab x % D = r at *
    by_cases hr : r = 0
    · subst hr
      simp [sd]
      refine (ediv_is hD (r := 0) ?_ (by omega) hD).symm
      rw [Int.neg_mul, Int.mul_comm q]
      omega
    · have hb : (r == 0) = false := by rw [beq_eq_false_iff_ne]; exact hr
      rw [hb]
      simp [sd]
      refine (ediv_is hD (r := D - r) ?_ (by omega) (by omega)).symm
      rw [Int.neg_mul, Int.add_mul, Int.mul_comm q]
      omega
  · have nx : ng x = false := by unfold ng; exact decide_eq_false (by omega)
    have ax : ab x = x := by unfold ab; omega
    rw [nx, ax]
    simp [sd]
theorem nr_of {p : Int} {q : Nat} {t r : Int} (_hq : q ≠ 0) (h : p * 2 ^ 1 = t * q + r) (h0 : 0 ≤ r) (h1 : r < q) : nr p q = if t % 2 = 0 then t / 2 else if r ≠ 0 then t / 2 + 1 else if t / 2 % 2 = 0 then t / 2 else t / 2 + 1 := by
  have e : t2 p q = t := by
    unfold t2
    rw [dn_ediv _ (by omega : (0 : Int) < q)]
    exact ediv_is (by omega) h h0 h1
  unfold nr
  rw [e, h]
  have e2 : t * (q : Int) + r - t * q = r := by omega
  rw [e2]
  have p1 : (2 : Int) ^ 1 = 2 := by decide
  rw [p1]
  have c1 : (t / 2 * 2 = t) = (t % 2 = 0) := by apply propext; omega
  have c2 : (t / 2 / 2 * 2 = t / 2) = (t / 2 % 2 = 0) := by apply propext; omega
  simp only [c1, c2]
theorem nr_rd (m : Int) {D : Nat} (hD : D ≠ 0) : nr m D = rd m D := by
  have eD : ab (D : Int) = D := by unfold ab; omega
  have nD : ng (D : Int) = false := by unfold ng; exact decide_eq_false (by omega)
  have U := up_cases m D
  have e := Int.mul_ediv_add_emod (ab m) (D : Int)
  have r0 := Int.emod_nonneg (ab m) (show (D : Int) ≠ 0 by omega)
  have r1 := Int.emod_lt_of_pos (ab m) (show (0 : Int) < D by omega)
  have q0 : 0 ≤ ab m / D := Int.ediv_nonneg (by unfold ab; omega) (by omega)
  rw [eD] at U
  unfold rd
  rw [eD, nD]
  have p1 : (2 : Int) ^ 1 = 2 := by decide
  rcases Int.lt_or_le m 0 with h | h
  · have nx : ng m = true := by unfold ng; exact decide_eq_true h
    have ax : ab m = -m := by unfold ab; omega
    rw [nx]
    generalize ab m / D = q at *
    generalize ab m % D = r at *
    have f : ∀ c : Int, (-(2 * q) - c) * (D : Int) = -(2 * (D * q)) - c * D := fun c => by
      rw [Int.sub_mul, Int.neg_mul, Int.mul_assoc, Int.mul_comm q]
    rcases (by omega : r = 0 ∨ (0 < r ∧ 2 * r < D) ∨ 2 * r = D ∨ (D : Int) < 2 * r) with c | c | c | c
    · rw [nr_of (t := -(2 * q) - 0) (r := 0) hD (by rw [f, p1]; omega) (by omega) (by omega)]
      rcases U with ⟨u, hu⟩ | ⟨u, hu⟩ <;> rw [u] <;> simp [sd] <;> omega
    · rw [nr_of (t := -(2 * q) - 1) (r := D - 2 * r) hD (by rw [f, p1]; omega) (by omega) (by omega)]
      rcases U with ⟨u, hu⟩ | ⟨u, hu⟩ <;> rw [u] <;> simp [sd] <;> omega
    · rw [nr_of (t := -(2 * q) - 1) (r := 0) hD (by rw [f, p1]; omega) (by omega) (by omega)]
      rcases U with ⟨u, hu⟩ | ⟨u, hu⟩ <;> rw [u] <;> simp [sd] <;> omega
    · rw [nr_of (t := -(2 * q) - 2) (r := 2 * D - 2 * r) hD (by rw [f, p1]; omega) (by omega) (by omega)]
      rcases U with ⟨u, hu⟩ | ⟨u, hu⟩ <;> rw [u] <;> simp [sd] <;> omega
  · have nx : ng m = false := by unfold ng; exact decide_eq_false (by omega)
    have ax : ab m = m := by unfold ab; omega
    rw [nx]
    generalize ab m / D = q at *
    generalize ab m % D = r at *
    have f : ∀ c : Int, (2 * q + c) * (D : Int) = 2 * (D * q) + c * D := fun c => by
      rw [Int.add_mul, Int.mul_assoc, Int.mul_comm q]
    rcases (by omega : 2 * r < D ∨ 2 * r = D ∨ (D : Int) < 2 * r) with c | c | c
    · rw [nr_of (t := 2 * q + 0) (r := 2 * r) hD (by rw [f, p1]; omega) (by omega) (by omega)]
      rcases U with ⟨u, hu⟩ | ⟨u, hu⟩ <;> rw [u] <;> simp [sd] <;> omega
    · rw [nr_of (t := 2 * q + 1) (r := 0) hD (by rw [f, p1]; omega) (by omega) (by omega)]
      rcases U with ⟨u, hu⟩ | ⟨u, hu⟩ <;> rw [u] <;> simp [sd] <;> omega
    · rw [nr_of (t := 2 * q + 1) (r := 2 * r - D) hD (by rw [f, p1]; omega) (by omega) (by omega)]
      rcases U with ⟨u, hu⟩ | ⟨u, hu⟩ <;> rw [u] <;> simp [sd] <;> omega
theorem lowest (m : Int) {D : Nat} (hD : D ≠ 0) : nr (m.tdiv (Nat.gcd m.natAbs D : Nat)) (D / Nat.gcd m.natAbs D) = rd m D ∧ D / Nat.gcd m.natAbs D ≠ 0 := by
  have gp := Nat.gcd_pos_of_pos_right m.natAbs (Nat.pos_of_ne_zero hD)
  have d1 := Nat.gcd_dvd_left m.natAbs D
  have d2 := Nat.gcd_dvd_right m.natAbs D
  generalize Nat.gcd m.natAbs D = g at *
  obtain ⟨k, hk⟩ := d2
  have kp : k ≠ 0 := fun e => hD (by rw [hk, e, Nat.mul_zero])
  have e2 : D / g = k := by rw [hk, Nat.mul_div_cancel_left _ gp]
  have e1 : m.tdiv (g : Int) * g = m := Int.tdiv_mul_cancel (Int.ofNat_dvd_left.2 d1)
  rw [e2]
  refine ⟨?_, kp⟩
  rw [nr_rd _ kp, ← rd_scale _ _ (show (0 : Int) < g by omega), e1]
  congr 1
  rw [hk, Int.natCast_mul, Int.mul_comm]
end Go.Proofs.YtmafgdinegboeaaGreat
namespace Go.Proofs.YtmafgdinegboeaaGreat
open Go.RowKit

end Go.Proofs.YtmafgdinegboeaaGreat
namespace Go.Proofs.YtmafgdinegboeaaGreat
open Go.RowKit

end Go.Proofs.YtmafgdinegboeaaGreat
namespace Go.Proofs.YtmafgdinegboeaaGreat
open Go.RowKit

theorem keeps {W W' : World} (hb : Below W.heap.size W W') : ∀ p v, W.cell? p = some v → W'.cell? p = some v := fun _ _ h => cell_on hb h
/-- What Round's variables hold behind the division. -/
def RndAt (w0 : World) (n d q r : Int) (p6 p7 p8 : Nat) (w : World) : Prop :=
  w.cell? ⟨w0.heap.size, 0, none⟩ = some (.int .i64 (hi n)) ∧ w.cell? ⟨w0.heap.size, 1, none⟩ = some (.int .u64 (lo n)) ∧
  w.cell? ⟨w0.heap.size + 1, 0, none⟩ = some (.int .i64 (hi d)) ∧ w.cell? ⟨w0.heap.size + 1, 1, none⟩ = some (.int .u64 (lo d)) ∧
  w.cell? ⟨w0.heap.size + 1 + 1, 0, none⟩ = some (.int .i64 0) ∧ w.cell? ⟨w0.heap.size + 1 + 1, 1, none⟩ = some (.int .u64 0) ∧
  w.cell? ⟨p6, 0, none⟩ = some (.int .u64 (hi (ab d))) ∧ w.cell? ⟨p6, 1, none⟩ = some (.int .u64 (lo (ab d))) ∧
  w.cell? ⟨p7, 0, none⟩ = some (.int .u64 (hi q)) ∧ w.cell? ⟨p7, 1, none⟩ = some (.int .u64 (lo q)) ∧
  w.cell? ⟨p8, 0, none⟩ = some (.int .u64 (hi r)) ∧ w.cell? ⟨p8, 1, none⟩ = some (.int .u64 (lo r)) ∧
  w.frozen? ⟨w0.heap.size + 1 + 1, 0, none⟩ = false ∧ w.frozen? ⟨w0.heap.size + 1 + 1, 1, none⟩ = false ∧
  w.frozen? ⟨p7, 0, none⟩ = false ∧ w.frozen? ⟨p7, 1, none⟩ = false ∧
  Below w0.heap.size w0 w ∧ w0.heap.size + 1 + 1 < p7
theorem RndAt.below {w0 : World} {n d q r : Int} {p6 p7 p8 : Nat} {W W' : World} (h : RndAt w0 n d q r p6 p7 p8 W) (hb : Below W.heap.size W W') : RndAt w0 n d q r p6 p7 p8 W' := by
  obtain ⟨c1, c2, c3, c4, c5, c6, c7, c8, c9, ca, cb, cc, f1, f2, f3, f4, b, z⟩ := h
  have hz : w0.heap.size < W.heap.size := World.block_lt_of_cell? W _ c1
  exact ⟨cell_on hb c1, cell_on hb c2, cell_on hb c3, cell_on hb c4, cell_on hb c5, cell_on hb c6, cell_on hb c7, cell_on hb c8, cell_on hb c9, cell_on hb ca, cell_on hb cb, cell_on hb cc, frozen_on hb c5 f1, frozen_on hb c6 f2, frozen_on hb c9 f3, frozen_on hb ca f4, b.trans (hb.mono (by omega)), z⟩
theorem RndAt.drew {w0 : World} {n d q r : Int} {p6 p7 p8 : Nat} {W : World} (h : RndAt w0 n d q r p6 p7 p8 W) : RndAt w0 n d q r p6 p7 p8 W.drew := by
  obtain ⟨c1, c2, c3, c4, c5, c6, c7, c8, c9, ca, cb, cc, f1, f2, f3, f4, b, z⟩ := h
  exact ⟨c1, c2, c3, c4, c5, c6, c7, c8, c9, ca, cb, cc, f1, f2, f3, f4, b.drew, z⟩
theorem RndAt.put {w0 : World} {n d q r : Int} {p6 p7 p8 : Nat} {W : World} (h : RndAt w0 n d q r p6 p7 p8 W) (q' : Int) :
    (let V := (W.setCell ⟨p7, 0, none⟩ (.int .u64 (hi q'))).setCell ⟨p7, 1, none⟩ (.int .u64 (lo q'))
     V.cell? ⟨w0.heap.size, 0, none⟩ = some (.int .i64 (hi n)) ∧ V.cell? ⟨w0.heap.size, 1, none⟩ = some (.int .u64 (lo n)) ∧
     V.cell? ⟨w0.heap.size + 1, 0, none⟩ = some (.int .i64 (hi d)) ∧ V.cell? ⟨w0.heap.size + 1, 1, none⟩ = some (.int .u64 (lo d)) ∧
     V.cell? ⟨w0.heap.size + 1 + 1, 0, none⟩ = some (.int .i64 0) ∧ V.cell? ⟨w0.heap.size + 1 + 1, 1, none⟩ = some (.int .u64 0) ∧
     V.cell? ⟨p7, 0, none⟩ = some (.int .u64 (hi q')) ∧ V.cell? ⟨p7, 1, none⟩ = some (.int .u64 (lo q')) ∧
     V.frozen? ⟨w0.heap.size + 1 + 1, 0, none⟩ = false ∧ V.frozen? ⟨w0.heap.size + 1 + 1, 1, none⟩ = false ∧ Below w0.heap.size w0 V ∧ w0.heap.size + 1 + 1 < V.heap.size) := by
  obtain ⟨c1, c2, c3, c4, c5, c6, c7, c8, c9, ca, cb, cc, f1, f2, f3, f4, b, z⟩ := h
  have hs : w0.heap.size + 1 + 1 < W.heap.size := World.block_lt_of_cell? W _ c5
  have n0 : ¬ p7 = w0.heap.size := by omega
  have n1 : ¬ p7 = w0.heap.size + 1 := by omega
  have n2 : ¬ p7 = w0.heap.size + 1 + 1 := by omega
  have m0 : ¬ w0.heap.size = p7 := by omega
  have m1 : ¬ w0.heap.size + 1 = p7 := by omega
  have m2 : ¬ w0.heap.size + 1 + 1 = p7 := by omega
  refine ⟨by simp [go_sem, *], by simp [go_sem, *], by simp [go_sem, *], by simp [go_sem, *], by simp [go_sem, *], by simp [go_sem, *], by simp [go_sem, *], by simp [go_sem, *], by simp [go_sem, *], by simp [go_sem, *], ?_, by simp [go_sem, *]⟩
  exact (b.setCell (by simp; omega) _).setCell (by simp; omega) _
theorem rnd_mk {w0 w2 W : World} {n d q r : Int} {p6 p7 p8 : Nat} (B2 : Below w0.heap.size w0 w2) (y : w0.heap.size + 1 + 1 < w2.heap.size)
    (n0 : w2.cell? ⟨w0.heap.size, 0, none⟩ = some (.int .i64 (hi n))) (n1 : w2.cell? ⟨w0.heap.size, 1, none⟩ = some (.int .u64 (lo n)))
    (d0 : w2.cell? ⟨w0.heap.size + 1, 0, none⟩ = some (.int .i64 (hi d))) (d1 : w2.cell? ⟨w0.heap.size + 1, 1, none⟩ = some (.int .u64 (lo d)))
    (z0 : w2.cell? ⟨w0.heap.size + 1 + 1, 0, none⟩ = some (.int .i64 0)) (z1 : w2.cell? ⟨w0.heap.size + 1 + 1, 1, none⟩ = some (.int .u64 0))
    (zf0 : w2.frozen? ⟨w0.heap.size + 1 + 1, 0, none⟩ = false) (zf1 : w2.frozen? ⟨w0.heap.size + 1 + 1, 1, none⟩ = false)
    (BB : Below w2.heap.size w2 W)
    (a0 : W.cell? ⟨p6, 0, none⟩ = some (.int .u64 (hi (ab d)))) (a1 : W.cell? ⟨p6, 1, none⟩ = some (.int .u64 (lo (ab d))))
    (b0 : W.cell? ⟨p7, 0, none⟩ = some (.int .u64 (hi q))) (b1 : W.cell? ⟨p7, 1, none⟩ = some (.int .u64 (lo q)))
    (c0 : W.cell? ⟨p8, 0, none⟩ = some (.int .u64 (hi r))) (c1 : W.cell? ⟨p8, 1, none⟩ = some (.int .u64 (lo r)))
    (f0 : W.frozen? ⟨p7, 0, none⟩ = false) (f1 : W.frozen? ⟨p7, 1, none⟩ = false) (hp : w0.heap.size + 1 + 1 < p7) : RndAt w0 n d q r p6 p7 p8 W := by
  obtain ⟨hc, hf⟩ := bcell BB
  refine ⟨?_, ?_, ?_, ?_, ?_, ?_, a0, a1, b0, b1, c0, c1, ?_, ?_, f0, f1, B2.trans (BB.mono (by omega)), hp⟩
  all_goals first | (rw [hc _ _ (by omega)]; assumption) | (rw [hf _ _ (by omega)]; assumption)
set_option maxHeartbeats 4000000 in
/-- wide.Round -/
theorem round_any (n d : Int) (w : World) (hn : R n) (hd : R d) (h0 : d ≠ 0) : Calls Tryz.prog 69 #[Wv n, Wv d] w fun e w' => e = .returned (.tuple #[Wv (told (rd n d)), .int .i64 (over (rd n d))]) ∧ Below w.heap.size w w' := by
  have e0 : (sg d 0 == 0) = false := by unfold sg; split <;> (try split) <;> first | rfl | omega
  have H := Lib.hid (And.intro hn (And.intro hd h0))
  have QS := Lib.hid (quo_sizes hn hd h0)
  clear hn hd h0
  go_enter Tryz.func69, Tryz.ntmps69
  go_upto_region 4 with (first | (go_at_call 135; (with_reducible refine (sign_any d _).mono ?_); rintro e w1 ⟨rfl, hb⟩; have hk := keeps hb; obtain ⟨hc, hf⟩ := bcell hb; have hz1 : w.heap.size + 1 + 1 < w1.heap.size := bsz hb (by first | (simp; done) | (simp; omega) | omega)) | (go_at_call 136; (with_reducible refine (sizeOf_any d _ H.out.2.1).mono ?_); rintro e w2 ⟨rfl, hb2⟩; have hk2 := keeps hb2; obtain ⟨hc2, hf2⟩ := bcell hb2; have hz2 : w.heap.size + 1 + 1 < w2.heap.size := bsz hb2 (by first | (simp; done) | (simp; omega) | omega)))
  have n0 : w2.cell? ⟨w.heap.size, 0, none⟩ = some (.int .i64 (hi n)) := hk2 _ _ (hk _ _ (by simp [go_sem]))
  have n1 : w2.cell? ⟨w.heap.size, 1, none⟩ = some (.int .u64 (lo n)) := hk2 _ _ (hk _ _ (by simp [go_sem]))
  have d0 : w2.cell? ⟨w.heap.size + 1, 0, none⟩ = some (.int .i64 (hi d)) := hk2 _ _ (hk _ _ (by simp [go_sem]))
  have d1 : w2.cell? ⟨w.heap.size + 1, 1, none⟩ = some (.int .u64 (lo d)) := hk2 _ _ (hk _ _ (by simp [go_sem]))
  have z0 : w2.cell? ⟨w.heap.size + 1 + 1, 0, none⟩ = some (.int .i64 0) := hk2 _ _ (hk _ _ (by simp [go_sem]))
  have z1 : w2.cell? ⟨w.heap.size + 1 + 1, 1, none⟩ = some (.int .u64 0) := hk2 _ _ (hk _ _ (by simp [go_sem]))
  have zf0 : w2.frozen? ⟨w.heap.size + 1 + 1, 0, none⟩ = false := by rw [hf2 _ _ (by omega), hf _ _ (by simp)]; simp [go_sem]
  have zf1 : w2.frozen? ⟨w.heap.size + 1 + 1, 1, none⟩ = false := by rw [hf2 _ _ (by omega), hf _ _ (by simp)]; simp [go_sem]
  have B2 : Below w.heap.size w w2 := by
    repeat (first | exact Below.refl _ _ | assumption | apply Below.drew | refine Below.setCell ?_ (by first | (simp; done) | (simp; omega) | omega) _ | refine Below.alloc ?_ (by first | (simp; done) | (simp; omega) | omega) _ | refine Below.trans ?_ (hb2.mono (by first | (simp; done) | (simp; omega) | omega)) | refine Below.trans ?_ (hb.mono (by first | (simp; done) | (simp; omega) | omega)))
  have y1 : w.heap.size + 1 < w2.heap.size := by omega
  have y0 : w.heap.size < w2.heap.size := by omega
  have yl0 : w.heap.size < w2.heap.size + 1 := by omega
  have yl1 : w.heap.size < w2.heap.size + 1 + 1 := by omega
  clear hc hf hc2 hf2 hk hk2 hb hb2
  go_cut [7, 8] (fun s7 s8 wx => ∃ p7 p8 : Nat, s7 = .pointer (some ⟨p7, 0, none⟩) ∧ s8 = .pointer (some ⟨p8, 0, none⟩) ∧ RndAt w n d (ab n / ab d) (ab n % ab d) w2.heap.size p7 p8 wx)
  case first =>
    go_region_held3 (fun w' => w'.cell? ⟨w.heap.size, 0, none⟩ = some (.int .i64 (hi n)) ∧ w'.cell? ⟨w.heap.size, 1, none⟩ = some (.int .u64 (lo n)) ∧ w'.cell? ⟨w2.heap.size, 0, none⟩ = some (.int .u64 (hi (ab d))) ∧ w'.cell? ⟨w2.heap.size, 1, none⟩ = some (.int .u64 (lo (ab d)))) (simp [go_sem, *])
      (first
      | (go_at_call 136; (with_reducible refine (sizeOf_any n _ H.out.1).mono ?_); rintro e w3 ⟨rfl, hb3⟩; obtain ⟨hc3, hf3⟩ := bcell hb3; have hz30 : w.heap.size < w3.heap.size := bsz hb3 (by first | omega | (simp; done) | (simp; omega)); have hz31 : w.heap.size + 1 < w3.heap.size := bsz hb3 (by first | omega | (simp; done) | (simp; omega)); have hz32 : w.heap.size + 1 + 1 < w3.heap.size := bsz hb3 (by first | omega | (simp; done) | (simp; omega)); have hz33 : w2.heap.size < w3.heap.size := bsz hb3 (by first | omega | (simp; done) | (simp; omega)); have hl30 : w.heap.size < w3.heap.size + 1 := Nat.lt_succ_of_lt hz30; have hm30 : w.heap.size < w3.heap.size + 1 + 1 := Nat.lt_succ_of_lt hl30; have hl31 : w.heap.size + 1 < w3.heap.size + 1 := Nat.lt_succ_of_lt hz31; have hm31 : w.heap.size + 1 < w3.heap.size + 1 + 1 := Nat.lt_succ_of_lt hl31; have hl32 : w.heap.size + 1 + 1 < w3.heap.size + 1 := Nat.lt_succ_of_lt hz32; have hm32 : w.heap.size + 1 + 1 < w3.heap.size + 1 + 1 := Nat.lt_succ_of_lt hl32; have hl33 : w2.heap.size < w3.heap.size + 1 := Nat.lt_succ_of_lt hz33; have hm33 : w2.heap.size < w3.heap.size + 1 + 1 := Nat.lt_succ_of_lt hl33; have g30 : w3.cell? ⟨w.heap.size, 0, none⟩ = some (.int .i64 (hi n)) := (hc3 _ _ (by first | omega | (simp; done) | (simp; omega))).trans (by first | (simp [go_sem, *]; done) | fail); have g31 : w3.cell? ⟨w.heap.size, 1, none⟩ = some (.int .u64 (lo n)) := (hc3 _ _ (by first | omega | (simp; done) | (simp; omega))).trans (by first | (simp [go_sem, *]; done) | fail); have g32 : w3.cell? ⟨w2.heap.size, 0, none⟩ = some (.int .u64 (hi (ab d))) := (hc3 _ _ (by first | omega | (simp; done) | (simp; omega))).trans (by first | (simp [go_sem, *]; done) | fail); have g33 : w3.cell? ⟨w2.heap.size, 1, none⟩ = some (.int .u64 (lo (ab d))) := (hc3 _ _ (by first | omega | (simp; done) | (simp; omega))).trans (by first | (simp [go_sem, *]; done) | fail); (first | (have hy30 : w2.heap.size + 1 < w3.heap.size := bsz hb3 (by first | omega | (simp; done) | (simp; omega))) | skip); (first | (have hy31 : w2.heap.size + 1 + 1 < w3.heap.size := bsz hb3 (by first | omega | (simp; done) | (simp; omega))) | skip); (first | (have hn30 : w2.heap.size + 1 < w3.heap.size + 1 := Nat.lt_succ_of_lt hy30) | skip); (first | (have hn31 : w2.heap.size + 1 + 1 < w3.heap.size + 1 := Nat.lt_succ_of_lt hy31) | skip); (first | (have o30 : w3.cell? ⟨w2.heap.size + 1, 0, none⟩ = some (.int .u64 0) := (hc3 _ _ (by first | omega | (simp; done) | (simp; omega))).trans (by first | (simp [go_sem, *]; done) | fail)) | skip); (first | (have q30 : w3.frozen? ⟨w2.heap.size + 1, 0, none⟩ = false := (hf3 _ _ (by first | omega | (simp; done) | (simp; omega))).trans (by first | (simp [go_sem, *]; done) | fail)) | skip); (first | (have o31 : w3.cell? ⟨w2.heap.size + 1, 1, none⟩ = some (.int .u64 0) := (hc3 _ _ (by first | omega | (simp; done) | (simp; omega))).trans (by first | (simp [go_sem, *]; done) | fail)) | skip); (first | (have q31 : w3.frozen? ⟨w2.heap.size + 1, 1, none⟩ = false := (hf3 _ _ (by first | omega | (simp; done) | (simp; omega))).trans (by first | (simp [go_sem, *]; done) | fail)) | skip); (first | (have o32 : w3.cell? ⟨w2.heap.size + 1 + 1, 0, none⟩ = some (.int .u64 0) := (hc3 _ _ (by first | omega | (simp; done) | (simp; omega))).trans (by first | (simp [go_sem, *]; done) | fail)) | skip); (first | (have q32 : w3.frozen? ⟨w2.heap.size + 1 + 1, 0, none⟩ = false := (hf3 _ _ (by first | omega | (simp; done) | (simp; omega))).trans (by first | (simp [go_sem, *]; done) | fail)) | skip); (first | (have o33 : w3.cell? ⟨w2.heap.size + 1 + 1, 1, none⟩ = some (.int .u64 0) := (hc3 _ _ (by first | omega | (simp; done) | (simp; omega))).trans (by first | (simp [go_sem, *]; done) | fail)) | skip); (first | (have q33 : w3.frozen? ⟨w2.heap.size + 1 + 1, 1, none⟩ = false := (hf3 _ _ (by first | omega | (simp; done) | (simp; omega))).trans (by first | (simp [go_sem, *]; done) | fail)) | skip); clear hc3 hf3)
      | (go_at_call 137; (with_reducible refine (divide_any (ab n) (ab d) _ (U_ab H.out.1) (U_ab H.out.2.1) (ab_ne H.out.2.2)).mono ?_); rintro e w4 ⟨rfl, hb4⟩; obtain ⟨hc4, hf4⟩ := bcell hb4; have hz40 : w.heap.size < w4.heap.size := bsz hb4 (by first | omega | (simp; done) | (simp; omega)); have hz41 : w.heap.size + 1 < w4.heap.size := bsz hb4 (by first | omega | (simp; done) | (simp; omega)); have hz42 : w.heap.size + 1 + 1 < w4.heap.size := bsz hb4 (by first | omega | (simp; done) | (simp; omega)); have hz43 : w2.heap.size < w4.heap.size := bsz hb4 (by first | omega | (simp; done) | (simp; omega)); have hl40 : w.heap.size < w4.heap.size + 1 := Nat.lt_succ_of_lt hz40; have hm40 : w.heap.size < w4.heap.size + 1 + 1 := Nat.lt_succ_of_lt hl40; have hl41 : w.heap.size + 1 < w4.heap.size + 1 := Nat.lt_succ_of_lt hz41; have hm41 : w.heap.size + 1 < w4.heap.size + 1 + 1 := Nat.lt_succ_of_lt hl41; have hl42 : w.heap.size + 1 + 1 < w4.heap.size + 1 := Nat.lt_succ_of_lt hz42; have hm42 : w.heap.size + 1 + 1 < w4.heap.size + 1 + 1 := Nat.lt_succ_of_lt hl42; have hl43 : w2.heap.size < w4.heap.size + 1 := Nat.lt_succ_of_lt hz43; have hm43 : w2.heap.size < w4.heap.size + 1 + 1 := Nat.lt_succ_of_lt hl43; have g40 : w4.cell? ⟨w.heap.size, 0, none⟩ = some (.int .i64 (hi n)) := (hc4 _ _ (by first | omega | (simp; done) | (simp; omega))).trans (by first | (simp [go_sem, *]; done) | fail); have g41 : w4.cell? ⟨w.heap.size, 1, none⟩ = some (.int .u64 (lo n)) := (hc4 _ _ (by first | omega | (simp; done) | (simp; omega))).trans (by first | (simp [go_sem, *]; done) | fail); have g42 : w4.cell? ⟨w2.heap.size, 0, none⟩ = some (.int .u64 (hi (ab d))) := (hc4 _ _ (by first | omega | (simp; done) | (simp; omega))).trans (by first | (simp [go_sem, *]; done) | fail); have g43 : w4.cell? ⟨w2.heap.size, 1, none⟩ = some (.int .u64 (lo (ab d))) := (hc4 _ _ (by first | omega | (simp; done) | (simp; omega))).trans (by first | (simp [go_sem, *]; done) | fail); (first | (have hy40 : w2.heap.size + 1 < w4.heap.size := bsz hb4 (by first | omega | (simp; done) | (simp; omega))) | skip); (first | (have hy41 : w2.heap.size + 1 + 1 < w4.heap.size := bsz hb4 (by first | omega | (simp; done) | (simp; omega))) | skip); (first | (have hy42 : w3.heap.size < w4.heap.size := bsz hb4 (by first | omega | (simp; done) | (simp; omega))) | skip); (first | (have hy43 : w3.heap.size + 1 < w4.heap.size := bsz hb4 (by first | omega | (simp; done) | (simp; omega))) | skip); (first | (have hn40 : w2.heap.size + 1 < w4.heap.size + 1 := Nat.lt_succ_of_lt hy40) | skip); (first | (have hn41 : w2.heap.size + 1 + 1 < w4.heap.size + 1 := Nat.lt_succ_of_lt hy41) | skip); (first | (have hn42 : w3.heap.size < w4.heap.size + 1 := Nat.lt_succ_of_lt hy42) | skip); (first | (have hn43 : w3.heap.size + 1 < w4.heap.size + 1 := Nat.lt_succ_of_lt hy43) | skip); (first | (have o40 : w4.cell? ⟨w2.heap.size + 1, 0, none⟩ = some (.int .u64 0) := (hc4 _ _ (by first | omega | (simp; done) | (simp; omega))).trans (by first | (simp [go_sem, *]; done) | fail)) | skip); (first | (have q40 : w4.frozen? ⟨w2.heap.size + 1, 0, none⟩ = false := (hf4 _ _ (by first | omega | (simp; done) | (simp; omega))).trans (by first | (simp [go_sem, *]; done) | fail)) | skip); (first | (have o41 : w4.cell? ⟨w2.heap.size + 1, 1, none⟩ = some (.int .u64 0) := (hc4 _ _ (by first | omega | (simp; done) | (simp; omega))).trans (by first | (simp [go_sem, *]; done) | fail)) | skip); (first | (have q41 : w4.frozen? ⟨w2.heap.size + 1, 1, none⟩ = false := (hf4 _ _ (by first | omega | (simp; done) | (simp; omega))).trans (by first | (simp [go_sem, *]; done) | fail)) | skip); (first | (have o42 : w4.cell? ⟨w2.heap.size + 1 + 1, 0, none⟩ = some (.int .u64 0) := (hc4 _ _ (by first | omega | (simp; done) | (simp; omega))).trans (by first | (simp [go_sem, *]; done) | fail)) | skip); (first | (have q42 : w4.frozen? ⟨w2.heap.size + 1 + 1, 0, none⟩ = false := (hf4 _ _ (by first | omega | (simp; done) | (simp; omega))).trans (by first | (simp [go_sem, *]; done) | fail)) | skip); (first | (have o43 : w4.cell? ⟨w2.heap.size + 1 + 1, 1, none⟩ = some (.int .u64 0) := (hc4 _ _ (by first | omega | (simp; done) | (simp; omega))).trans (by first | (simp [go_sem, *]; done) | fail)) | skip); (first | (have q43 : w4.frozen? ⟨w2.heap.size + 1 + 1, 1, none⟩ = false := (hf4 _ _ (by first | omega | (simp; done) | (simp; omega))).trans (by first | (simp [go_sem, *]; done) | fail)) | skip); (first | (have o44 : w4.cell? ⟨w3.heap.size, 0, none⟩ = some (.int .u64 0) := (hc4 _ _ (by first | omega | (simp; done) | (simp; omega))).trans (by first | (simp [go_sem, *]; done) | fail)) | skip); (first | (have q44 : w4.frozen? ⟨w3.heap.size, 0, none⟩ = false := (hf4 _ _ (by first | omega | (simp; done) | (simp; omega))).trans (by first | (simp [go_sem, *]; done) | fail)) | skip); (first | (have o45 : w4.cell? ⟨w3.heap.size, 1, none⟩ = some (.int .u64 0) := (hc4 _ _ (by first | omega | (simp; done) | (simp; omega))).trans (by first | (simp [go_sem, *]; done) | fail)) | skip); (first | (have q45 : w4.frozen? ⟨w3.heap.size, 1, none⟩ = false := (hf4 _ _ (by first | omega | (simp; done) | (simp; omega))).trans (by first | (simp [go_sem, *]; done) | fail)) | skip); (first | (have o46 : w4.cell? ⟨w3.heap.size + 1, 0, none⟩ = some (.int .u64 0) := (hc4 _ _ (by first | omega | (simp; done) | (simp; omega))).trans (by first | (simp [go_sem, *]; done) | fail)) | skip); (first | (have q46 : w4.frozen? ⟨w3.heap.size + 1, 0, none⟩ = false := (hf4 _ _ (by first | omega | (simp; done) | (simp; omega))).trans (by first | (simp [go_sem, *]; done) | fail)) | skip); (first | (have o47 : w4.cell? ⟨w3.heap.size + 1, 1, none⟩ = some (.int .u64 0) := (hc4 _ _ (by first | omega | (simp; done) | (simp; omega))).trans (by first | (simp [go_sem, *]; done) | fail)) | skip); (first | (have q47 : w4.frozen? ⟨w3.heap.size + 1, 1, none⟩ = false := (hf4 _ _ (by first | omega | (simp; done) | (simp; omega))).trans (by first | (simp [go_sem, *]; done) | fail)) | skip); clear hc4 hf4))
    all_goals
      go_wp2_with fail
      go_meet
      refine ⟨_, _, rfl, rfl, rnd_mk B2 hz2 n0 n1 d0 d1 z0 z1 zf0 zf1 ?_ (by simp [go_sem, *]) (by simp [go_sem, *]) (by simp [go_sem, *]) (by simp [go_sem, *]) (by simp [go_sem, *]) (by simp [go_sem, *]) (by simp [go_sem, *]) (by simp [go_sem, *]) (by first | omega | (simp; done) | (simp; omega))⟩
      repeat (first | exact Below.refl _ _ | assumption | apply Below.drew | refine Below.setCell ?_ (by first | omega | (simp; done) | (simp; omega)) _ | refine Below.alloc ?_ (by first | omega | (simp; done) | (simp; omega)) _ | refine Below.trans ?_ (hb4.mono (by first | omega | (simp; done) | (simp; omega))) | refine Below.trans ?_ (hb3.mono (by first | omega | (simp; done) | (simp; omega))))
  case rest =>
    obtain ⟨p7, p8, rfl, rfl, hR⟩ := hcut
    generalize w2.heap.size = p6 at *
    obtain ⟨q, hq⟩ : ∃ q, q = ab n / ab d := ⟨_, rfl⟩
    obtain ⟨r, hr⟩ : ∃ r, r = ab n % ab d := ⟨_, rfl⟩
    have HQ := Lib.hid (And.intro hq hr)
    rw [← hq, ← hr] at hR QS
    have hU := QS.out
    have e2 : ws (r * 2 ^ 1) = r * 2 := by
      have e3 : (r * 2 ^ 1 : Int) = 2 * r := by omega
      rw [e3, ws_in hU.2.2.2]; omega
    have LC : Hid (∀ W : World, Calls Tryz.prog 138 #[Sv r, .int .i64 1] W fun e w' => e = .returned (Sv (r * 2)) ∧ Below W.heap.size W w') := fun W : World => e2 ▸ left_any r 1 W hU.2.2.1 (by decide)
    clear hq hr hU e2
    have HR := Lib.hid hR
    obtain ⟨c1, c2, c3, c4, c5, c6, c7, c8, c9, ca, cb, cc, f1, f2, f3, f4, hbw, hp⟩ := hR
    go_wp2_with fail
    go_cut [9] (fun s9 wx => s9 = .int .i64 (sg (r * 2) (ab d)) ∧ RndAt w n d q r p6 p7 p8 wx)
    case first =>
      go_region_held3 (fun w' => w'.cell? ⟨p8, 0, none⟩ = some (.int .u64 (hi r)) ∧ w'.cell? ⟨p8, 1, none⟩ = some (.int .u64 (lo r)) ∧ w'.cell? ⟨p6, 0, none⟩ = some (.int .u64 (hi (ab d))) ∧ w'.cell? ⟨p6, 1, none⟩ = some (.int .u64 (lo (ab d)))) (simp [go_sem, *])
        (first
        | (go_at_call 138; (with_reducible refine (LC.out _).mono ?_); rintro e w5 ⟨rfl, hb5⟩; have e50 : w5.cell? ⟨p8, 0, none⟩ = some (.int .u64 (hi r)) := cell_on hb5 (by first | assumption | exact drew_on (by assumption)); have e51 : w5.cell? ⟨p8, 1, none⟩ = some (.int .u64 (lo r)) := cell_on hb5 (by first | assumption | exact drew_on (by assumption)); have e52 : w5.cell? ⟨p6, 0, none⟩ = some (.int .u64 (hi (ab d))) := cell_on hb5 (by first | assumption | exact drew_on (by assumption)); have e53 : w5.cell? ⟨p6, 1, none⟩ = some (.int .u64 (lo (ab d))) := cell_on hb5 (by first | assumption | exact drew_on (by assumption)))
        | (go_at_call 139; (with_reducible refine (compare_any (r * 2) (ab d) _).mono ?_); rintro e w6 ⟨rfl, hb6⟩; have e60 : w6.cell? ⟨p8, 0, none⟩ = some (.int .u64 (hi r)) := cell_on hb6 (by first | assumption | exact drew_on (by assumption)); have e61 : w6.cell? ⟨p8, 1, none⟩ = some (.int .u64 (lo r)) := cell_on hb6 (by first | assumption | exact drew_on (by assumption)); have e62 : w6.cell? ⟨p6, 0, none⟩ = some (.int .u64 (hi (ab d))) := cell_on hb6 (by first | assumption | exact drew_on (by assumption)); have e63 : w6.cell? ⟨p6, 1, none⟩ = some (.int .u64 (lo (ab d))) := cell_on hb6 (by first | assumption | exact drew_on (by assumption))))
      all_goals
        go_wp2_with fail
        go_meet
        refine ⟨rfl, ?_⟩
        first | exact (HR.out.drew.below hb5).below hb6
    case rest =>
      obtain ⟨rfl, hR⟩ := hcut
      have HR3 := Lib.hid hR
      clear HR hR
      have UP : up n d = (decide (0 < sg (r * 2) (ab d)) || (decide (sg (r * 2) (ab d) = 0) && (q % 2 == 1))) := by unfold up; rw [← HQ.out.1, ← HQ.out.2, Int.mul_comm 2 r]
      have HS : sg (r * 2) (ab d) = 1 ∨ sg (r * 2) (ab d) = 0 ∨ sg (r * 2) (ab d) = -1 := by unfold sg; split <;> (try split) <;> simp
      go_upto_region 6 with fail
      go_cut [36] (fun s36 wx => s36 = .bool (up n d) ∧ RndAt w n d q r p6 p7 p8 wx)
      case first =>
        obtain ⟨c1, c2, c3, c4, c5, c6, c7, c8, c9, ca, cb, cc, f1, f2, f3, f4, hbw, hp⟩ := HR3.out
        have HUP := Lib.hid UP
        clear UP
        rcases HS with hs | hs | hs
        · generalize sg (r * 2) (ab d) = h at *
          subst hs
          go_wp2_with fail
          go_meet
          exact ⟨by rw [HUP.out]; rfl, HR3.out⟩
        · generalize sg (r * 2) (ab d) = h at *
          subst hs
          go_wp2_with (go_at_call 140; (with_reducible refine (odd_any q _).mono ?_); rintro e w7 ⟨rfl, hb7⟩)
          go_meet
          refine ⟨?_, HR3.out.below hb7⟩
          rw [HUP.out]; rfl
        · generalize sg (r * 2) (ab d) = h at *
          subst hs
          go_wp2_with fail
          go_meet
          exact ⟨by rw [HUP.out]; rfl, HR3.out⟩
      case rest =>
        obtain ⟨rfl, hR⟩ := hcut
        trace "@@7"
        clear UP HS
        have HR4 := Lib.hid hR
        clear hR HR3
        obtain ⟨c1, c2, c3, c4, c5, c6, c7, c8, c9, ca, cb, cc, f1, f2, f3, f4, hbw, hp⟩ := HR4.out
        have hU := QS.out
        have BN := Lib.hid (fun W : World => below_any n W)
        have BD := Lib.hid (fun W : World => below_any d W)
        cases hup : up n d with
        | true =>
          have NC := Lib.hid (fun W : World => next_any q W hU.2.1)
          go_upto_region 8 with (go_at_call 141; (with_reducible refine (NC.out _).mono ?_); rintro e w8 ⟨rfl, hb8⟩; obtain ⟨x1, x2, x3, x4, x5, x6, x7, x8, x9, xa, xb, xc, g1, g2, g3, g4, hbx, hpx⟩ := HR4.out.below hb8)
          clear x1 x2 x3 x4 x5 x6 x7 x8 x9 xa xb xc g1 g2 g3 g4 hbx hpx c1 c2 c3 c4 c5 c6 c7 c8 c9 ca cb cc f1 f2 f3 f4 hbw hp
          obtain ⟨x1, x2, x3, x4, x5, x6, x9, xa, g1, g2, hbx, hsz⟩ := (HR4.out.below hb8).put (q + 1)
          generalize (w8.setCell ⟨p7, 0, none⟩ (.int .u64 (hi (q + 1)))).setCell ⟨p7, 1, none⟩ (.int .u64 (lo (q + 1))) = wv at *
          have RD := Lib.hid (show rd n d = sd (!(ng n == ng d)) (q + 1) by unfold rd; rw [if_pos hup, HQ.out.1]; rfl)
          have SU := Lib.hid (hU.2.1)
          clear hU hup
          generalize ng n = sn at *
          generalize ng d = sdd at *
          go_region_held3 (fun w' => w'.cell? ⟨p7, 0, none⟩ = some (.int .u64 (hi (q + 1))) ∧ w'.cell? ⟨p7, 1, none⟩ = some (.int .u64 (lo (q + 1))) ∧ w'.cell? ⟨w.heap.size, 0, none⟩ = some (.int .i64 (hi n)) ∧ w'.cell? ⟨w.heap.size, 1, none⟩ = some (.int .u64 (lo n)) ∧ w'.cell? ⟨w.heap.size + 1, 0, none⟩ = some (.int .i64 (hi d)) ∧ w'.cell? ⟨w.heap.size + 1, 1, none⟩ = some (.int .u64 (lo d))) (first | (simp [go_sem, *]; done) | (simp [go_sem, World.cell?_alloc_some, *]; done))
            (first
            | (go_at_call 143; (with_reducible refine (BN.out _).mono ?_); rintro e w' ⟨rfl, rfl⟩)
            | (go_at_call 143; (with_reducible refine (BD.out _).mono ?_); rintro e w' ⟨rfl, rfl⟩)
            | (go_at_call 142; (with_reducible refine (signed_any (q + 1) _ _ SU.out).mono ?_); rintro e w9 ⟨rfl, hb9⟩; have e90 : w9.cell? ⟨p7, 0, none⟩ = some (.int .u64 (hi (q + 1))) := cell_on hb9 (by first | (simp [go_sem, *]; done) | (simp [go_sem, World.cell?_alloc_some, *]; done) | fail); have e91 : w9.cell? ⟨p7, 1, none⟩ = some (.int .u64 (lo (q + 1))) := cell_on hb9 (by first | (simp [go_sem, *]; done) | (simp [go_sem, World.cell?_alloc_some, *]; done) | fail); have e92 : w9.cell? ⟨w.heap.size, 0, none⟩ = some (.int .i64 (hi n)) := cell_on hb9 (by first | (simp [go_sem, *]; done) | (simp [go_sem, World.cell?_alloc_some, *]; done) | fail); have e93 : w9.cell? ⟨w.heap.size, 1, none⟩ = some (.int .u64 (lo n)) := cell_on hb9 (by first | (simp [go_sem, *]; done) | (simp [go_sem, World.cell?_alloc_some, *]; done) | fail); have e94 : w9.cell? ⟨w.heap.size + 1, 0, none⟩ = some (.int .i64 (hi d)) := cell_on hb9 (by first | (simp [go_sem, *]; done) | (simp [go_sem, World.cell?_alloc_some, *]; done) | fail); have e95 : w9.cell? ⟨w.heap.size + 1, 1, none⟩ = some (.int .u64 (lo d)) := cell_on hb9 (by first | (simp [go_sem, *]; done) | (simp [go_sem, World.cell?_alloc_some, *]; done) | fail); have e96 : w9.cell? ⟨w.heap.size + 1 + 1, 0, none⟩ = some (.int .i64 0) := cell_on hb9 (by first | (simp [go_sem, *]; done) | (simp [go_sem, World.cell?_alloc_some, *]; done) | fail); have e97 : w9.cell? ⟨w.heap.size + 1 + 1, 1, none⟩ = some (.int .u64 0) := cell_on hb9 (by first | (simp [go_sem, *]; done) | (simp [go_sem, World.cell?_alloc_some, *]; done) | fail); have s90 : p7 < w9.heap.size := World.block_lt_of_cell? _ _ e90; have t90 : p7 < w9.heap.size + 1 := Nat.lt_succ_of_lt s90; have s92 : w.heap.size < w9.heap.size := World.block_lt_of_cell? _ _ e92; have t92 : w.heap.size < w9.heap.size + 1 := Nat.lt_succ_of_lt s92; have s94 : w.heap.size + 1 < w9.heap.size := World.block_lt_of_cell? _ _ e94; have t94 : w.heap.size + 1 < w9.heap.size + 1 := Nat.lt_succ_of_lt s94; have s96 : w.heap.size + 1 + 1 < w9.heap.size := World.block_lt_of_cell? _ _ e96; have t96 : w.heap.size + 1 + 1 < w9.heap.size + 1 := Nat.lt_succ_of_lt s96; have y96 : w9.frozen? ⟨w.heap.size + 1 + 1, 0, none⟩ = false := frozen_on hb9 (v := .int .i64 0) (by first | (simp [go_sem, *]; done) | (simp [go_sem, World.cell?_alloc_some, *]; done) | fail) (by first | (simp [go_sem, *]; done) | (simp [go_sem, frozen?_alloc_cells, *]; done) | fail); have y97 : w9.frozen? ⟨w.heap.size + 1 + 1, 1, none⟩ = false := frozen_on hb9 (v := .int .u64 0) (by first | (simp [go_sem, *]; done) | (simp [go_sem, World.cell?_alloc_some, *]; done) | fail) (by first | (simp [go_sem, *]; done) | (simp [go_sem, frozen?_alloc_cells, *]; done) | fail)))
          all_goals
            go_wp2_with fail
            refine bodyPost_ret (v := .tuple #[Wv (told (sd (!(sn == sdd)) (q + 1))), .int .i64 (over (sd (!(sn == sdd)) (q + 1)))]) (by simp [results, Tryz.results69, go_sem, *]) rfl ⟨by rw [RD.out], ?_⟩
            repeat (first | exact Below.refl _ _ | assumption | apply Below.drew | refine Below.setCell ?_ (by first | omega | (simp; done) | (simp; omega)) _ | refine Below.alloc ?_ (by first | omega | (simp; done) | (simp; omega)) _ | refine Below.trans ?_ (hb9.mono (by first | omega | (simp; done) | (simp; omega))))
        | false =>
          have hsz : w.heap.size + 1 + 1 < _ := World.block_lt_of_cell? _ _ c5
          go_upto_region 8 with fail
          have RD := Lib.hid (show rd n d = sd (!(ng n == ng d)) q by unfold rd; rw [if_neg (by rw [hup]; simp), HQ.out.1]; rfl)
          have SU := Lib.hid (hU.1)
          clear hU hup
          generalize ng n = sn at *
          generalize ng d = sdd at *
          go_region_held3 (fun w' => w'.cell? ⟨p7, 0, none⟩ = some (.int .u64 (hi (q))) ∧ w'.cell? ⟨p7, 1, none⟩ = some (.int .u64 (lo (q))) ∧ w'.cell? ⟨w.heap.size, 0, none⟩ = some (.int .i64 (hi n)) ∧ w'.cell? ⟨w.heap.size, 1, none⟩ = some (.int .u64 (lo n)) ∧ w'.cell? ⟨w.heap.size + 1, 0, none⟩ = some (.int .i64 (hi d)) ∧ w'.cell? ⟨w.heap.size + 1, 1, none⟩ = some (.int .u64 (lo d))) (first | (simp [go_sem, *]; done) | (simp [go_sem, World.cell?_alloc_some, *]; done))
            (first
            | (go_at_call 143; (with_reducible refine (BN.out _).mono ?_); rintro e w' ⟨rfl, rfl⟩)
            | (go_at_call 143; (with_reducible refine (BD.out _).mono ?_); rintro e w' ⟨rfl, rfl⟩)
            | (go_at_call 142; (with_reducible refine (signed_any (q) _ _ SU.out).mono ?_); rintro e w9 ⟨rfl, hb9⟩; have e90 : w9.cell? ⟨p7, 0, none⟩ = some (.int .u64 (hi (q))) := cell_on hb9 (by first | (simp [go_sem, *]; done) | (simp [go_sem, World.cell?_alloc_some, *]; done) | fail); have e91 : w9.cell? ⟨p7, 1, none⟩ = some (.int .u64 (lo (q))) := cell_on hb9 (by first | (simp [go_sem, *]; done) | (simp [go_sem, World.cell?_alloc_some, *]; done) | fail); have e92 : w9.cell? ⟨w.heap.size, 0, none⟩ = some (.int .i64 (hi n)) := cell_on hb9 (by first | (simp [go_sem, *]; done) | (simp [go_sem, World.cell?_alloc_some, *]; done) | fail); have e93 : w9.cell? ⟨w.heap.size, 1, none⟩ = some (.int .u64 (lo n)) := cell_on hb9 (by first | (simp [go_sem, *]; done) | (simp [go_sem, World.cell?_alloc_some, *]; done) | fail); have e94 : w9.cell? ⟨w.heap.size + 1, 0, none⟩ = some (.int .i64 (hi d)) := cell_on hb9 (by first | (simp [go_sem, *]; done) | (simp [go_sem, World.cell?_alloc_some, *]; done) | fail); have e95 : w9.cell? ⟨w.heap.size + 1, 1, none⟩ = some (.int .u64 (lo d)) := cell_on hb9 (by first | (simp [go_sem, *]; done) | (simp [go_sem, World.cell?_alloc_some, *]; done) | fail); have e96 : w9.cell? ⟨w.heap.size + 1 + 1, 0, none⟩ = some (.int .i64 0) := cell_on hb9 (by first | (simp [go_sem, *]; done) | (simp [go_sem, World.cell?_alloc_some, *]; done) | fail); have e97 : w9.cell? ⟨w.heap.size + 1 + 1, 1, none⟩ = some (.int .u64 0) := cell_on hb9 (by first | (simp [go_sem, *]; done) | (simp [go_sem, World.cell?_alloc_some, *]; done) | fail); have s90 : p7 < w9.heap.size := World.block_lt_of_cell? _ _ e90; have t90 : p7 < w9.heap.size + 1 := Nat.lt_succ_of_lt s90; have s92 : w.heap.size < w9.heap.size := World.block_lt_of_cell? _ _ e92; have t92 : w.heap.size < w9.heap.size + 1 := Nat.lt_succ_of_lt s92; have s94 : w.heap.size + 1 < w9.heap.size := World.block_lt_of_cell? _ _ e94; have t94 : w.heap.size + 1 < w9.heap.size + 1 := Nat.lt_succ_of_lt s94; have s96 : w.heap.size + 1 + 1 < w9.heap.size := World.block_lt_of_cell? _ _ e96; have t96 : w.heap.size + 1 + 1 < w9.heap.size + 1 := Nat.lt_succ_of_lt s96; have y96 : w9.frozen? ⟨w.heap.size + 1 + 1, 0, none⟩ = false := frozen_on hb9 (v := .int .i64 0) (by first | (simp [go_sem, *]; done) | (simp [go_sem, World.cell?_alloc_some, *]; done) | fail) (by first | (simp [go_sem, *]; done) | (simp [go_sem, frozen?_alloc_cells, *]; done) | fail); have y97 : w9.frozen? ⟨w.heap.size + 1 + 1, 1, none⟩ = false := frozen_on hb9 (v := .int .u64 0) (by first | (simp [go_sem, *]; done) | (simp [go_sem, World.cell?_alloc_some, *]; done) | fail) (by first | (simp [go_sem, *]; done) | (simp [go_sem, frozen?_alloc_cells, *]; done) | fail)))
          all_goals
            go_wp2_with fail
            refine bodyPost_ret (v := .tuple #[Wv (told (sd (!(sn == sdd)) (q))), .int .i64 (over (sd (!(sn == sdd)) (q)))]) (by simp [results, Tryz.results69, go_sem, *]) rfl ⟨by rw [RD.out], ?_⟩
            repeat (first | exact Below.refl _ _ | assumption | apply Below.drew | refine Below.setCell ?_ (by first | omega | (simp; done) | (simp; omega)) _ | refine Below.alloc ?_ (by first | omega | (simp; done) | (simp; omega)) _ | refine Below.trans ?_ (hb9.mono (by first | omega | (simp; done) | (simp; omega))))
end Go.Proofs.YtmafgdinegboeaaGreat
namespace Go.Proofs.YtmafgdinegboeaaGreat
open Go.RowKit


/-- What Down's variables hold behind the division. -/
def DwnAt (w0 : World) (n d q r : Int) (p6 p7 : Nat) (w : World) : Prop :=
  w.cell? ⟨w0.heap.size, 0, none⟩ = some (.int .i64 (hi n)) ∧ w.cell? ⟨w0.heap.size, 1, none⟩ = some (.int .u64 (lo n)) ∧
  w.cell? ⟨w0.heap.size + 1, 0, none⟩ = some (.int .i64 (hi d)) ∧ w.cell? ⟨w0.heap.size + 1, 1, none⟩ = some (.int .u64 (lo d)) ∧
  w.cell? ⟨w0.heap.size + 1 + 1, 0, none⟩ = some (.int .i64 0) ∧ w.cell? ⟨w0.heap.size + 1 + 1, 1, none⟩ = some (.int .u64 0) ∧
  w.cell? ⟨p6, 0, none⟩ = some (.int .u64 (hi q)) ∧ w.cell? ⟨p6, 1, none⟩ = some (.int .u64 (lo q)) ∧
  w.cell? ⟨p7, 0, none⟩ = some (.int .u64 (hi r)) ∧ w.cell? ⟨p7, 1, none⟩ = some (.int .u64 (lo r)) ∧
  w.frozen? ⟨w0.heap.size + 1 + 1, 0, none⟩ = false ∧ w.frozen? ⟨w0.heap.size + 1 + 1, 1, none⟩ = false ∧
  w.frozen? ⟨p6, 0, none⟩ = false ∧ w.frozen? ⟨p6, 1, none⟩ = false ∧
  Below w0.heap.size w0 w ∧ w0.heap.size + 1 + 1 < p6
theorem DwnAt.below {w0 : World} {n d q r : Int} {p6 p7 : Nat} {W W' : World} (h : DwnAt w0 n d q r p6 p7 W) (hb : Below W.heap.size W W') : DwnAt w0 n d q r p6 p7 W' := by
  obtain ⟨c1, c2, c3, c4, c5, c6, c7, c8, c9, ca, f1, f2, f3, f4, b, z⟩ := h
  have hz : w0.heap.size < W.heap.size := World.block_lt_of_cell? W _ c1
  exact ⟨cell_on hb c1, cell_on hb c2, cell_on hb c3, cell_on hb c4, cell_on hb c5, cell_on hb c6, cell_on hb c7, cell_on hb c8, cell_on hb c9, cell_on hb ca, frozen_on hb c5 f1, frozen_on hb c6 f2, frozen_on hb c7 f3, frozen_on hb c8 f4, b.trans (hb.mono (by omega)), z⟩

end Go.Proofs.YtmafgdinegboeaaGreat
