/-
  Rounded quotients of words: they are words, but for one.
  Shifted and rounded back: whole numbers.
  Rounded quotients: of multiples, of negatives.
  The nearest whole number to a quotient, as the references reckon it.
  The document's own answer for package wide: the nearest quotient.
  The document's own answer for package wide: a wide number as a whole one.
-/
import Derived.Test.YteplhlmdaabpaaaGreatDoorM01
import Derived.Test.YteplhlmdaabpaaaGreatDoorM05
import Derived.Test.YteplhlmdaabpaaaGreatDoorM19
import Derived.Test.YteplhlmdaabpaaaGreatDoorM21
import Derived.Test.YteplhlmdaabpaaaGreatDoorM25
import Derived.Test.YteplhlmdaabpaaaGreatDoorM26
namespace Go.Proofs.YteplhlmdaabpaaaGreatDoor
open Go.RowKit

theorem sd_abs (s : Bool) (x : Int) : (sd s x).natAbs = x.natAbs := by cases s <;> simp [sd]
theorem ab_ab (d : Int) : ab (ab d) = ab d := by unfold ab; omega
theorem up_ab (n d : Int) : up n d = up n (ab d) := by unfold up; rw [ab_ab]
theorem rd_small {n d : Int} (hd : d ≠ 0) : (rd n d).natAbs ≤ n.natAbs := by
  have dp : 0 < ab d := by unfold ab; omega
  obtain ⟨q0, q1, q2⟩ := quo_small (n := n) dp
  have hu := up_rest (n := n) dp
  rw [← up_ab] at hu
  rw [ab_ab] at q0 q1 q2 hu
  unfold rd
  rw [sd_abs]
  have en : ab n = n.natAbs := rfl
  generalize ab n / ab d = q at *
  generalize ab n % ab d = r at *
  generalize ab n = A at *
  cases h : up n d with
  | true => have := q2 (hu h); simp only [if_true]; omega
  | false => simp only [Bool.false_eq_true, if_false]; omega
theorem rd_top {n d : Int} (h0 : -9223372036854775808 ≤ n) (h1 : n ≤ 9223372036854775807) (hd : d ≠ 0) (hs : isS (rd n d) = false) : n = -9223372036854775808 ∧ d = -1 := by
  have hs2 : ¬ (-9223372036854775808 ≤ rd n d ∧ rd n d ≤ 9223372036854775807) := by unfold isS at hs; exact of_decide_eq_false hs
  have sm := rd_small (n := n) hd
  have top : rd n d = 9223372036854775808 := by omega
  have hn : n = -9223372036854775808 := by omega
  refine ⟨hn, ?_⟩
  subst hn
  have dp : 0 < ab d := by unfold ab; omega
  have hu := up_rest (n := -9223372036854775808) dp
  rw [← up_ab, ab_ab] at hu
  have ea : ab (-9223372036854775808) = 9223372036854775808 := by decide
  unfold rd at top
  rw [ea] at top hu
  have nn : ng (-9223372036854775808) = true := by decide
  rw [nn] at top
  rcases (by omega : ab d = 1 ∨ 2 ≤ ab d) with h | h
  · rw [h, Int.ediv_one] at top
    rw [h, Int.emod_one] at hu
    cases hd2 : ng d with
    | true =>
      unfold ng at hd2
      have := of_decide_eq_true hd2
      unfold ab at h
      omega
    | false =>
      rw [hd2] at top
      cases hup : up (-9223372036854775808) d with
      | true => exact absurd rfl (hu hup)
      | false => rw [hup] at top; simp [sd] at top
  · have q1 : 9223372036854775808 / ab d ≤ 9223372036854775808 / 2 := by
      have r0 := Int.emod_nonneg 9223372036854775808 (show ab d ≠ 0 by omega)
      have e := Int.mul_ediv_add_emod 9223372036854775808 (ab d)
      have q0 : 0 ≤ 9223372036854775808 / ab d := Int.ediv_nonneg (by decide) (by omega)
      have : 2 * (9223372036854775808 / ab d) ≤ ab d * (9223372036854775808 / ab d) := Int.mul_le_mul_of_nonneg_right h q0
      omega
    have q0 : 0 ≤ 9223372036854775808 / ab d := Int.ediv_nonneg (by decide) (by omega)
    generalize 9223372036854775808 / ab d = q at *
    generalize (true != ng d) = s at *
    generalize up (-9223372036854775808) d = u at *
    cases s <;> cases u <;> simp [sd] at top <;> omega
end Go.Proofs.YteplhlmdaabpaaaGreatDoor
namespace Go.Proofs.YteplhlmdaabpaaaGreatDoor
open Go.RowKit

theorem ab_mul_pow (x : Int) (n : Nat) : ab (x * 2 ^ n) = ab x * 2 ^ n := by
  unfold ab
  rw [Int.natAbs_mul, Int.natCast_mul, Int.natAbs_pow]
  simp
theorem shift_back (x : Int) (n : Nat) : rd (x * 2 ^ n) (2 ^ n) = x ∧ dn (x * 2 ^ n) (2 ^ n) = x := by
  have hp : (0 : Int) < 2 ^ n := Int.pow_pos (by decide)
  have ep : ab (2 ^ n) = 2 ^ n := by unfold ab; omega
  have en : ng ((2 : Int) ^ n) = false := by unfold ng; exact decide_eq_false (by omega)
  have q : ab (x * 2 ^ n) / ab (2 ^ n) = ab x := by rw [ab_mul_pow, ep]; exact Int.mul_ediv_cancel _ (by omega)
  have r : ab (x * 2 ^ n) % ab (2 ^ n) = 0 := by rw [ab_mul_pow, ep]; exact Int.mul_emod_left _ _
  have u : up (x * 2 ^ n) (2 ^ n) = false := by
    cases h : up (x * 2 ^ n) (2 ^ n) with
    | false => rfl
    | true => exact absurd r (up_rest hp h)
  have sn : ng (x * 2 ^ n) = ng x := by
    unfold ng
    rw [Bool.eq_iff_iff]; simp only [decide_eq_true_eq]
    constructor
    · intro h
      rcases Int.lt_or_le x 0 with h1 | h1
      · exact h1
      · have := Int.mul_nonneg h1 (Int.le_of_lt hp); omega
    · intro h; exact Int.mul_neg_of_neg_of_pos h hp
  have fin : sd (ng x) (ab x) = x := by have := sd_ab x 1; simpa using this
  unfold rd dn
  rw [u, q, r, en, sn]
  simp [fin]
theorem small_shift {x : Int} (n : Nat) (h0 : -36028797018963968 ≤ x) (h1 : x ≤ 36028797018963967) (hn : n ≤ 59) : R x ∧ R (x * 2 ^ n) ∧ R ((2 : Int) ^ n) := by
  have hp : (0 : Int) < 2 ^ n := Int.pow_pos (by decide)
  have m := pow_mono hn
  have e : (2 : Int) ^ 59 = 576460752303423488 := by decide
  rw [e] at m
  have a1 : (x * 2 ^ n).natAbs ≤ 36028797018963968 * 576460752303423488 := by
    rw [Int.natAbs_mul]; exact Nat.mul_le_mul (by omega) (by omega)
  simp only [R_iff]
  omega
end Go.Proofs.YteplhlmdaabpaaaGreatDoor
namespace Go.Proofs.YteplhlmdaabpaaaGreatDoor
open Go.RowKit

theorem ab_mul (a b : Int) : ab (a * b) = ab a * ab b := by unfold ab; rw [Int.natAbs_mul]; rfl
theorem ng_mul_pos (a : Int) {k : Int} (hk : 0 < k) : ng (a * k) = ng a := by
  unfold ng
  rw [Bool.eq_iff_iff]; simp only [decide_eq_true_eq]
  constructor
  · intro h
    rcases Int.lt_or_le a 0 with h1 | h1
    · exact h1
    · have := Int.mul_nonneg h1 (Int.le_of_lt hk); omega
  · intro h; exact Int.mul_neg_of_neg_of_pos h hk
theorem sg_scale (a b : Int) {k : Int} (hk : 0 < k) : sg (a * k) (b * k) = sg a b := by
  rcases Int.lt_trichotomy a b with h | h | h
  · rw [sg_lt h, sg_lt (Int.mul_lt_mul_of_pos_right h hk)]
  · rw [h, sg_eq, sg_eq]
  · rw [sg_gt h, sg_gt (Int.mul_lt_mul_of_pos_right h hk)]
theorem rd_scale (n d : Int) {k : Int} (hk : 0 < k) : rd (n * k) (d * k) = rd n d := by
  have ek : ab k = k := by unfold ab; omega
  unfold rd up
  have er : ab n * k % (ab d * k) = (ab n % ab d) * k := by rw [Int.mul_comm (ab n) k, Int.mul_comm (ab d) k, Int.mul_emod_mul_of_pos _ _ hk, Int.mul_comm]
  rw [ab_mul, ab_mul, ng_mul_pos n hk, ng_mul_pos d hk, ek, Int.mul_ediv_mul_of_pos_left _ _ hk, er, ← Int.mul_assoc, sg_scale _ _ hk]
theorem tw_neg (q : Int) : tw (-q) = -tw q ∧ te (-q) = te q := by
  cases g : wd q with
  | true =>
    have h := wd_bd g
    have k : wd (-q) = true := wd_mk (by omega)
    rw [tw_in g, tw_in k, te_in g, te_in k]
    exact ⟨rfl, rfl⟩
  | false =>
    have h := wd_no g
    have k : wd (-q) = false := by
      unfold wd; simp only [decide_eq_false_iff_not]; omega
    rw [tw_out g, tw_out k, te_out g, te_out k]
    exact ⟨rfl, rfl⟩
theorem tw_bd (q : Int) : -140737488355328 < tw q ∧ tw q < 140737488355328 := wd_bd (wd_tw q)
end Go.Proofs.YteplhlmdaabpaaaGreatDoor
namespace Go.Proofs.YteplhlmdaabpaaaGreatDoor
open Go.RowKit

theorem ediv_is {x D t r : Int} (hD : 0 < D) (h : x = t * D + r) (h0 : 0 ≤ r) (h1 : r < D) : x / D = t := by
  rw [h, Int.add_comm, Int.add_mul_ediv_right _ _ (by omega), Int.ediv_eq_zero_of_lt h0 h1, Int.zero_add]
theorem dn_ediv (x : Int) {D : Int} (hD : 0 < D) : dn x D = x / D := by
  have eD : ab D = D := by unfold ab; omega
  have nD : ng D = false := by unfold ng; exact decide_eq_false (by omega)
  have e := Int.mul_ediv_add_emod (ab x) D
  have r0 := Int.emod_nonneg (ab x) (show D ≠ 0 by omega)
  have r1 := Int.emod_lt_of_pos (ab x) hD
  unfold dn
  rw [eD, nD]
  rcases Int.lt_or_le x 0 with h | h
  · have nx : ng x = true := by unfold ng; exact decide_eq_true h
    have ax : ab x = -x := by unfold ab; omega
    rw [nx]
    generalize ab x / D = q at *
    generalize ab x % D = r at *
    by_cases hr : r = 0
    · subst hr
      simp [sd]
      refine (ediv_is hD (r := 0) ?_ (by omega) hD).symm
      rw [Int.neg_mul, Int.mul_comm q]
      omega
    · have hb : (r == 0) = false := by rw [beq_eq_false_iff_ne]; exact hr
      rw [hb]
      simp [sd]
      refine (ediv_is hD (r := D - r) ?_ (by omega) (by omega)).symm
      rw [Int.neg_mul, Int.add_mul, Int.mul_comm q]
      omega
  · have nx : ng x = false := by unfold ng; exact decide_eq_false (by omega)
    have ax : ab x = x := by unfold ab; omega
    rw [nx, ax]
    simp [sd]
theorem nr_of {p : Int} {q : Nat} {t r : Int} (_hq : q ≠ 0) (h : p * 2 ^ 1 = t * q + r) (h0 : 0 ≤ r) (h1 : r < q) : nr p q = if t % 2 = 0 then t / 2 else if r ≠ 0 then t / 2 + 1 else if t / 2 % 2 = 0 then t / 2 else t / 2 + 1 := by
  have e : t2 p q = t := by
    unfold t2
    rw [dn_ediv _ (by omega : (0 : Int) < q)]
    exact ediv_is (by omega) h h0 h1
  unfold nr
  rw [e, h]
  have e2 : t * (q : Int) + r - t * q = r := by omega
  rw [e2]
  have p1 : (2 : Int) ^ 1 = 2 := by decide
  rw [p1]
  have c1 : (t / 2 * 2 = t) = (t % 2 = 0) := by apply propext; omega
  have c2 : (t / 2 / 2 * 2 = t / 2) = (t / 2 % 2 = 0) := by apply propext; omega
  simp only [c1, c2]
theorem nr_rd (m : Int) {D : Nat} (hD : D ≠ 0) : nr m D = rd m D := by
  have eD : ab (D : Int) = D := by unfold ab; omega
  have nD : ng (D : Int) = false := by unfold ng; exact decide_eq_false (by omega)
  have U := up_cases m D
  have e := Int.mul_ediv_add_emod (ab m) (D : Int)
  have r0 := Int.emod_nonneg (ab m) (show (D : Int) ≠ 0 by omega)
  have r1 := Int.emod_lt_of_pos (ab m) (show (0 : Int) < D by omega)
  have q0 : 0 ≤ ab m / D := Int.ediv_nonneg (by unfold ab; omega) (by omega)
  rw [eD] at U
  unfold rd
  rw [eD, nD]
  have p1 : (2 : Int) ^ 1 = 2 := by decide
  rcases Int.lt_or_le m 0 with h | h
  · have nx : ng m = true := by unfold ng; exact decide_eq_true h
    have ax : ab m = -m := by unfold ab; omega
    rw [nx]
    generalize ab m / D = q at *
    generalize ab m % D = r at *
    have f : ∀ c : Int, (-(2 * q) - c) * (D : Int) = -(2 * (D * q)) - c * D := fun c => by
      rw [Int.sub_mul, Int.neg_mul, Int.mul_assoc, Int.mul_comm q]
    rcases (by omega : r = 0 ∨ (0 < r ∧ 2 * r < D) ∨ 2 * r = D ∨ (D : Int) < 2 * r) with c | c | c | c
    · rw [nr_of (t := -(2 * q) - 0) (r := 0) hD (by rw [f, p1]; omega) (by omega) (by omega)]
      rcases U with ⟨u, hu⟩ | ⟨u, hu⟩ <;> rw [u] <;> simp [sd] <;> omega
    · rw [nr_of (t := -(2 * q) - 1) (r := D - 2 * r) hD (by rw [f, p1]; omega) (by omega) (by omega)]
      rcases U with ⟨u, hu⟩ | ⟨u, hu⟩ <;> rw [u] <;> simp [sd] <;> omega
    · rw [nr_of (t := -(2 * q) - 1) (r := 0) hD (by rw [f, p1]; omega) (by omega) (by omega)]
      rcases U with ⟨u, hu⟩ | ⟨u, hu⟩ <;> rw [u] <;> simp [sd] <;> omega
    · rw [nr_of (t := -(2 * q) - 2) (r := 2 * D - 2 * r) hD (by rw [f, p1]; omega) (by omega) (by omega)]
      rcases U with ⟨u, hu⟩ | ⟨u, hu⟩ <;> rw [u] <;> simp [sd] <;> omega
  · have nx : ng m = false := by unfold ng; exact decide_eq_false (by omega)
    have ax : ab m = m := by unfold ab; omega
    rw [nx]
    generalize ab m / D = q at *
    generalize ab m % D = r at *
    have f : ∀ c : Int, (2 * q + c) * (D : Int) = 2 * (D * q) + c * D := fun c => by
      rw [Int.add_mul, Int.mul_assoc, Int.mul_comm q]
    rcases (by omega : 2 * r < D ∨ 2 * r = D ∨ (D : Int) < 2 * r) with c | c | c
    · rw [nr_of (t := 2 * q + 0) (r := 2 * r) hD (by rw [f, p1]; omega) (by omega) (by omega)]
      rcases U with ⟨u, hu⟩ | ⟨u, hu⟩ <;> rw [u] <;> simp [sd] <;> omega
    · rw [nr_of (t := 2 * q + 1) (r := 0) hD (by rw [f, p1]; omega) (by omega) (by omega)]
      rcases U with ⟨u, hu⟩ | ⟨u, hu⟩ <;> rw [u] <;> simp [sd] <;> omega
    · rw [nr_of (t := 2 * q + 1) (r := 2 * r - D) hD (by rw [f, p1]; omega) (by omega) (by omega)]
      rcases U with ⟨u, hu⟩ | ⟨u, hu⟩ <;> rw [u] <;> simp [sd] <;> omega
theorem rd_flip (n : Int) {d : Int} (h : d < 0) : rd (-n) (-d) = rd n d := by
  have ea : ab (-n) = ab n := by unfold ab; omega
  have eb : ab (-d) = ab d := by unfold ab; omega
  have ed : ng d = true := by unfold ng; exact decide_eq_true h
  have ed2 : ng (-d) = false := by unfold ng; exact decide_eq_false (by omega)
  by_cases hn : n = 0
  · subst hn
    have z : ab 0 = 0 := rfl
    have dp : 0 < ab d := by unfold ab; omega
    unfold rd up
    rw [ea, eb, z, Int.zero_ediv, Int.zero_emod, Int.mul_zero, sg_lt dp]
    cases (ng (-d)) <;> cases (ng d) <;> simp [sd]
  · have en : ng (-n) = !ng n := by unfold ng; by_cases k : n < 0 <;> simp [k] <;> omega
    unfold rd up
    rw [ea, eb, en, ed, ed2]
    cases (ng n) <;> simp
theorem lowest (m : Int) {D : Nat} (hD : D ≠ 0) : nr (m.tdiv (Nat.gcd m.natAbs D : Nat)) (D / Nat.gcd m.natAbs D) = rd m D ∧ D / Nat.gcd m.natAbs D ≠ 0 := by
  have gp := Nat.gcd_pos_of_pos_right m.natAbs (Nat.pos_of_ne_zero hD)
  have d1 := Nat.gcd_dvd_left m.natAbs D
  have d2 := Nat.gcd_dvd_right m.natAbs D
  generalize Nat.gcd m.natAbs D = g at *
  obtain ⟨k, hk⟩ := d2
  have kp : k ≠ 0 := fun e => hD (by rw [hk, e, Nat.mul_zero])
  have e2 : D / g = k := by rw [hk, Nat.mul_div_cancel_left _ gp]
  have e1 : m.tdiv (g : Int) * g = m := Int.tdiv_mul_cancel (Int.ofNat_dvd_left.2 d1)
  rw [e2]
  refine ⟨?_, kp⟩
  rw [nr_rd _ kp, ← rd_scale _ _ (show (0 : Int) < g by omega), e1]
  congr 1
  rw [hk, Int.natCast_mul, Int.mul_comm]
end Go.Proofs.YteplhlmdaabpaaaGreatDoor
namespace Go.Proofs.YteplhlmdaabpaaaGreatDoor
open Go.RowKit

theorem IsI.al3 {w : World} {x : Value} {z : Int} (h : IsI w x z) (o : Obj) : IsI (w.alloc o) x z := h.below ((Below.refl _ _).alloc (Nat.le_refl _) _)
set_option maxRecDepth 100000 in
set_option maxHeartbeats 8000000 in
/-- Rat -/
theorem refrat_any (x y : Value) (a b : Int) (w : World) (ha : IsI w x a) (hb : IsI w y b) (ga : a.natAbs < MID) (gb : b.natAbs < MID) (h0 : b ≠ 0) : Calls Tryz.prog 54 #[x, y] w (SomeR w ((if b < 0 then -a else a).tdiv (Nat.gcd (if b < 0 then -a else a).natAbs b.natAbs : Nat)) (b.natAbs / Nat.gcd (if b < 0 then -a else a).natAbs b.natAbs)) := by
  obtain ⟨ba, oa, la, ca, rfl, Ha⟩ := ha.open
  obtain ⟨bb, ob, lb, cb, rfl, Hb⟩ := hb.open
  have G : Hid (a.natAbs < MID ∧ (-a).natAbs < MID ∧ b.natAbs < MID ∧ b.natAbs ≠ 0) := ⟨ga, by rw [Int.natAbs_neg]; exact ga, gb, by omega⟩
  clear ga gb h0 ha hb
  cases bb with
  | false =>
    have zp : ¬ b < 0 := by have := Hb.out.1; simp at this; omega
    rw [if_neg zp]
    clear zp
    go_enter Tryz.func54, Tryz.ntmps54
    go_wp2_with (first | (go_at_call 74; (with_reducible refine (make_any _ _ a b.natAbs _ ((IsI.mk Ha.out.1 Ha.out.2.1).below (by repeat (first | exact Below.refl _ _ | assumption | apply Below.drew | refine Below.setCell ?_ (by first | omega | (simp; done) | (simp; omega)) _ | refine Below.alloc ?_ (by first | omega | (simp; done) | (simp; omega)) _))) (Hb.out.2.1.below (by repeat (first | exact Below.refl _ _ | assumption | apply Below.drew | refine Below.setCell ?_ (by first | omega | (simp; done) | (simp; omega)) _ | refine Below.alloc ?_ (by first | omega | (simp; done) | (simp; omega)) _))) G.out.1 G.out.2.2.1 G.out.2.2.2).mono ?_); rintro e w1 ⟨bv, o1, l1, c1, o2, l2, c2, rfl, hv, hb1⟩; have e10 : w1.cell? ⟨w.heap.size, 0, none⟩ = some (.bool ba) := cell_on hb1 (by first | (simp [go_sem, *]; done) | (simp [go_sem, World.cell?_alloc_some, *]; done) | fail); have e11 : w1.cell? ⟨w.heap.size, 1, none⟩ = some (Value.slice oa la ca) := cell_on hb1 (by first | (simp [go_sem, *]; done) | (simp [go_sem, World.cell?_alloc_some, *]; done) | fail); have e12 : w1.cell? ⟨w.heap.size + 1, 0, none⟩ = some (.bool false) := cell_on hb1 (by first | (simp [go_sem, *]; done) | (simp [go_sem, World.cell?_alloc_some, *]; done) | fail); have e13 : w1.cell? ⟨w.heap.size + 1, 1, none⟩ = some (Value.slice ob lb cb) := cell_on hb1 (by first | (simp [go_sem, *]; done) | (simp [go_sem, World.cell?_alloc_some, *]; done) | fail); have e14 : w1.cell? ⟨w.heap.size + 2, 0, none⟩ = some (.bool false) := cell_on hb1 (by first | (simp [go_sem, *]; done) | (simp [go_sem, World.cell?_alloc_some, *]; done) | fail); have e15 : w1.cell? ⟨w.heap.size + 2, 1, none⟩ = some (.slice none 0 0) := cell_on hb1 (by first | (simp [go_sem, *]; done) | (simp [go_sem, World.cell?_alloc_some, *]; done) | fail); have e16 : w1.cell? ⟨w.heap.size + 2, 2, none⟩ = some (.slice none 0 0) := cell_on hb1 (by first | (simp [go_sem, *]; done) | (simp [go_sem, World.cell?_alloc_some, *]; done) | fail); have s10 : w.heap.size < w1.heap.size := World.block_lt_of_cell? _ _ e10; have t10 : w.heap.size < w1.heap.size + 1 := Nat.lt_succ_of_lt s10; have s12 : w.heap.size + 1 < w1.heap.size := World.block_lt_of_cell? _ _ e12; have t12 : w.heap.size + 1 < w1.heap.size + 1 := Nat.lt_succ_of_lt s12; have s14 : w.heap.size + 2 < w1.heap.size := World.block_lt_of_cell? _ _ e14; have t14 : w.heap.size + 2 < w1.heap.size + 1 := Nat.lt_succ_of_lt s14; have y14 : w1.frozen? ⟨w.heap.size + 2, 0, none⟩ = false := frozen_on hb1 (v := .bool false) (by first | (simp [go_sem, *]; done) | (simp [go_sem, World.cell?_alloc_some, *]; done) | fail) (by first | (simp [go_sem, *]; done) | (simp [go_sem, frozen?_alloc_cells, *]; done) | fail); have y15 : w1.frozen? ⟨w.heap.size + 2, 1, none⟩ = false := frozen_on hb1 (v := .slice none 0 0) (by first | (simp [go_sem, *]; done) | (simp [go_sem, World.cell?_alloc_some, *]; done) | fail) (by first | (simp [go_sem, *]; done) | (simp [go_sem, frozen?_alloc_cells, *]; done) | fail); have y16 : w1.frozen? ⟨w.heap.size + 2, 2, none⟩ = false := frozen_on hb1 (v := .slice none 0 0) (by first | (simp [go_sem, *]; done) | (simp [go_sem, World.cell?_alloc_some, *]; done) | fail) (by first | (simp [go_sem, *]; done) | (simp [go_sem, frozen?_alloc_cells, *]; done) | fail); have q1 := hb1.size; (try simp at q1)) | fail)
    refine bodyPost_ret (v := .agg #[.bool bv, .slice o1 l1 c1, .slice o2 l2 c2]) (by simp [results, Tryz.results54, go_sem, *]) rfl ⟨bv, o1, l1, c1, o2, l2, c2, rfl, ⟨hv.out.1, IsN.store3 hv.out.2.1 e14 e15 e16, IsN.store3 hv.out.2.2 e14 e15 e16⟩, ?_⟩
    repeat (first | exact Below.refl _ _ | assumption | apply Below.drew | refine Below.setCell ?_ (by first | omega | (simp; done) | (simp; omega)) _ | refine Below.alloc ?_ (by first | omega | (simp; done) | (simp; omega)) _ | refine Below.trans ?_ (hb1.mono (by first | omega | (simp; done) | (simp; omega))))
  | true =>
    have zn : b < 0 := by have := Hb.out.1; simpa using this.symm
    rw [if_pos zn]
    clear zn
    go_enter Tryz.func54, Tryz.ntmps54
    go_wp2_with (first | (go_at_call 30; (with_reducible refine (ineg_any _ a _ ((IsI.mk Ha.out.1 Ha.out.2.1).below (by repeat (first | exact Below.refl _ _ | assumption | apply Below.drew | refine Below.setCell ?_ (by first | omega | (simp; done) | (simp; omega)) _ | refine Below.alloc ?_ (by first | omega | (simp; done) | (simp; omega)) _)))).mono ?_); rintro e w1 ⟨vn, rfl, hv, hb1⟩; have e10 : w1.cell? ⟨w.heap.size, 0, none⟩ = some (.bool ba) := cell_on hb1 (by first | (simp [go_sem, *]; done) | (simp [go_sem, World.cell?_alloc_some, *]; done) | fail); have e11 : w1.cell? ⟨w.heap.size, 1, none⟩ = some (Value.slice oa la ca) := cell_on hb1 (by first | (simp [go_sem, *]; done) | (simp [go_sem, World.cell?_alloc_some, *]; done) | fail); have e12 : w1.cell? ⟨w.heap.size + 1, 0, none⟩ = some (.bool true) := cell_on hb1 (by first | (simp [go_sem, *]; done) | (simp [go_sem, World.cell?_alloc_some, *]; done) | fail); have e13 : w1.cell? ⟨w.heap.size + 1, 1, none⟩ = some (Value.slice ob lb cb) := cell_on hb1 (by first | (simp [go_sem, *]; done) | (simp [go_sem, World.cell?_alloc_some, *]; done) | fail); have e14 : w1.cell? ⟨w.heap.size + 2, 0, none⟩ = some (.bool false) := cell_on hb1 (by first | (simp [go_sem, *]; done) | (simp [go_sem, World.cell?_alloc_some, *]; done) | fail); have e15 : w1.cell? ⟨w.heap.size + 2, 1, none⟩ = some (.slice none 0 0) := cell_on hb1 (by first | (simp [go_sem, *]; done) | (simp [go_sem, World.cell?_alloc_some, *]; done) | fail); have e16 : w1.cell? ⟨w.heap.size + 2, 2, none⟩ = some (.slice none 0 0) := cell_on hb1 (by first | (simp [go_sem, *]; done) | (simp [go_sem, World.cell?_alloc_some, *]; done) | fail); have s10 : w.heap.size < w1.heap.size := World.block_lt_of_cell? _ _ e10; have t10 : w.heap.size < w1.heap.size + 1 := Nat.lt_succ_of_lt s10; have s12 : w.heap.size + 1 < w1.heap.size := World.block_lt_of_cell? _ _ e12; have t12 : w.heap.size + 1 < w1.heap.size + 1 := Nat.lt_succ_of_lt s12; have s14 : w.heap.size + 2 < w1.heap.size := World.block_lt_of_cell? _ _ e14; have t14 : w.heap.size + 2 < w1.heap.size + 1 := Nat.lt_succ_of_lt s14; have y10 : w1.frozen? ⟨w.heap.size, 0, none⟩ = false := frozen_on hb1 (v := .bool ba) (by first | (simp [go_sem, *]; done) | (simp [go_sem, World.cell?_alloc_some, *]; done) | fail) (by first | (simp [go_sem, *]; done) | (simp [go_sem, frozen?_alloc_cells, *]; done) | fail); have y11 : w1.frozen? ⟨w.heap.size, 1, none⟩ = false := frozen_on hb1 (v := Value.slice oa la ca) (by first | (simp [go_sem, *]; done) | (simp [go_sem, World.cell?_alloc_some, *]; done) | fail) (by first | (simp [go_sem, *]; done) | (simp [go_sem, frozen?_alloc_cells, *]; done) | fail); have y14 : w1.frozen? ⟨w.heap.size + 2, 0, none⟩ = false := frozen_on hb1 (v := .bool false) (by first | (simp [go_sem, *]; done) | (simp [go_sem, World.cell?_alloc_some, *]; done) | fail) (by first | (simp [go_sem, *]; done) | (simp [go_sem, frozen?_alloc_cells, *]; done) | fail); have y15 : w1.frozen? ⟨w.heap.size + 2, 1, none⟩ = false := frozen_on hb1 (v := .slice none 0 0) (by first | (simp [go_sem, *]; done) | (simp [go_sem, World.cell?_alloc_some, *]; done) | fail) (by first | (simp [go_sem, *]; done) | (simp [go_sem, frozen?_alloc_cells, *]; done) | fail); have y16 : w1.frozen? ⟨w.heap.size + 2, 2, none⟩ = false := frozen_on hb1 (v := .slice none 0 0) (by first | (simp [go_sem, *]; done) | (simp [go_sem, World.cell?_alloc_some, *]; done) | fail) (by first | (simp [go_sem, *]; done) | (simp [go_sem, frozen?_alloc_cells, *]; done) | fail); have q1 := hb1.size; (try simp at q1); obtain ⟨bn, on, ln, cn, rfl, Hn⟩ := hv.open; clear hv) | (go_at_call 74; (with_reducible refine (make_any _ _ (-a) b.natAbs _ (IsI.put (v0 := .bool ba) (v1 := .slice oa la ca) (IsI.mk Hn.out.1 Hn.out.2.1) e10 (by simp) e11 (by simp)) (Hb.out.2.1.below (by repeat (first | exact Below.refl _ _ | assumption | apply Below.drew | refine Below.setCell ?_ (by first | omega | (simp; done) | (simp; omega)) _ | refine Below.alloc ?_ (by first | omega | (simp; done) | (simp; omega)) _ | refine Below.trans ?_ (hb1.mono (by first | omega | (simp; done) | (simp; omega)))))) G.out.2.1 G.out.2.2.1 G.out.2.2.2).mono ?_); rintro e w2 ⟨bv, o1, l1, c1, o2, l2, c2, rfl, hv, hb2⟩; have e20 : w2.cell? ⟨w.heap.size + 2, 0, none⟩ = some (.bool false) := cell_on hb2 (by first | (simp [go_sem, *]; done) | (simp [go_sem, World.cell?_alloc_some, *]; done) | fail); have e21 : w2.cell? ⟨w.heap.size + 2, 1, none⟩ = some (.slice none 0 0) := cell_on hb2 (by first | (simp [go_sem, *]; done) | (simp [go_sem, World.cell?_alloc_some, *]; done) | fail); have e22 : w2.cell? ⟨w.heap.size + 2, 2, none⟩ = some (.slice none 0 0) := cell_on hb2 (by first | (simp [go_sem, *]; done) | (simp [go_sem, World.cell?_alloc_some, *]; done) | fail); have s20 : w.heap.size + 2 < w2.heap.size := World.block_lt_of_cell? _ _ e20; have t20 : w.heap.size + 2 < w2.heap.size + 1 := Nat.lt_succ_of_lt s20; have y20 : w2.frozen? ⟨w.heap.size + 2, 0, none⟩ = false := frozen_on hb2 (v := .bool false) (by first | (simp [go_sem, *]; done) | (simp [go_sem, World.cell?_alloc_some, *]; done) | fail) (by first | (simp [go_sem, *]; done) | (simp [go_sem, frozen?_alloc_cells, *]; done) | fail); have y21 : w2.frozen? ⟨w.heap.size + 2, 1, none⟩ = false := frozen_on hb2 (v := .slice none 0 0) (by first | (simp [go_sem, *]; done) | (simp [go_sem, World.cell?_alloc_some, *]; done) | fail) (by first | (simp [go_sem, *]; done) | (simp [go_sem, frozen?_alloc_cells, *]; done) | fail); have y22 : w2.frozen? ⟨w.heap.size + 2, 2, none⟩ = false := frozen_on hb2 (v := .slice none 0 0) (by first | (simp [go_sem, *]; done) | (simp [go_sem, World.cell?_alloc_some, *]; done) | fail) (by first | (simp [go_sem, *]; done) | (simp [go_sem, frozen?_alloc_cells, *]; done) | fail); have q2 := hb2.size; (try simp at q2)) | fail)
    refine bodyPost_ret (v := .agg #[.bool bv, .slice o1 l1 c1, .slice o2 l2 c2]) (by simp [results, Tryz.results54, go_sem, *]) rfl ⟨bv, o1, l1, c1, o2, l2, c2, rfl, ⟨hv.out.1, IsN.store3 hv.out.2.1 e20 e21 e22, IsN.store3 hv.out.2.2 e20 e21 e22⟩, ?_⟩
    repeat (first | exact Below.refl _ _ | assumption | apply Below.drew | refine Below.setCell ?_ (by first | omega | (simp; done) | (simp; omega)) _ | refine Below.alloc ?_ (by first | omega | (simp; done) | (simp; omega)) _ | refine Below.trans ?_ (hb2.mono (by first | omega | (simp; done) | (simp; omega))) | refine Below.trans ?_ (hb1.mono (by first | omega | (simp; done) | (simp; omega))))

theorem near_is (a : Int) {b : Int} (h0 : b ≠ 0) : nr ((if b < 0 then -a else a).tdiv (Nat.gcd (if b < 0 then -a else a).natAbs b.natAbs : Nat)) (b.natAbs / Nat.gcd (if b < 0 then -a else a).natAbs b.natAbs) = rd a b ∧ b.natAbs / Nat.gcd (if b < 0 then -a else a).natAbs b.natAbs ≠ 0 := by
  obtain ⟨h1, h2⟩ := lowest (if b < 0 then -a else a) (D := b.natAbs) (by omega)
  refine ⟨h1.trans ?_, h2⟩
  by_cases h : b < 0
  · rw [if_pos h]
    have e : ((b.natAbs : Nat) : Int) = -b := by omega
    rw [e]
    exact rd_flip a h
  · rw [if_neg h]
    have e : ((b.natAbs : Nat) : Int) = b := by omega
    rw [e]
theorem near_low {a b : Int} (ga : a.natAbs < LOW) (gb : b.natAbs < LOW) : ((if b < 0 then -a else a).tdiv (Nat.gcd (if b < 0 then -a else a).natAbs b.natAbs : Nat)).natAbs < LOW ∧ b.natAbs / Nat.gcd (if b < 0 then -a else a).natAbs b.natAbs < LOW := by
  refine ⟨?_, Nat.lt_of_le_of_lt (Nat.div_le_self _ _) gb⟩
  have e : (if b < 0 then -a else a).natAbs = a.natAbs := by split <;> simp
  refine Nat.lt_of_le_of_lt ?_ ga
  rw [Int.natAbs_tdiv, e]
  exact Nat.div_le_self _ _
end Go.Proofs.YteplhlmdaabpaaaGreatDoor
namespace Go.Proofs.YteplhlmdaabpaaaGreatDoor
open Go.RowKit

theorem ileft_64 (x : Value) (z : Int) (w : World) (h : IsI w x z) (gz : z.natAbs < BIG) : Calls Tryz.prog 24 #[x, .int .i64 64] w (SomeI w (z * 2 ^ 64)) := ileft_any x z 64 w h gz (by decide)
theorem iright_64 (x : Value) (z : Int) (w : World) (h : IsI w x z) (gz : z.natAbs < BIG) : Calls Tryz.prog 22 #[x, .int .i64 64] w (SomeI w (z / 2 ^ 64)) := iright_any x z 64 w h gz (by decide)
end Go.Proofs.YteplhlmdaabpaaaGreatDoor
