/-
  
  
  
  
  
  
-/
import Derived.Test.YtmafgdinegboeaaGreatM08
import Derived.Test.YtmafgdinegboeaaGreatM11
import Derived.Test.YtmafgdinegboeaaGreatM28
import Derived.Test.YtmafgdinegboeaaGreatM29
import Derived.Test.YtmafgdinegboeaaGreatM30
namespace Go.Proofs.YtmafgdinegboeaaGreat
open Go.RowKit

end Go.Proofs.YtmafgdinegboeaaGreat
namespace Go.Proofs.YtmafgdinegboeaaGreat
open Go.RowKit

theorem ab_mul (a b : Int) : ab (a * b) = ab a * ab b := by unfold ab; rw [Int.natAbs_mul]; rfl
theorem ng_mul_pos (a : Int) {k : Int} (hk : 0 < k) : ng (a * k) = ng a := by
  unfold ng
  rw [Bool.eq_iff_iff]; simp only [decide_eq_true_eq]
  constructor
  · intro h
    rcases Int.lt_or_le a 0 with h1 | h1
    · exact h1
    · have := Int.mul_nonneg h1 (Int.le_of_lt hk); omega
  · intro h; exact Int.mul_neg_of_neg_of_pos h hk
theorem sg_scale (a b : Int) {k : Int} (hk : 0 < k) : sg (a * k) (b * k) = sg a b := by
  rcases Int.lt_trichotomy a b with h | h | h
  · rw [sg_lt h, sg_lt (Int.mul_lt_mul_of_pos_right h hk)]
  · rw [h, sg_eq, sg_eq]
  · rw [sg_gt h, sg_gt (Int.mul_lt_mul_of_pos_right h hk)]
theorem rd_scale (n d : Int) {k : Int} (hk : 0 < k) : rd (n * k) (d * k) = rd n d := by
  have ek : ab k = k := by unfold ab; omega
  unfold rd up
  have er : ab n * k % (ab d * k) = (ab n % ab d) * k := by rw [Int.mul_comm (ab n) k, Int.mul_comm (ab d) k, Int.mul_emod_mul_of_pos _ _ hk, Int.mul_comm]
  rw [ab_mul, ab_mul, ng_mul_pos n hk, ng_mul_pos d hk, ek, Int.mul_ediv_mul_of_pos_left _ _ hk, er, ← Int.mul_assoc, sg_scale _ _ hk]
end Go.Proofs.YtmafgdinegboeaaGreat
namespace Go.Proofs.YtmafgdinegboeaaGreat
open Go.RowKit

theorem ediv_is {x D t r : Int} (hD : 0 < D) (h : x = t * D + r) (h0 : 0 ≤ r) (h1 : r < D) : x / D = t := by
  rw [h, Int.add_comm, Int.add_mul_ediv_right _ _ (by omega), Int.ediv_eq_zero_of_lt h0 h1, Int.zero_add]
theorem dn_ediv (x : Int) {D : Int} (hD : 0 < D) : dn x D = x / D := by
  have eD : ab D = D := by unfold ab; omega
  have nD : ng D = false := by unfold ng; exact decide_eq_false (by omega)
  have e := Int.mul_ediv_add_emod (ab x) D
  have r0 := Int.emod_nonneg (ab x) (show D ≠ 0 by omega)
  have r1 := Int.emod_lt_of_pos (ab x) hD
  unfold dn
  rw [eD, nD]
  rcases Int.lt_or_le x 0 with h | h
  · have nx : ng x = true := by unfold ng; exact decide_eq_true h
    have ax : ab x = -x := by unfold ab; omega
    rw [nx]
    generalize ab x / D = q at *
    generalize ab x % D = r at *
    by_cases hr : r = 0
    · subst hr
      simp [sd]
      refine (ediv_is hD (r := 0) ?_ (by omega) hD).symm
      rw [Int.neg_mul, Int.mul_comm q]
      omega
    · have hb : (r == 0) = false := by rw [beq_eq_false_iff_ne]; exact hr
      rw [hb]
      simp [sd]
      refine (ediv_is hD (r := D - r) ?_ (by omega) (by omega)).symm
      rw [Int.neg_mul, Int.add_mul, Int.mul_comm q]
      omega
  · have nx : ng x = false := by unfold ng; exact decide_eq_false (by omega)
    have ax : ab x = x := by unfold ab; omega
    rw [nx, ax]
    simp [sd]
theorem nr_of {p : Int} {q : Nat} {t r : Int} (_hq : q ≠ 0) (h : p * 2 ^ 1 = t * q + r) (h0 : 0 ≤ r) (h1 : r < q) : nr p q = if t % 2 = 0 then t / 2 else if r ≠ 0 then t / 2 + 1 else if t / 2 % 2 = 0 then t / 2 else t / 2 + 1 := by
  have e : t2 p q = t := by
    unfold t2
    rw [dn_ediv _ (by omega : (0 : Int) < q)]
    exact ediv_is (by omega) h h0 h1
  unfold nr
  rw [e, h]
  have e2 : t * (q : Int) + r - t * q = r := by omega
  rw [e2]
  have p1 : (2 : Int) ^ 1 = 2 := by decide
  rw [p1]
  have c1 : (t / 2 * 2 = t) = (t % 2 = 0) := by apply propext; omega
  have c2 : (t / 2 / 2 * 2 = t / 2) = (t / 2 % 2 = 0) := by apply propext; omega
  simp only [c1, c2]
theorem nr_rd (m : Int) {D : Nat} (hD : D ≠ 0) : nr m D = rd m D := by
  have eD : ab (D : Int) = D := by unfold ab; omega
  have nD : ng (D : Int) = false := by unfold ng; exact decide_eq_false (by omega)
  have U := up_cases m D
  have e := Int.mul_ediv_add_emod (ab m) (D : Int)
  have r0 := Int.emod_nonneg (ab m) (show (D : Int) ≠ 0 by omega)
  have r1 := Int.emod_lt_of_pos (ab m) (show (0 : Int) < D by omega)
  have q0 : 0 ≤ ab m / D := Int.ediv_nonneg (by unfold ab; omega) (by omega)
  rw [eD] at U
  unfold rd
  rw [eD, nD]
  have p1 : (2 : Int) ^ 1 = 2 := by decide
  rcases Int.lt_or_le m 0 with h | h
  · have nx : ng m = true := by unfold ng; exact decide_eq_true h
    have ax : ab m = -m := by unfold ab; omega
    rw [nx]
    generalize ab m / D = q at *
    generalize ab m % D = r at *
    have f : ∀ c : Int, (-(2 * q) - c) * (D : Int) = -(2 * (D * q)) - c * D := fun c => by
      rw [Int.sub_mul, Int.neg_mul, Int.mul_assoc, Int.mul_comm q]
    rcases (by omega : r = 0 ∨ (0 < r ∧ 2 * r < D) ∨ 2 * r = D ∨ (D : Int) < 2 * r) with c | c | c | c
    · rw [nr_of (t := -(2 * q) - 0) (r := 0) hD (by rw [f, p1]; omega) (by omega) (by omega)]
      rcases U with ⟨u, hu⟩ | ⟨u, hu⟩ <;> rw [u] <;> simp [sd] <;> omega
    · rw [nr_of (t := -(2 * q) - 1) (r := D - 2 * r) hD (by rw [f, p1]; omega) (by omega) (by omega)]
      rcases U with ⟨u, hu⟩ | ⟨u, hu⟩ <;> rw [u] <;> simp [sd] <;> omega
    · rw [nr_of (t := -(2 * q) - 1) (r := 0) hD (by rw [f, p1]; omega) (by omega) (by omega)]
      rcases U with ⟨u, hu⟩ | ⟨u, hu⟩ <;> rw [u] <;> simp [sd] <;> omega
    · rw [nr_of (t := -(2 * q) - 2) (r := 2 * D - 2 * r) hD (by rw [f, p1]; omega) (by omega) (by omega)]
      rcases U with ⟨u, hu⟩ | ⟨u, hu⟩ <;> rw [u] <;> simp [sd] <;> omega
  · have nx : ng m = false := by unfold ng; exact decide_eq_false (by omega)
    have ax : ab m = m := by unfold ab; omega
    rw [nx]
    generalize ab m / D = q at *
    generalize ab m % D = r at *
    have f : ∀ c : Int, (2 * q + c) * (D : Int) = 2 * (D * q) + c * D := fun c => by
      rw [Int.add_mul, Int.mul_assoc, Int.mul_comm q]
    rcases (by omega : 2 * r < D ∨ 2 * r = D ∨ (D : Int) < 2 * r) with c | c | c
    · rw [nr_of (t := 2 * q + 0) (r := 2 * r) hD (by rw [f, p1]; omega) (by omega) (by omega)]
      rcases U with ⟨u, hu⟩ | ⟨u, hu⟩ <;> rw [u] <;> simp [sd] <;> omega
    · rw [nr_of (t := 2 * q + 1) (r := 0) hD (by rw [f, p1]; omega) (by omega) (by omega)]
      rcases U with ⟨u, hu⟩ | ⟨u, hu⟩ <;> rw [u] <;> simp [sd] <;> omega
    · rw [nr_of (t := 2 * q + 1) (r := 2 * r - D) hD (by rw [f, p1]; omega) (by omega) (by omega)]
      rcases U with ⟨u, hu⟩ | ⟨u, hu⟩ <;> rw [u] <;> simp [sd] <;> omega
theorem lowest (m : Int) {D : Nat} (hD : D ≠ 0) : nr (m.tdiv (Nat.gcd m.natAbs D : Nat)) (D / Nat.gcd m.natAbs D) = rd m D ∧ D / Nat.gcd m.natAbs D ≠ 0 := by
  have gp := Nat.gcd_pos_of_pos_right m.natAbs (Nat.pos_of_ne_zero hD)
  have d1 := Nat.gcd_dvd_left m.natAbs D
  have d2 := Nat.gcd_dvd_right m.natAbs D
  generalize Nat.gcd m.natAbs D = g at *
  obtain ⟨k, hk⟩ := d2
  have kp : k ≠ 0 := fun e => hD (by rw [hk, e, Nat.mul_zero])
  have e2 : D / g = k := by rw [hk, Nat.mul_div_cancel_left _ gp]
  have e1 : m.tdiv (g : Int) * g = m := Int.tdiv_mul_cancel (Int.ofNat_dvd_left.2 d1)
  rw [e2]
  refine ⟨?_, kp⟩
  rw [nr_rd _ kp, ← rd_scale _ _ (show (0 : Int) < g by omega), e1]
  congr 1
  rw [hk, Int.natCast_mul, Int.mul_comm]
end Go.Proofs.YtmafgdinegboeaaGreat
namespace Go.Proofs.YtmafgdinegboeaaGreat
open Go.RowKit

end Go.Proofs.YtmafgdinegboeaaGreat
namespace Go.Proofs.YtmafgdinegboeaaGreat
open Go.RowKit

end Go.Proofs.YtmafgdinegboeaaGreat
namespace Go.Proofs.YtmafgdinegboeaaGreat
open Go.RowKit

set_option maxRecDepth 100000 in
set_option maxHeartbeats 8000000 in
theorem mayf_any (f : Int) (w : World) : Calls Tryz.prog 27 #[.int .i64 f] w fun e w' => e = .returned (.bool (fb f)) ∧ w = w' := by
  cases g : fb f with
  | true =>
    obtain ⟨g1, g2⟩ := fb_bd g
    clear g
    go_enter Tryz.func27, Tryz.ntmps27
    go_wp2
    go_ret
    exact ⟨rfl, rfl⟩
  | false =>
    have h := fb_no g
    clear g
    by_cases g1 : f < 8
    · clear h
      go_enter Tryz.func27, Tryz.ntmps27
      go_wp2
      go_ret
      exact ⟨rfl, rfl⟩
    · have g2 : ¬ f ≤ 32 := by omega
      have g3 : 8 ≤ f := by omega
      clear h g1
      go_enter Tryz.func27, Tryz.ntmps27
      go_wp2
      go_ret
      exact ⟨rfl, rfl⟩
set_option maxRecDepth 100000 in
set_option maxHeartbeats 8000000 in
theorem r2word_any (x : Value) (z : Int) (w : World) (h : IsI w x z) : Calls Tryz.prog 117 #[x] w fun e w' => e = .returned (.tuple #[.int .i64 (tw z), .int .i64 (te z)]) ∧ Below w.heap.size w w' := by
  obtain ⟨bn, on, ln, cn, rfl, Hn⟩ := h.open
  clear h
  have SC := Lib.hid (fun (W : World) (h : IsI W (Iv bn (.slice on ln cn)) z) => ismall_any _ z W h)
  cases g : isS z with
  | false =>
    have gw : wd z = false := by
      have := isS_no g
      unfold wd; simp only [decide_eq_false_iff_not]; omega
    have H := Lib.hid (And.intro (tw_out gw) (te_out gw))
    have SC := fun (W : World) (h : IsI W (Iv bn (.slice on ln cn)) z) => SC.out W h
    rw [g] at SC
    have SC := Lib.hid SC
    clear g gw
    go_enter Tryz.func117, Tryz.ntmps117
    go_wp2_with (go_at_call 172; (with_reducible refine (SC.out _ ((IsI.mk Hn.out.1 Hn.out.2.1).below (by repeat (first | exact Below.refl _ _ | assumption | apply Below.drew | refine Below.setCell ?_ (by first | omega | (simp; done) | (simp; omega)) _ | refine Below.alloc ?_ (by first | omega | (simp; done) | (simp; omega)) _)))).mono ?_); rintro e w1 ⟨rfl, hb1⟩; have e10 : w1.cell? ⟨w.heap.size, 0, none⟩ = some (.bool bn) := cell_on hb1; have e11 : w1.cell? ⟨w.heap.size, 1, none⟩ = some (Value.slice on ln cn) := cell_on hb1; have s10 : w.heap.size < w1.heap.size := World.block_lt_of_cell? _ _ e10; have t10 : w.heap.size < w1.heap.size + 1 := Nat.lt_succ_of_lt s10; have q1 := hb1.size; (try simp at q1))
    go_ret2
    refine ⟨by rw [H.out.1, H.out.2] <;> rfl, ?_⟩
    repeat (first | exact Below.refl _ _ | assumption | apply Below.drew | refine Below.setCell ?_ (by first | omega | (simp; done) | (simp; omega)) _ | refine Below.alloc ?_ (by first | omega | (simp; done) | (simp; omega)) _ | refine Below.trans ?_ (hb1.mono (by first | omega | (simp; done) | (simp; omega))))
  | true =>
    have SC := fun (W : World) (h : IsI W (Iv bn (.slice on ln cn)) z) => SC.out W h
    rw [g, show sm z = z from if_pos g] at SC
    have SC := Lib.hid SC
    have MC := fun W : World => may_any z W
    cases gw : wd z with
    | true =>
      have H := Lib.hid (And.intro (tw_in gw) (te_in gw))
      rw [gw] at MC
      have MC := Lib.hid MC
      clear g gw
      go_enter Tryz.func117, Tryz.ntmps117
      go_wp2_with (first | (go_at_call 172; (with_reducible refine (SC.out _ ((IsI.mk Hn.out.1 Hn.out.2.1).below (by repeat (first | exact Below.refl _ _ | assumption | apply Below.drew | refine Below.setCell ?_ (by first | omega | (simp; done) | (simp; omega)) _ | refine Below.alloc ?_ (by first | omega | (simp; done) | (simp; omega)) _)))).mono ?_); rintro e w1 ⟨rfl, hb1⟩; have e10 : w1.cell? ⟨w.heap.size, 0, none⟩ = some (.bool bn) := cell_on hb1; have e11 : w1.cell? ⟨w.heap.size, 1, none⟩ = some (Value.slice on ln cn) := cell_on hb1; have s10 : w.heap.size < w1.heap.size := World.block_lt_of_cell? _ _ e10; have t10 : w.heap.size < w1.heap.size + 1 := Nat.lt_succ_of_lt s10; have q1 := hb1.size; (try simp at q1)) | (go_at_call 110; (with_reducible refine (MC.out _).mono ?_); rintro e w' ⟨rfl, rfl⟩))
      go_ret2
      refine ⟨by rw [H.out.1, H.out.2] <;> rfl, ?_⟩
      repeat (first | exact Below.refl _ _ | assumption | apply Below.drew | refine Below.setCell ?_ (by first | omega | (simp; done) | (simp; omega)) _ | refine Below.alloc ?_ (by first | omega | (simp; done) | (simp; omega)) _ | refine Below.trans ?_ (hb1.mono (by first | omega | (simp; done) | (simp; omega))))
    | false =>
      have H := Lib.hid (And.intro (tw_out gw) (te_out gw))
      rw [gw] at MC
      have MC := Lib.hid MC
      clear g gw
      go_enter Tryz.func117, Tryz.ntmps117
      go_wp2_with (first | (go_at_call 172; (with_reducible refine (SC.out _ ((IsI.mk Hn.out.1 Hn.out.2.1).below (by repeat (first | exact Below.refl _ _ | assumption | apply Below.drew | refine Below.setCell ?_ (by first | omega | (simp; done) | (simp; omega)) _ | refine Below.alloc ?_ (by first | omega | (simp; done) | (simp; omega)) _)))).mono ?_); rintro e w1 ⟨rfl, hb1⟩; have e10 : w1.cell? ⟨w.heap.size, 0, none⟩ = some (.bool bn) := cell_on hb1; have e11 : w1.cell? ⟨w.heap.size, 1, none⟩ = some (Value.slice on ln cn) := cell_on hb1; have s10 : w.heap.size < w1.heap.size := World.block_lt_of_cell? _ _ e10; have t10 : w.heap.size < w1.heap.size + 1 := Nat.lt_succ_of_lt s10; have q1 := hb1.size; (try simp at q1)) | (go_at_call 110; (with_reducible refine (MC.out _).mono ?_); rintro e w' ⟨rfl, rfl⟩))
      go_ret2
      refine ⟨by rw [H.out.1, H.out.2] <;> rfl, ?_⟩
      repeat (first | exact Below.refl _ _ | assumption | apply Below.drew | refine Below.setCell ?_ (by first | omega | (simp; done) | (simp; omega)) _ | refine Below.alloc ?_ (by first | omega | (simp; done) | (simp; omega)) _ | refine Below.trans ?_ (hb1.mono (by first | omega | (simp; done) | (simp; omega))))
set_option maxRecDepth 100000 in
set_option maxHeartbeats 8000000 in
theorem r2near_any (bv : Bool) (o1 o2 : Option Addr) (l1 c1 l2 c2 : Nat) (p : Int) (q : Nat) (z : Int) (w : World) (h : bv = decide (p < 0) ∧ IsN w (.slice o1 l1 c1) p.natAbs ∧ IsN w (.slice o2 l2 c2) q) (gp : p.natAbs < LOW) (gq : q < LOW) (hq : q ≠ 0) (hz : nr p q = z) : Calls Tryz.prog 55 #[Rv bv (.slice o1 l1 c1) (.slice o2 l2 c2)] w fun e w' => e = .returned (.tuple #[.int .i64 (tw z), .int .i64 (te z)]) ∧ Below w.heap.size w w' := by
  subst hz
  have hv := Lib.hid h
  have G := Lib.hid (And.intro gp (And.intro gq hq))
  clear h gp gq hq
  generalize hm : nr p q = z at *
  have NC : Hid (∀ W : World, IsN W (.slice o1 l1 c1) p.natAbs → IsN W (.slice o2 l2 c2) q → Calls Tryz.prog 118 #[Rv bv (.slice o1 l1 c1) (.slice o2 l2 c2)] W (SomeI W z)) := fun W h1 h2 => by rw [← hm]; exact near_rat bv o1 o2 l1 c1 l2 c2 p q W hv.out.1 h1 h2 G.out.1 G.out.2.1 G.out.2.2
  clear hm
  go_enter Tryz.func55, Tryz.ntmps55
  go_wp2_with (first | (go_at_call 118; (with_reducible refine (NC.out _ (hv.out.2.1.below (by repeat (first | exact Below.refl _ _ | assumption | apply Below.drew | refine Below.setCell ?_ (by first | omega | (simp; done) | (simp; omega)) _ | refine Below.alloc ?_ (by first | omega | (simp; done) | (simp; omega)) _))) (hv.out.2.2.below (by repeat (first | exact Below.refl _ _ | assumption | apply Below.drew | refine Below.setCell ?_ (by first | omega | (simp; done) | (simp; omega)) _ | refine Below.alloc ?_ (by first | omega | (simp; done) | (simp; omega)) _)))).mono ?_); rintro e w1 ⟨vn, rfl, hv, hb1⟩; have q1 := hb1.size; (try simp at q1); obtain ⟨bn, on, ln, cn, rfl, Hn⟩ := hv.open; clear hv) | (go_at_call 117; (with_reducible refine (r2word_any _ z _ ((IsI.mk Hn.out.1 Hn.out.2.1).below (by repeat (first | exact Below.refl _ _ | assumption | apply Below.drew | refine Below.setCell ?_ (by first | omega | (simp; done) | (simp; omega)) _ | refine Below.alloc ?_ (by first | omega | (simp; done) | (simp; omega)) _)))).mono ?_); rintro e w2 ⟨rfl, hb2⟩; have q2 := hb2.size; (try simp at q2)))
  go_ret2
  refine ⟨rfl, ?_⟩
  repeat (first | exact Below.refl _ _ | assumption | apply Below.drew | refine Below.setCell ?_ (by first | omega | (simp; done) | (simp; omega)) _ | refine Below.alloc ?_ (by first | omega | (simp; done) | (simp; omega)) _ | refine Below.trans ?_ (hb2.mono (by first | omega | (simp; done) | (simp; omega))) | refine Below.trans ?_ (hb1.mono (by first | omega | (simp; done) | (simp; omega))))
theorem low_tdiv {m : Int} {D : Nat} (gm : m.natAbs < LOW) (gD : D < LOW) : (m.tdiv (Nat.gcd m.natAbs D : Nat)).natAbs < LOW ∧ D / Nat.gcd m.natAbs D < LOW := by
  refine ⟨?_, Nat.lt_of_le_of_lt (Nat.div_le_self _ _) gD⟩
  rw [Int.natAbs_tdiv]
  exact Nat.lt_of_le_of_lt (Nat.div_le_self _ _) gm
theorem pow_quo (m : Int) (f : Nat) (gm : m.natAbs < LOW) (hf : f ≤ 126) : ∃ (p : Int) (q : Nat), p = m.tdiv (Nat.gcd m.natAbs (1 * 2 ^ f) : Nat) ∧ q = (1 * 2 ^ f) / Nat.gcd m.natAbs (1 * 2 ^ f) ∧ nr p q = rd m (2 ^ f) ∧ q ≠ 0 ∧ p.natAbs < LOW ∧ q < LOW ∧ m.natAbs < MID ∧ 1 * 2 ^ f < MID ∧ 1 * 2 ^ f ≠ 0 := by
  have h0 : 1 * 2 ^ f ≠ 0 := by have := Nat.two_pow_pos f; omega
  have gD : 1 * 2 ^ f < LOW := low_of (k := 127) (by rw [Nat.one_mul]; exact Nat.pow_lt_pow_right (by decide) (by omega)) (by decide)
  obtain ⟨h1, h2⟩ := lowest m h0
  have e : ((1 * 2 ^ f : Nat) : Int) = 2 ^ f := by rw [Nat.one_mul]; simp
  rw [e] at h1
  exact ⟨_, _, rfl, rfl, h1, h2, (low_tdiv gm gD).1, (low_tdiv gm gD).2, (low_big gm).2.2.2.1, (low_big gD).2.2.2.1, h0⟩
end Go.Proofs.YtmafgdinegboeaaGreat
