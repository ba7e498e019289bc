/-
  Package root: roots and reciprocal roots, said of whole numbers.
-/
import Derived.Test.YtkpkejccphpkpaaRootA
import Derived.Test.YtkpkejccphpkpaaFxC
namespace Go.Proofs.Ytkpkejccphpkpaa
open Go.RowKit

theorem rt_up (k : Nat) : ∃ s, Rt (k : Int) s := by
  induction k with
  | zero => exact ⟨0, by decide, by decide, by decide⟩
  | succ k ih =>
    obtain ⟨s, h0, h1, h2⟩ := ih
    have e := sq_succ (s + 1)
    by_cases g : (k : Int) + 1 < (s + 1) * (s + 1)
    · exact ⟨s, h0, by omega, by omega⟩
    · exact ⟨s + 1, by omega, by omega, by omega⟩
theorem rt_ex {n : Int} (h : 0 ≤ n) : ∃ s, Rt n s := by
  obtain ⟨k, rfl⟩ := Int.eq_ofNat_of_zero_le h
  exact rt_up k
theorem nr_ex {n : Int} (h : 0 ≤ n) : ∃ r, Nr n r := by
  obtain ⟨s, hs⟩ := rt_ex h
  exact ⟨_, nr_last hs⟩
theorem root_is (n s : Int) (w : World) (h : n < 633825300114114700748351602688) (hs : Rt n s) : Calls Try.prog 135 #[Wv n] w fun e w' => e = .returned (.int .i64 s) ∧ Below w.heap.size w w' := by
  have h0 : 0 ≤ n := Int.le_trans (Int.mul_nonneg hs.1 hs.1) hs.2.1
  refine (root_any n w h0 h).mono ?_
  rintro e w' ⟨⟨t, rfl, ht⟩, hb⟩
  exact ⟨by rw [rt_same hs ht], hb⟩
set_option maxRecDepth 100000 in
set_option maxHeartbeats 4000000 in
theorem nearest_any (n r : Int) (w : World) (h0 : 0 ≤ n) (h : n < 633825300114114700748351602688) (hr : Nr n r) : Calls Try.prog 122 #[Wv n] w fun e w' => e = .returned (.int .i64 r) ∧ Below w.heap.size w w' := by
  obtain ⟨s, hs⟩ := rt_ex h0
  have er := nr_same hr (nr_last hs)
  have s0 := hs.1
  have s1 : s ≤ 1125899906842624 := by
    have := sq_lt (a := s) (b := 1125899906842624) (by decide) (by have := hs.2.1; omega)
    omega
  have RC := Lib.hid (fun W : World => root_is n s W h hs)
  clear hs hr h h0
  obtain ⟨k, hk⟩ : ∃ k, k = s / 2 := ⟨_, rfl⟩
  rw [← hk] at er
  have k0 : 0 ≤ k := by omega
  have k1 : k ≤ 562949953421312 := by omega
  have et : s.tdiv 2 = k := by rw [hk]; exact Int.tdiv_eq_ediv_of_nonneg s0
  have ek : wrap64 k = k := IntWalk.wrap64_in _ ⟨by omega, by omega⟩
  have e1 : wrap64 (2 * k) = 2 * k := IntWalk.wrap64_in _ ⟨by omega, by omega⟩
  have e2 : wrap64 (2 * k + 1) = 2 * k + 1 := IntWalk.wrap64_in _ ⟨by omega, by omega⟩
  have i1 : IntKind.i64.wrap (2 * k) = 2 * k := by have := IntWalk.i64_in (2 * k) ⟨by omega, by omega⟩; exact this
  have i2 : IntKind.i64.wrap (2 * k + 1) = 2 * k + 1 := by have := IntWalk.i64_in (2 * k + 1) ⟨by omega, by omega⟩; exact this
  have e3 : wrap64 (k + 1) = k + 1 := IntWalk.wrap64_in _ ⟨by omega, by omega⟩
  have MC := Lib.hid (fun W : World => mul_any (2 * k + 1) (2 * k + 1) W (by omega) (by omega) (by omega) (by omega))
  clear hk s0 s1 k0 k1
  obtain ⟨m, hm⟩ : ∃ m, m = (2 * k + 1) * (2 * k + 1) := ⟨_, rfl⟩
  rw [← hm] at MC er
  clear hm
  have CC := fun W : World => cmp_any n m W
  by_cases g : m < n
  · rw [sg_gt g] at CC
    have CC := Lib.hid CC
    rw [if_pos g] at er
    clear g
    go_enter Try.func122, Try.ntmps122
    go_wp2_with (go_at_call 135; (with_reducible refine (RC.out _).mono ?_); rintro e w1 ⟨rfl, hb1⟩; have e10 : w1.cell? ⟨w.heap.size, 0, none⟩ = some (.int .i64 (hi n)) := cell_on hb1 (by first | (simp [go_sem, *]; done) | (simp [go_sem, World.cell?_alloc_some, *]; done) | fail); have e11 : w1.cell? ⟨w.heap.size, 1, none⟩ = some (.int .u64 (lo n)) := cell_on hb1 (by first | (simp [go_sem, *]; done) | (simp [go_sem, World.cell?_alloc_some, *]; done) | fail); have s10 : w.heap.size < w1.heap.size := World.block_lt_of_cell? _ _ e10; have t10 : w.heap.size < w1.heap.size + 1 := Nat.lt_succ_of_lt s10; have q1 := hb1.size; (try simp at q1))
    go_region_held3 (fun w' => w'.cell? ⟨w.heap.size, 0, none⟩ = some (.int .i64 (hi n)) ∧ w'.cell? ⟨w.heap.size, 1, none⟩ = some (.int .u64 (lo n))) (first | (simp [go_sem, *]; done) | (simp [go_sem, World.cell?_alloc_some, *]; done)) (first | (go_at_call 82; (try rw [i1, i2]); (with_reducible refine (MC.out _).mono ?_); rintro e w' ⟨rfl, rfl⟩) | (go_at_call 103; (with_reducible refine (CC.out _).mono ?_); rintro e w2 ⟨rfl, hb2⟩; have e20 : w2.cell? ⟨w.heap.size, 0, none⟩ = some (.int .i64 (hi n)) := cell_on hb2 (by first | (simp [go_sem, *]; done) | (simp [go_sem, World.cell?_alloc_some, *]; done) | fail); have e21 : w2.cell? ⟨w.heap.size, 1, none⟩ = some (.int .u64 (lo n)) := cell_on hb2 (by first | (simp [go_sem, *]; done) | (simp [go_sem, World.cell?_alloc_some, *]; done) | fail); have s20 : w.heap.size < w2.heap.size := World.block_lt_of_cell? _ _ e20; have t20 : w.heap.size < w2.heap.size + 1 := Nat.lt_succ_of_lt s20; have q2 := hb2.size; (try simp at q2)))
    all_goals
      go_wp2_with fail
      go_ret
      refine ⟨by rw [er]; first | rfl | (rw [e3]; rfl), ?_⟩
      repeat (first | exact Below.refl _ _ | assumption | apply Below.drew | refine Below.setCell ?_ (by first | omega | (simp; done) | (simp; omega)) _ | refine Below.alloc ?_ (by first | omega | (simp; done) | (simp; omega)) _ | refine Below.trans ?_ (hb2.mono (by first | omega | (simp; done) | (simp; omega))) | refine Below.trans ?_ (hb1.mono (by first | omega | (simp; done) | (simp; omega))))
  · obtain ⟨c, hc⟩ : ∃ c, c = sg n m := ⟨_, rfl⟩
    have c0 : ¬ 0 < c := by
      rw [hc]
      rcases Int.lt_or_le n m with q | q
      · rw [sg_lt q]; decide
      · rw [show n = m by omega, sg_eq]; decide
    rw [← hc] at CC
    have CC := Lib.hid CC
    rw [if_neg g] at er
    clear g hc
    go_enter Try.func122, Try.ntmps122
    go_wp2_with (go_at_call 135; (with_reducible refine (RC.out _).mono ?_); rintro e w1 ⟨rfl, hb1⟩; have e10 : w1.cell? ⟨w.heap.size, 0, none⟩ = some (.int .i64 (hi n)) := cell_on hb1 (by first | (simp [go_sem, *]; done) | (simp [go_sem, World.cell?_alloc_some, *]; done) | fail); have e11 : w1.cell? ⟨w.heap.size, 1, none⟩ = some (.int .u64 (lo n)) := cell_on hb1 (by first | (simp [go_sem, *]; done) | (simp [go_sem, World.cell?_alloc_some, *]; done) | fail); have s10 : w.heap.size < w1.heap.size := World.block_lt_of_cell? _ _ e10; have t10 : w.heap.size < w1.heap.size + 1 := Nat.lt_succ_of_lt s10; have q1 := hb1.size; (try simp at q1))
    go_region_held3 (fun w' => w'.cell? ⟨w.heap.size, 0, none⟩ = some (.int .i64 (hi n)) ∧ w'.cell? ⟨w.heap.size, 1, none⟩ = some (.int .u64 (lo n))) (first | (simp [go_sem, *]; done) | (simp [go_sem, World.cell?_alloc_some, *]; done)) (first | (go_at_call 82; (try rw [i1, i2]); (with_reducible refine (MC.out _).mono ?_); rintro e w' ⟨rfl, rfl⟩) | (go_at_call 103; (with_reducible refine (CC.out _).mono ?_); rintro e w2 ⟨rfl, hb2⟩; have e20 : w2.cell? ⟨w.heap.size, 0, none⟩ = some (.int .i64 (hi n)) := cell_on hb2 (by first | (simp [go_sem, *]; done) | (simp [go_sem, World.cell?_alloc_some, *]; done) | fail); have e21 : w2.cell? ⟨w.heap.size, 1, none⟩ = some (.int .u64 (lo n)) := cell_on hb2 (by first | (simp [go_sem, *]; done) | (simp [go_sem, World.cell?_alloc_some, *]; done) | fail); have s20 : w.heap.size < w2.heap.size := World.block_lt_of_cell? _ _ e20; have t20 : w.heap.size < w2.heap.size + 1 := Nat.lt_succ_of_lt s20; have q2 := hb2.size; (try simp at q2)))
    all_goals
      go_wp2_with fail
      go_ret
      refine ⟨by rw [er]; first | rfl | (rw [e3]; rfl), ?_⟩
      repeat (first | exact Below.refl _ _ | assumption | apply Below.drew | refine Below.setCell ?_ (by first | omega | (simp; done) | (simp; omega)) _ | refine Below.alloc ?_ (by first | omega | (simp; done) | (simp; omega)) _ | refine Below.trans ?_ (hb2.mono (by first | omega | (simp; done) | (simp; omega))) | refine Below.trans ?_ (hb1.mono (by first | omega | (simp; done) | (simp; omega))))
theorem rd_one (r : Int) : rd r (2 ^ 0) = r := by
  have e : ab ((2 : Int) ^ 0) = 1 := rfl
  have d : ng ((2 : Int) ^ 0) = false := rfl
  unfold rd up
  rw [e, d, Int.emod_one, Int.ediv_one]
  have : (decide (0 < sg (2 * 0) 1) || (decide (sg (2 * 0) 1 = 0) && (ab r % 2 == 1))) = false := by
    rw [show sg (2 * 0) 1 = -1 from rfl]; simp
  rw [this]
  unfold sd ng ab
  rcases Int.lt_or_le r 0 with h | h
  · simp [h]; omega
  · have : ¬ r < 0 := by omega
    simp [this]; omega
set_option maxRecDepth 100000 in
set_option maxHeartbeats 4000000 in
theorem rtold_any (n r : Int) (w : World) (h0 : 0 ≤ n) (h : n < 633825300114114700748351602688) (hr : Nr n r) : Calls Try.prog 97 #[Wv n] w fun e w' => e = .returned (.tuple #[.int .i64 (tw r), .int .i64 (te r)]) ∧ Below w.heap.size w w' := by
  have r0 := hr.1
  have r1 := nr_top hr (B := 1125899906842624) (by decide) (by omega)
  have NC := Lib.hid (fun W : World => nearest_any n r W h0 h hr)
  have FC := Lib.hid (fun W : World => from_at r W (by omega) (by omega))
  have CC := fun W : World => close_any r 0 W (R_small (by omega) (by omega)) (by decide)
  rw [rd_one] at CC
  have CC := Lib.hid (show ∀ W : World, Calls Try.prog 36 #[Wv r, .int .i64 0] W fun e w' => e = .returned (.tuple #[.int .i64 (tw r), .int .i64 (te r)]) ∧ Below W.heap.size W w' from CC)
  clear r0 r1 h0 h hr
  generalize tw r = t at *
  generalize te r = u at *
  go_enter Try.func97, Try.ntmps97
  go_wp2_with (first | (go_at_call 122; (with_reducible refine (NC.out _).mono ?_); rintro e w1 ⟨rfl, hb1⟩; have e10 : w1.cell? ⟨w.heap.size, 0, none⟩ = some (.int .i64 (hi n)) := cell_on hb1 (by first | (simp [go_sem, *]; done) | (simp [go_sem, World.cell?_alloc_some, *]; done) | fail); have e11 : w1.cell? ⟨w.heap.size, 1, none⟩ = some (.int .u64 (lo n)) := cell_on hb1 (by first | (simp [go_sem, *]; done) | (simp [go_sem, World.cell?_alloc_some, *]; done) | fail); have s10 : w.heap.size < w1.heap.size := World.block_lt_of_cell? _ _ e10; have t10 : w.heap.size < w1.heap.size + 1 := Nat.lt_succ_of_lt s10; have q1 := hb1.size; (try simp at q1)) | (go_at_call 75; (with_reducible refine (FC.out _).mono ?_); rintro e w' ⟨rfl, rfl⟩) | (go_at_call 36; (with_reducible refine (CC.out _).mono ?_); rintro e w2 ⟨rfl, hb2⟩; have e20 : w2.cell? ⟨w.heap.size, 0, none⟩ = some (.int .i64 (hi n)) := cell_on hb2 (by first | (simp [go_sem, *]; done) | (simp [go_sem, World.cell?_alloc_some, *]; done) | fail); have e21 : w2.cell? ⟨w.heap.size, 1, none⟩ = some (.int .u64 (lo n)) := cell_on hb2 (by first | (simp [go_sem, *]; done) | (simp [go_sem, World.cell?_alloc_some, *]; done) | fail); have s20 : w.heap.size < w2.heap.size := World.block_lt_of_cell? _ _ e20; have t20 : w.heap.size < w2.heap.size + 1 := Nat.lt_succ_of_lt s20; have q2 := hb2.size; (try simp at q2)))
  go_ret2
  refine ⟨rfl, ?_⟩
  repeat (first | exact Below.refl _ _ | assumption | apply Below.drew | refine Below.setCell ?_ (by first | omega | (simp; done) | (simp; omega)) _ | refine Below.alloc ?_ (by first | omega | (simp; done) | (simp; omega)) _ | refine Below.trans ?_ (hb2.mono (by first | omega | (simp; done) | (simp; omega))) | refine Below.trans ?_ (hb1.mono (by first | omega | (simp; done) | (simp; omega))))
/-- The root of a word is a word. -/
theorem sqrt_wd {a r : Int} {f : Nat} (gf : fb f = true) (g0 : 0 ≤ a) (gw : wd a = true) (hr : Nr (a * 2 ^ (f + 2)) r) : wd r = true := by
  have hf := fb_bd gf
  have ha := wd_bd gw
  have p1 : (2 : Int) ^ (f + 2) ≤ 2 ^ 34 := by have := Nat.pow_le_pow_right (show 0 < 2 by decide) (show f + 2 ≤ 34 by omega); exact_mod_cast this
  have m1 : a * 2 ^ (f + 2) ≤ 140737488355328 * 2 ^ 34 := Int.mul_le_mul (by omega) p1 (Int.le_of_lt (Int.pow_pos (by decide))) (by decide)
  have r0 := hr.1
  have r1 := nr_top hr (B := 70368744177664) (by decide) (by omega)
  exact wd_mk (by omega)
set_option maxRecDepth 100000 in
set_option maxHeartbeats 4000000 in
theorem rcheck_no (a f : Int) (w : World) (h : (fb f && decide (0 ≤ a) && wd a) = false) : Calls Try.prog 95 #[.int .i64 a, .int .i64 f] w fun e w' => e = .returned (.int .i64 1) ∧ w = w' := by
  have C := fun W : World => checkf_any f W
  have D := fun W : World => check_any a W
  cases gf : fb f with
  | false =>
    rw [gf] at C
    have C := Lib.hid C
    clear gf h D
    go_enter Try.func95, Try.ntmps95
    go_wp2_with (go_at_call 22; (with_reducible refine (C.out _).mono ?_); rintro e w' ⟨rfl, rfl⟩)
    go_ret
    exact ⟨rfl, rfl⟩
  | true =>
    rw [gf] at C h
    have C := Lib.hid C
    by_cases ga : a < 0
    · clear gf h D
      go_enter Try.func95, Try.ntmps95
      go_wp2_with (go_at_call 22; (with_reducible refine (C.out _).mono ?_); rintro e w' ⟨rfl, rfl⟩)
      go_ret
      exact ⟨rfl, rfl⟩
    · have gw : wd a = false := by
        cases k : wd a with
        | false => rfl
        | true => rw [k, decide_eq_true (show 0 ≤ a by omega)] at h; exact absurd h (by decide)
      rw [gw] at D
      have D := Lib.hid D
      clear gf gw h
      go_enter Try.func95, Try.ntmps95
      go_wp2_with (first | (go_at_call 22; (with_reducible refine (C.out _).mono ?_); rintro e w' ⟨rfl, rfl⟩) | (go_at_call 21; (with_reducible refine (D.out _).mono ?_); rintro e w' ⟨rfl, rfl⟩))
      go_ret
      exact ⟨rfl, rfl⟩
set_option maxRecDepth 100000 in
set_option maxHeartbeats 4000000 in
theorem rcheck_in (a f : Int) (w : World) (gf : fb f = true) (g0 : 0 ≤ a) (gw : wd a = true) : Calls Try.prog 95 #[.int .i64 a, .int .i64 f] w fun e w' => e = .returned (.int .i64 0) ∧ w = w' := by
  have C := fun W : World => checkf_any f W
  have D := fun W : World => check_any a W
  rw [gf] at C
  rw [gw] at D
  have C := Lib.hid C
  have D := Lib.hid D
  have ga : ¬ a < 0 := by omega
  clear gf gw g0
  go_enter Try.func95, Try.ntmps95
  go_wp2_with (first | (go_at_call 22; (with_reducible refine (C.out _).mono ?_); rintro e w' ⟨rfl, rfl⟩) | (go_at_call 21; (with_reducible refine (D.out _).mono ?_); rintro e w' ⟨rfl, rfl⟩))
  go_ret
  exact ⟨rfl, rfl⟩
set_option maxRecDepth 100000 in
set_option maxHeartbeats 4000000 in
theorem upwards_any (N d : Int) (w : World) (k : Nat) (hk : k ≤ 98) (hN : N = 2 ^ k) (hd : 0 < d) (d1 : d ≤ 9223372036854775807) : Calls Try.prog 96 #[.int .i64 k, .int .i64 d] w fun e w' => e = .returned (.tuple #[Wv (cl N d), .int .i64 0]) ∧ Below w.heap.size w w' := by
  have p0 : (0 : Int) < 2 ^ k := Int.pow_pos (by decide)
  have p1 : (2 : Int) ^ k ≤ 2 ^ 98 := by have := Nat.pow_le_pow_right (show 0 < 2 by decide) hk; exact_mod_cast this
  have K := cl_is (n := N) (d := d) (by omega) hd
  have LC := fun W : World => shl_any (-1) k W (by decide) (by omega)
  rw [show (-1 : Int) * 2 ^ k = -N by rw [hN]; omega, told_in (show R (-N) by rw [R_iff]; omega), over_in (show R (-N) by rw [R_iff]; omega)] at LC
  have LC := Lib.hid LC
  have DC := fun W : World => down_any (-N) d W (by rw [R_iff]; omega) (R_small (by omega) d1) (by omega)
  obtain ⟨q, hq⟩ : ∃ q, q = dn (-N) d := ⟨_, rfl⟩
  have eq : cl N d = -q := by rw [hq]; rfl
  have qR : R q := by rw [R_iff]; omega
  rw [← hq, told_in qR, over_in qR] at DC
  have DC := Lib.hid DC
  have NC := fun W : World => neg_any q W qR
  have nR : R (-q) := by rw [R_iff]; omega
  rw [told_in nR, over_in nR, ← eq] at NC
  have NC := Lib.hid NC
  have F1 := Lib.hid (fun W : World => from_at (-1) W (by decide) (by decide))
  have F2 := Lib.hid (fun W : World => from_at d W (by omega) d1)
  clear p0 p1 K hq eq qR nR hd d1 hk hN
  generalize cl N d = c at *
  generalize -N = M at *
  go_enter Try.func96, Try.ntmps96
  go_wp2_with (first | (go_at_call 75; (with_reducible refine (F1.out _).mono ?_); rintro e w' ⟨rfl, rfl⟩) | (go_at_call 83; (with_reducible refine (LC.out _).mono ?_); rintro e w1 ⟨rfl, hb1⟩; have e10 : w1.cell? ⟨w.heap.size, 0, none⟩ = some (.int .i64 0) := cell_on hb1 (by first | (simp [go_sem, *]; done) | (simp [go_sem, World.cell?_alloc_some, *]; done) | fail); have e11 : w1.cell? ⟨w.heap.size, 1, none⟩ = some (.int .u64 0) := cell_on hb1 (by first | (simp [go_sem, *]; done) | (simp [go_sem, World.cell?_alloc_some, *]; done) | fail); have s10 : w.heap.size < w1.heap.size := World.block_lt_of_cell? _ _ e10; have t10 : w.heap.size < w1.heap.size + 1 := Nat.lt_succ_of_lt s10; have y10 : w1.frozen? ⟨w.heap.size, 0, none⟩ = false := frozen_on hb1 (v := .int .i64 0) (by first | (simp [go_sem, *]; done) | (simp [go_sem, World.cell?_alloc_some, *]; done) | fail) (by first | (simp [go_sem, *]; done) | (simp [go_sem, frozen?_alloc_cells, *]; done) | fail); have y11 : w1.frozen? ⟨w.heap.size, 1, none⟩ = false := frozen_on hb1 (v := .int .u64 0) (by first | (simp [go_sem, *]; done) | (simp [go_sem, World.cell?_alloc_some, *]; done) | fail) (by first | (simp [go_sem, *]; done) | (simp [go_sem, frozen?_alloc_cells, *]; done) | fail)))
  go_region_held3 (fun w' => w'.cell? ⟨w1.heap.size, 0, none⟩ = some (.int .i64 (hi M)) ∧ w'.cell? ⟨w1.heap.size, 1, none⟩ = some (.int .u64 (lo M)) ∧ w'.cell? ⟨w.heap.size, 0, none⟩ = some (.int .i64 0) ∧ w'.cell? ⟨w.heap.size, 1, none⟩ = some (.int .u64 0)) (first | (simp [go_sem, *]; done) | (simp [go_sem, World.cell?_alloc_some, *]; done)) (first | (go_at_call 75; (with_reducible refine (F2.out _).mono ?_); rintro e w' ⟨rfl, rfl⟩) | (go_at_call 15; (with_reducible refine (DC.out _).mono ?_); rintro e w2 ⟨rfl, hb2⟩; have e20 : w2.cell? ⟨w1.heap.size, 0, none⟩ = some (.int .i64 (hi M)) := cell_on hb2 (by first | (simp [go_sem, *]; done) | (simp [go_sem, World.cell?_alloc_some, *]; done) | fail); have e21 : w2.cell? ⟨w1.heap.size, 1, none⟩ = some (.int .u64 (lo M)) := cell_on hb2 (by first | (simp [go_sem, *]; done) | (simp [go_sem, World.cell?_alloc_some, *]; done) | fail); have e22 : w2.cell? ⟨w.heap.size, 0, none⟩ = some (.int .i64 0) := cell_on hb2 (by first | (simp [go_sem, *]; done) | (simp [go_sem, World.cell?_alloc_some, *]; done) | fail); have e23 : w2.cell? ⟨w.heap.size, 1, none⟩ = some (.int .u64 0) := cell_on hb2 (by first | (simp [go_sem, *]; done) | (simp [go_sem, World.cell?_alloc_some, *]; done) | fail); have s20 : w1.heap.size < w2.heap.size := World.block_lt_of_cell? _ _ e20; have t20 : w1.heap.size < w2.heap.size + 1 := Nat.lt_succ_of_lt s20; have s22 : w.heap.size < w2.heap.size := World.block_lt_of_cell? _ _ e22; have t22 : w.heap.size < w2.heap.size + 1 := Nat.lt_succ_of_lt s22; have y22 : w2.frozen? ⟨w.heap.size, 0, none⟩ = false := frozen_on hb2 (v := .int .i64 0) (by first | (simp [go_sem, *]; done) | (simp [go_sem, World.cell?_alloc_some, *]; done) | fail) (by first | (simp [go_sem, *]; done) | (simp [go_sem, frozen?_alloc_cells, *]; done) | fail); have y23 : w2.frozen? ⟨w.heap.size, 1, none⟩ = false := frozen_on hb2 (v := .int .u64 0) (by first | (simp [go_sem, *]; done) | (simp [go_sem, World.cell?_alloc_some, *]; done) | fail) (by first | (simp [go_sem, *]; done) | (simp [go_sem, frozen?_alloc_cells, *]; done) | fail); have q2 := hb2.size; (try simp at q2); (first | (have oa20 : w2.cell? ⟨w1.heap.size + 1, 0, none⟩ = some (.int .i64 0) := cell_on hb2 (by first | (simp [go_sem, *]; done) | (simp [go_sem, World.cell?_alloc_some, *]; done) | fail); have ob20 : w2.cell? ⟨w1.heap.size + 1, 1, none⟩ = some (.int .u64 0) := cell_on hb2 (by first | (simp [go_sem, *]; done) | (simp [go_sem, World.cell?_alloc_some, *]; done) | fail); have oc20 : w2.frozen? ⟨w1.heap.size + 1, 0, none⟩ = false := frozen_on hb2 (v := .int .i64 0) (by first | (simp [go_sem, *]; done) | (simp [go_sem, World.cell?_alloc_some, *]; done) | fail) (by first | (simp [go_sem, *]; done) | (simp [go_sem, frozen?_alloc_cells, *]; done) | fail); have od20 : w2.frozen? ⟨w1.heap.size + 1, 1, none⟩ = false := frozen_on hb2 (v := .int .u64 0) (by first | (simp [go_sem, *]; done) | (simp [go_sem, World.cell?_alloc_some, *]; done) | fail) (by first | (simp [go_sem, *]; done) | (simp [go_sem, frozen?_alloc_cells, *]; done) | fail); have oe20 : w1.heap.size + 1 < w2.heap.size := World.block_lt_of_cell? _ _ oa20) | skip); (first | (have oa21 : w2.cell? ⟨w1.heap.size + 1 + 1, 0, none⟩ = some (.int .i64 0) := cell_on hb2 (by first | (simp [go_sem, *]; done) | (simp [go_sem, World.cell?_alloc_some, *]; done) | fail); have ob21 : w2.cell? ⟨w1.heap.size + 1 + 1, 1, none⟩ = some (.int .u64 0) := cell_on hb2 (by first | (simp [go_sem, *]; done) | (simp [go_sem, World.cell?_alloc_some, *]; done) | fail); have oc21 : w2.frozen? ⟨w1.heap.size + 1 + 1, 0, none⟩ = false := frozen_on hb2 (v := .int .i64 0) (by first | (simp [go_sem, *]; done) | (simp [go_sem, World.cell?_alloc_some, *]; done) | fail) (by first | (simp [go_sem, *]; done) | (simp [go_sem, frozen?_alloc_cells, *]; done) | fail); have od21 : w2.frozen? ⟨w1.heap.size + 1 + 1, 1, none⟩ = false := frozen_on hb2 (v := .int .u64 0) (by first | (simp [go_sem, *]; done) | (simp [go_sem, World.cell?_alloc_some, *]; done) | fail) (by first | (simp [go_sem, *]; done) | (simp [go_sem, frozen?_alloc_cells, *]; done) | fail); have oe21 : w1.heap.size + 1 + 1 < w2.heap.size := World.block_lt_of_cell? _ _ oa21) | skip)))
  all_goals
    go_wp2_with (go_at_call 121; (with_reducible refine (NC.out _).mono ?_); rintro e w3 ⟨rfl, hb3⟩; have e30 : w3.cell? ⟨w.heap.size, 0, none⟩ = some (.int .i64 0) := cell_on hb3 (by first | (simp [go_sem, *]; done) | (simp [go_sem, World.cell?_alloc_some, *]; done) | fail); have e31 : w3.cell? ⟨w.heap.size, 1, none⟩ = some (.int .u64 0) := cell_on hb3 (by first | (simp [go_sem, *]; done) | (simp [go_sem, World.cell?_alloc_some, *]; done) | fail); have s30 : w.heap.size < w3.heap.size := World.block_lt_of_cell? _ _ e30; have t30 : w.heap.size < w3.heap.size + 1 := Nat.lt_succ_of_lt s30; have y30 : w3.frozen? ⟨w.heap.size, 0, none⟩ = false := frozen_on hb3 (v := .int .i64 0) (by first | (simp [go_sem, *]; done) | (simp [go_sem, World.cell?_alloc_some, *]; done) | fail) (by first | (simp [go_sem, *]; done) | (simp [go_sem, frozen?_alloc_cells, *]; done) | fail); have y31 : w3.frozen? ⟨w.heap.size, 1, none⟩ = false := frozen_on hb3 (v := .int .u64 0) (by first | (simp [go_sem, *]; done) | (simp [go_sem, World.cell?_alloc_some, *]; done) | fail) (by first | (simp [go_sem, *]; done) | (simp [go_sem, frozen?_alloc_cells, *]; done) | fail); have q3 := hb3.size; (try simp at q3))
    refine bodyPost_ret (v := .tuple #[Wv c, .int .i64 0]) (by simp [results, Try.results96, go_sem, *]) rfl ⟨rfl, ?_⟩
    repeat (first | exact Below.refl _ _ | assumption | apply Below.drew | refine Below.setCell ?_ (by first | omega | (simp; done) | (simp; omega)) _ | refine Below.alloc ?_ (by first | omega | (simp; done) | (simp; omega)) _ | refine Below.trans ?_ (hb3.mono (by first | omega | (simp; done) | (simp; omega))) | refine Below.trans ?_ (hb2.mono (by first | omega | (simp; done) | (simp; omega))) | refine Below.trans ?_ (hb1.mono (by first | omega | (simp; done) | (simp; omega))))
set_option maxRecDepth 100000 in
set_option maxHeartbeats 4000000 in
theorem upwards_zero (d : Int) (w : World) (k : Nat) (hk : k ≤ 98) (hd : d = 0) : Calls Try.prog 96 #[.int .i64 k, .int .i64 d] w fun e w' => e = .returned (.tuple #[Wv 0, .int .i64 4]) ∧ Below w.heap.size w w' := by
  have p0 : (0 : Int) < 2 ^ k := Int.pow_pos (by decide)
  have p1 : (2 : Int) ^ k ≤ 2 ^ 98 := by have := Nat.pow_le_pow_right (show 0 < 2 by decide) hk; exact_mod_cast this
  obtain ⟨N, hN⟩ : ∃ N : Int, N = 2 ^ k := ⟨_, rfl⟩
  have LC := fun W : World => shl_any (-1) k W (by decide) (by omega)
  rw [show (-1 : Int) * 2 ^ k = -N by rw [hN]; omega, told_in (show R (-N) by rw [R_iff]; omega), over_in (show R (-N) by rw [R_iff]; omega)] at LC
  have LC := Lib.hid LC
  have DC := Lib.hid (fun W : World => down_zero (-N) d W hd)
  have F1 := Lib.hid (fun W : World => from_at (-1) W (by decide) (by decide))
  have F2 := Lib.hid (fun W : World => from_at d W (by omega) (by omega))
  clear p0 p1 hk hN hd
  generalize -N = M at *
  go_enter Try.func96, Try.ntmps96
  go_wp2_with (first | (go_at_call 75; (with_reducible refine (F1.out _).mono ?_); rintro e w' ⟨rfl, rfl⟩) | (go_at_call 83; (with_reducible refine (LC.out _).mono ?_); rintro e w1 ⟨rfl, hb1⟩; have e10 : w1.cell? ⟨w.heap.size, 0, none⟩ = some (.int .i64 0) := cell_on hb1 (by first | (simp [go_sem, *]; done) | (simp [go_sem, World.cell?_alloc_some, *]; done) | fail); have e11 : w1.cell? ⟨w.heap.size, 1, none⟩ = some (.int .u64 0) := cell_on hb1 (by first | (simp [go_sem, *]; done) | (simp [go_sem, World.cell?_alloc_some, *]; done) | fail); have s10 : w.heap.size < w1.heap.size := World.block_lt_of_cell? _ _ e10; have t10 : w.heap.size < w1.heap.size + 1 := Nat.lt_succ_of_lt s10; have y10 : w1.frozen? ⟨w.heap.size, 0, none⟩ = false := frozen_on hb1 (v := .int .i64 0) (by first | (simp [go_sem, *]; done) | (simp [go_sem, World.cell?_alloc_some, *]; done) | fail) (by first | (simp [go_sem, *]; done) | (simp [go_sem, frozen?_alloc_cells, *]; done) | fail); have y11 : w1.frozen? ⟨w.heap.size, 1, none⟩ = false := frozen_on hb1 (v := .int .u64 0) (by first | (simp [go_sem, *]; done) | (simp [go_sem, World.cell?_alloc_some, *]; done) | fail) (by first | (simp [go_sem, *]; done) | (simp [go_sem, frozen?_alloc_cells, *]; done) | fail)))
  go_region_held3 (fun w' => w'.cell? ⟨w1.heap.size, 0, none⟩ = some (.int .i64 (hi M)) ∧ w'.cell? ⟨w1.heap.size, 1, none⟩ = some (.int .u64 (lo M)) ∧ w'.cell? ⟨w.heap.size, 0, none⟩ = some (.int .i64 0) ∧ w'.cell? ⟨w.heap.size, 1, none⟩ = some (.int .u64 0)) (first | (simp [go_sem, *]; done) | (simp [go_sem, World.cell?_alloc_some, *]; done)) (first | (go_at_call 75; (with_reducible refine (F2.out _).mono ?_); rintro e w' ⟨rfl, rfl⟩) | (go_at_call 15; (with_reducible refine (DC.out _).mono ?_); rintro e w2 ⟨rfl, hb2⟩; have e20 : w2.cell? ⟨w1.heap.size, 0, none⟩ = some (.int .i64 (hi M)) := cell_on hb2 (by first | (simp [go_sem, *]; done) | (simp [go_sem, World.cell?_alloc_some, *]; done) | fail); have e21 : w2.cell? ⟨w1.heap.size, 1, none⟩ = some (.int .u64 (lo M)) := cell_on hb2 (by first | (simp [go_sem, *]; done) | (simp [go_sem, World.cell?_alloc_some, *]; done) | fail); have e22 : w2.cell? ⟨w.heap.size, 0, none⟩ = some (.int .i64 0) := cell_on hb2 (by first | (simp [go_sem, *]; done) | (simp [go_sem, World.cell?_alloc_some, *]; done) | fail); have e23 : w2.cell? ⟨w.heap.size, 1, none⟩ = some (.int .u64 0) := cell_on hb2 (by first | (simp [go_sem, *]; done) | (simp [go_sem, World.cell?_alloc_some, *]; done) | fail); have s20 : w1.heap.size < w2.heap.size := World.block_lt_of_cell? _ _ e20; have t20 : w1.heap.size < w2.heap.size + 1 := Nat.lt_succ_of_lt s20; have s22 : w.heap.size < w2.heap.size := World.block_lt_of_cell? _ _ e22; have t22 : w.heap.size < w2.heap.size + 1 := Nat.lt_succ_of_lt s22; have y22 : w2.frozen? ⟨w.heap.size, 0, none⟩ = false := frozen_on hb2 (v := .int .i64 0) (by first | (simp [go_sem, *]; done) | (simp [go_sem, World.cell?_alloc_some, *]; done) | fail) (by first | (simp [go_sem, *]; done) | (simp [go_sem, frozen?_alloc_cells, *]; done) | fail); have y23 : w2.frozen? ⟨w.heap.size, 1, none⟩ = false := frozen_on hb2 (v := .int .u64 0) (by first | (simp [go_sem, *]; done) | (simp [go_sem, World.cell?_alloc_some, *]; done) | fail) (by first | (simp [go_sem, *]; done) | (simp [go_sem, frozen?_alloc_cells, *]; done) | fail); have q2 := hb2.size; (try simp at q2); (first | (have oa20 : w2.cell? ⟨w1.heap.size + 1, 0, none⟩ = some (.int .i64 0) := cell_on hb2 (by first | (simp [go_sem, *]; done) | (simp [go_sem, World.cell?_alloc_some, *]; done) | fail); have ob20 : w2.cell? ⟨w1.heap.size + 1, 1, none⟩ = some (.int .u64 0) := cell_on hb2 (by first | (simp [go_sem, *]; done) | (simp [go_sem, World.cell?_alloc_some, *]; done) | fail); have oc20 : w2.frozen? ⟨w1.heap.size + 1, 0, none⟩ = false := frozen_on hb2 (v := .int .i64 0) (by first | (simp [go_sem, *]; done) | (simp [go_sem, World.cell?_alloc_some, *]; done) | fail) (by first | (simp [go_sem, *]; done) | (simp [go_sem, frozen?_alloc_cells, *]; done) | fail); have od20 : w2.frozen? ⟨w1.heap.size + 1, 1, none⟩ = false := frozen_on hb2 (v := .int .u64 0) (by first | (simp [go_sem, *]; done) | (simp [go_sem, World.cell?_alloc_some, *]; done) | fail) (by first | (simp [go_sem, *]; done) | (simp [go_sem, frozen?_alloc_cells, *]; done) | fail); have oe20 : w1.heap.size + 1 < w2.heap.size := World.block_lt_of_cell? _ _ oa20) | skip); (first | (have oa21 : w2.cell? ⟨w1.heap.size + 1 + 1, 0, none⟩ = some (.int .i64 0) := cell_on hb2 (by first | (simp [go_sem, *]; done) | (simp [go_sem, World.cell?_alloc_some, *]; done) | fail); have ob21 : w2.cell? ⟨w1.heap.size + 1 + 1, 1, none⟩ = some (.int .u64 0) := cell_on hb2 (by first | (simp [go_sem, *]; done) | (simp [go_sem, World.cell?_alloc_some, *]; done) | fail); have oc21 : w2.frozen? ⟨w1.heap.size + 1 + 1, 0, none⟩ = false := frozen_on hb2 (v := .int .i64 0) (by first | (simp [go_sem, *]; done) | (simp [go_sem, World.cell?_alloc_some, *]; done) | fail) (by first | (simp [go_sem, *]; done) | (simp [go_sem, frozen?_alloc_cells, *]; done) | fail); have od21 : w2.frozen? ⟨w1.heap.size + 1 + 1, 1, none⟩ = false := frozen_on hb2 (v := .int .u64 0) (by first | (simp [go_sem, *]; done) | (simp [go_sem, World.cell?_alloc_some, *]; done) | fail) (by first | (simp [go_sem, *]; done) | (simp [go_sem, frozen?_alloc_cells, *]; done) | fail); have oe21 : w1.heap.size + 1 + 1 < w2.heap.size := World.block_lt_of_cell? _ _ oa21) | skip)))
  all_goals
    go_wp2_with fail
    refine bodyPost_ret (v := .tuple #[Wv 0, .int .i64 4]) (by simp [results, Try.results96, go_sem, *] <;> exact ⟨rfl, rfl⟩) rfl ⟨rfl, ?_⟩
    repeat (first | exact Below.refl _ _ | assumption | apply Below.drew | refine Below.setCell ?_ (by first | omega | (simp; done) | (simp; omega)) _ | refine Below.alloc ?_ (by first | omega | (simp; done) | (simp; omega)) _ | refine Below.trans ?_ (hb2.mono (by first | omega | (simp; done) | (simp; omega))) | refine Below.trans ?_ (hb1.mono (by first | omega | (simp; done) | (simp; omega))))
set_option maxRecDepth 100000 in
set_option maxHeartbeats 4000000 in
theorem sqrt_form (a f : Int) (w : World) (h : (fb f && decide (0 ≤ a) && wd a) = false) : Calls Try.prog 58 #[.int .i64 a, .int .i64 f] w fun e w' => e = .returned (.tuple #[.int .i64 (0), .int .i64 (1)]) ∧ Below w.heap.size w w' := by
  have C := Lib.hid (fun W : World => rcheck_no a f W h)
  clear h
  go_enter Try.func58, Try.ntmps58
  go_wp2_with (go_at_call 95; (with_reducible refine (C.out _).mono ?_); rintro e w' ⟨rfl, rfl⟩)
  go_ret2
  refine ⟨rfl, ?_⟩
  repeat (first | exact Below.refl _ _ | assumption | apply Below.drew | refine Below.setCell ?_ (by first | omega | (simp; done) | (simp; omega)) _ | refine Below.alloc ?_ (by first | omega | (simp; done) | (simp; omega)) _)
set_option maxRecDepth 100000 in
set_option maxHeartbeats 4000000 in
theorem sqrt_any (a r : Int) (f : Nat) (w : World) (gf : fb f = true) (g0 : 0 ≤ a) (gw : wd a = true) (hr : Nr (a * 2 ^ (f + 2)) r) : Calls Try.prog 58 #[.int .i64 a, .int .i64 f] w fun e w' => e = .returned (.tuple #[.int .i64 (r), .int .i64 (0)]) ∧ Below w.heap.size w w' := by
  have hf := fb_bd gf
  have ha := wd_bd gw
  have p0 : (0 : Int) < 2 ^ (f + 2) := Int.pow_pos (by decide)
  have p1 : (2 : Int) ^ (f + 2) ≤ 2 ^ 34 := by have := Nat.pow_le_pow_right (show 0 < 2 by decide) (show f + 2 ≤ 34 by omega); exact_mod_cast this
  have m0 : 0 ≤ a * 2 ^ (f + 2) := Int.mul_nonneg g0 (by omega)
  have m1 : a * 2 ^ (f + 2) ≤ 140737488355328 * 2 ^ 34 := Int.mul_le_mul (by omega) p1 (by omega) (by decide)
  have r0 := hr.1
  have r1 := nr_top hr (B := 70368744177664) (by decide) (by omega)
  have wr : wd r = true := wd_mk (by omega)
  have C := Lib.hid (fun W : World => rcheck_in a f W gf g0 gw)
  have FC := Lib.hid (fun W : World => from_at a W (by omega) (by omega))
  have LC := fun W : World => shl_any a (f + 2) W (R_small (by omega) (by omega)) (by omega)
  have TC := fun W : World => rtold_any (a * 2 ^ (f + 2)) r W m0 (by omega) hr
  have mR : R (a * 2 ^ (f + 2)) := by rw [R_iff]; omega
  rw [told_in mR, over_in mR, show ((f + 2 : Nat) : Int) = (f : Int) + 2 by omega] at LC
  rw [tw_in wr, te_in wr] at TC
  have LC := Lib.hid LC
  have TC := Lib.hid TC
  have ew : wrap64 ((f : Int) + 2) = (f : Int) + 2 := IntWalk.wrap64_in _ ⟨by omega, by omega⟩
  clear hf ha p0 p1 m0 m1 r0 r1 wr mR gf g0 gw hr
  generalize a * 2 ^ (f + 2) = m at *
  go_enter Try.func58, Try.ntmps58
  go_wp2_with (first | (go_at_call 95; (with_reducible refine (C.out _).mono ?_); rintro e w' ⟨rfl, rfl⟩) | (go_at_call 75; (with_reducible refine (FC.out _).mono ?_); rintro e w' ⟨rfl, rfl⟩) | (go_at_call 83; (with_reducible refine (LC.out _).mono ?_); rintro e w1 ⟨rfl, hb1⟩; have q1 := hb1.size; (try simp at q1)) | (go_at_call 97; (with_reducible refine (TC.out _).mono ?_); rintro e w2 ⟨rfl, hb2⟩; have q2 := hb2.size; (try simp at q2)))
  go_ret2
  refine ⟨rfl, ?_⟩
  repeat (first | exact Below.refl _ _ | assumption | apply Below.drew | refine Below.setCell ?_ (by first | omega | (simp; done) | (simp; omega)) _ | refine Below.alloc ?_ (by first | omega | (simp; done) | (simp; omega)) _ | refine Below.trans ?_ (hb2.mono (by first | omega | (simp; done) | (simp; omega))) | refine Below.trans ?_ (hb1.mono (by first | omega | (simp; done) | (simp; omega))))
set_option maxRecDepth 100000 in
set_option maxHeartbeats 4000000 in
theorem rsqrt_form (a f : Int) (w : World) (h : (fb f && decide (0 ≤ a) && wd a) = false) : Calls Try.prog 53 #[.int .i64 a, .int .i64 f] w fun e w' => e = .returned (.tuple #[.int .i64 (0), .int .i64 (1)]) ∧ Below w.heap.size w w' := by
  have C := Lib.hid (fun W : World => rcheck_no a f W h)
  clear h
  go_enter Try.func53, Try.ntmps53
  go_wp2_with (go_at_call 95; (with_reducible refine (C.out _).mono ?_); rintro e w' ⟨rfl, rfl⟩)
  go_ret2
  refine ⟨rfl, ?_⟩
  repeat (first | exact Below.refl _ _ | assumption | apply Below.drew | refine Below.setCell ?_ (by first | omega | (simp; done) | (simp; omega)) _ | refine Below.alloc ?_ (by first | omega | (simp; done) | (simp; omega)) _)
set_option maxRecDepth 100000 in
set_option maxHeartbeats 4000000 in
theorem rsqrt_zero (a : Int) (f : Nat) (w : World) (gf : fb f = true) (g0 : a = 0) : Calls Try.prog 53 #[.int .i64 a, .int .i64 f] w fun e w' => e = .returned (.tuple #[.int .i64 (0), .int .i64 (4)]) ∧ Below w.heap.size w w' := by
  have hf := fb_bd gf
  have C := Lib.hid (fun W : World => rcheck_in a f W gf (by omega) (wd_mk (by omega)))
  have UC := fun W : World => upwards_zero a W (3 * f + 2) (by omega) g0
  rw [show ((3 * f + 2 : Nat) : Int) = 3 * (f : Int) + 2 by omega] at UC
  have UC := Lib.hid UC
  have e1 : wrap64 (3 * (f : Int)) = 3 * (f : Int) := IntWalk.wrap64_in _ ⟨by omega, by omega⟩
  have e2 : wrap64 (3 * (f : Int) + 2) = 3 * (f : Int) + 2 := IntWalk.wrap64_in _ ⟨by omega, by omega⟩
  clear hf gf g0
  go_enter Try.func53, Try.ntmps53
  go_wp2_with (first | (go_at_call 95; (with_reducible refine (C.out _).mono ?_); rintro e w' ⟨rfl, rfl⟩) | (go_at_call 96; (with_reducible refine (UC.out _).mono ?_); rintro e w1 ⟨rfl, hb1⟩; have q1 := hb1.size; (try simp at q1)))
  go_ret2
  refine ⟨rfl, ?_⟩
  repeat (first | exact Below.refl _ _ | assumption | apply Below.drew | refine Below.setCell ?_ (by first | omega | (simp; done) | (simp; omega)) _ | refine Below.alloc ?_ (by first | omega | (simp; done) | (simp; omega)) _ | refine Below.trans ?_ (hb1.mono (by first | omega | (simp; done) | (simp; omega))))
set_option maxRecDepth 100000 in
set_option maxHeartbeats 4000000 in
theorem rsqrt_any (a r N : Int) (f : Nat) (w : World) (gf : fb f = true) (g0 : 0 < a) (gw : wd a = true) (hN : N = 2 ^ (3 * f + 2)) (hr : Nr (cl N a) r) : Calls Try.prog 53 #[.int .i64 a, .int .i64 f] w fun e w' => e = .returned (.tuple #[.int .i64 (tw r), .int .i64 (te r)]) ∧ Below w.heap.size w w' := by
  have hf := fb_bd gf
  have ha := wd_bd gw
  have p0 : (0 : Int) < 2 ^ (3 * f + 2) := Int.pow_pos (by decide)
  have p1 : (2 : Int) ^ (3 * f + 2) ≤ 2 ^ 98 := by have := Nat.pow_le_pow_right (show 0 < 2 by decide) (show 3 * f + 2 ≤ 98 by omega); exact_mod_cast this
  have K := cl_is (n := N) (d := a) (by omega) g0
  have C := Lib.hid (fun W : World => rcheck_in a f W gf (by omega) gw)
  have UC := fun W : World => upwards_any N a W (3 * f + 2) (by omega) hN g0 (by omega)
  rw [show ((3 * f + 2 : Nat) : Int) = 3 * (f : Int) + 2 by omega] at UC
  have UC := Lib.hid UC
  have TC := Lib.hid (fun W : World => rtold_any (cl N a) r W K.2.2.1 (by omega) hr)
  have e1 : wrap64 (3 * (f : Int)) = 3 * (f : Int) := IntWalk.wrap64_in _ ⟨by omega, by omega⟩
  have e2 : wrap64 (3 * (f : Int) + 2) = 3 * (f : Int) + 2 := IntWalk.wrap64_in _ ⟨by omega, by omega⟩
  clear hf ha p0 p1 K gf g0 gw hr hN
  generalize cl N a = m at *
  generalize tw r = t at *
  generalize te r = u at *
  go_enter Try.func53, Try.ntmps53
  go_wp2_with (first | (go_at_call 95; (with_reducible refine (C.out _).mono ?_); rintro e w' ⟨rfl, rfl⟩) | (go_at_call 96; (with_reducible refine (UC.out _).mono ?_); rintro e w1 ⟨rfl, hb1⟩; have q1 := hb1.size; (try simp at q1)) | (go_at_call 97; (with_reducible refine (TC.out _).mono ?_); rintro e w2 ⟨rfl, hb2⟩; have q2 := hb2.size; (try simp at q2)))
  go_ret2
  refine ⟨rfl, ?_⟩
  repeat (first | exact Below.refl _ _ | assumption | apply Below.drew | refine Below.setCell ?_ (by first | omega | (simp; done) | (simp; omega)) _ | refine Below.alloc ?_ (by first | omega | (simp; done) | (simp; omega)) _ | refine Below.trans ?_ (hb2.mono (by first | omega | (simp; done) | (simp; omega))) | refine Below.trans ?_ (hb1.mono (by first | omega | (simp; done) | (simp; omega))))
end Go.Proofs.Ytkpkejccphpkpaa
