/-
  
  
  
  
  
  
  
  
  
  
  
  
  
  
  
  
  
  
-/
import Derived.LoopTactic
import Derived.Test.YtmafgdinegboeaaGreatM08
import Derived.Test.YtmafgdinegboeaaGreatM09
import Derived.Test.YtmafgdinegboeaaGreatM10
namespace Go.Proofs.YtmafgdinegboeaaGreat
open Go.RowKit

set_option maxHeartbeats 8000000 in
theorem shl_any (a : Int) (n : Nat) (w : World) (ha : R a) (h1 : n ≤ 126) : Calls Tryz.prog 158 #[Wv a, .int .i64 n] w fun e w' => e = .returned (.tuple #[Wv (told (a * 2 ^ n)), .int .i64 (over (a * 2 ^ n))]) ∧ Below w.heap.size w w' := by
  have lb := bl_le (U_ab ha)
  have SZ := Lib.hid (fun W : World => sizeOf_any a W ha)
  have LN := Lib.hid (fun W : World => length_any (ab a) W (U_ab ha))
  have BN := Lib.hid (fun W : World => below_any a W)
  by_cases g : 128 < bl (ab a) + n
  · have r := Lib.hid (And.intro (told_out (left_far ha n h1 g)) (over_out (left_far ha n h1 g)))
    have g' : (128 : Int) < (bl (ab a) : Int) + n := by omega
    clear ha g
    generalize ab a = s at *
    go_enter Tryz.func158, Tryz.ntmps158
    go_wp2_with (first | (go_at_call 136; (with_reducible refine (SZ.out _).mono ?_); rintro e w1 ⟨rfl, hb1⟩; have e10 : w1.cell? ⟨w.heap.size, 0, none⟩ = some (.int .i64 (hi a)) := cell_on hb1; have e11 : w1.cell? ⟨w.heap.size, 1, none⟩ = some (.int .u64 (lo a)) := cell_on hb1; have e12 : w1.cell? ⟨w.heap.size + 1, 0, none⟩ = some (.int .i64 0) := cell_on hb1; have e13 : w1.cell? ⟨w.heap.size + 1, 1, none⟩ = some (.int .u64 0) := cell_on hb1; have s10 : w.heap.size < w1.heap.size := World.block_lt_of_cell? _ _ e10; have t10 : w.heap.size < w1.heap.size + 1 := Nat.lt_succ_of_lt s10; have s12 : w.heap.size + 1 < w1.heap.size := World.block_lt_of_cell? _ _ e12; have t12 : w.heap.size + 1 < w1.heap.size + 1 := Nat.lt_succ_of_lt s12; have y12 : w1.frozen? ⟨w.heap.size + 1, 0, none⟩ = false := frozen_on hb1 (v := .int .i64 0); have y13 : w1.frozen? ⟨w.heap.size + 1, 1, none⟩ = false := frozen_on hb1 (v := .int .u64 0)) | (go_at_call 190; (with_reducible refine (LN.out _).mono ?_); rintro e w2 ⟨rfl, rfl⟩))
    refine bodyPost_ret (v := .tuple #[.agg #[.int .i64 0, .int .u64 0], .int .i64 3]) (by simp [results, Tryz.results158, go_sem, *]) rfl ⟨by rw [r.out.1, r.out.2] <;> rfl, ?_⟩
    repeat (first | exact Below.refl _ _ | assumption | apply Below.drew | refine Below.setCell ?_ (by first | omega | (simp; done) | (simp; omega)) _ | refine Below.alloc ?_ (by first | omega | (simp; done) | (simp; omega)) _ | refine Below.trans ?_ (hb1.mono (by first | omega | (simp; done) | (simp; omega))))
  · have e1 := left_near ha n (by omega)
    have LC := Lib.hid (fun W : World => left_any (ab a) n W (U_ab ha) (by omega))
    have UT : U (ab a * 2 ^ n) := by rw [← e1]; exact U_ws _
    rw [e1] at LC
    have SI := Lib.hid (fun W : World => signed_any (ab a * 2 ^ n) (ng a) W UT)
    have r := Lib.hid (sd_ab a (2 ^ n))
    have g' : ¬ (128 : Int) < (bl (ab a) : Int) + n := by omega
    clear ha g e1 UT
    generalize ab a = s at *
    generalize s * 2 ^ n = t at *
    go_enter Tryz.func158, Tryz.ntmps158
    go_wp2_with (first | (go_at_call 136; (with_reducible refine (SZ.out _).mono ?_); rintro e w1 ⟨rfl, hb1⟩; have e10 : w1.cell? ⟨w.heap.size, 0, none⟩ = some (.int .i64 (hi a)) := cell_on hb1; have e11 : w1.cell? ⟨w.heap.size, 1, none⟩ = some (.int .u64 (lo a)) := cell_on hb1; have e12 : w1.cell? ⟨w.heap.size + 1, 0, none⟩ = some (.int .i64 0) := cell_on hb1; have e13 : w1.cell? ⟨w.heap.size + 1, 1, none⟩ = some (.int .u64 0) := cell_on hb1; have s10 : w.heap.size < w1.heap.size := World.block_lt_of_cell? _ _ e10; have t10 : w.heap.size < w1.heap.size + 1 := Nat.lt_succ_of_lt s10; have s12 : w.heap.size + 1 < w1.heap.size := World.block_lt_of_cell? _ _ e12; have t12 : w.heap.size + 1 < w1.heap.size + 1 := Nat.lt_succ_of_lt s12; have y12 : w1.frozen? ⟨w.heap.size + 1, 0, none⟩ = false := frozen_on hb1 (v := .int .i64 0); have y13 : w1.frozen? ⟨w.heap.size + 1, 1, none⟩ = false := frozen_on hb1 (v := .int .u64 0)) | (go_at_call 190; (with_reducible refine (LN.out _).mono ?_); rintro e w2 ⟨rfl, rfl⟩))
    go_region_held3 (fun w' => w'.cell? ⟨w.heap.size, 0, none⟩ = some (.int .i64 (hi a)) ∧ w'.cell? ⟨w.heap.size, 1, none⟩ = some (.int .u64 (lo a)) ∧ w'.cell? ⟨w1.heap.size, 0, none⟩ = some (.int .u64 (hi s)) ∧ w'.cell? ⟨w1.heap.size, 1, none⟩ = some (.int .u64 (lo s))) (first | (simp [go_sem, *]; done) | (simp [go_sem, World.cell?_alloc_some, *]; done))
      (first
      | (go_at_call 138; (with_reducible refine (LC.out _).mono ?_); rintro e w3 ⟨rfl, hb3⟩; have e30 : w3.cell? ⟨w.heap.size, 0, none⟩ = some (.int .i64 (hi a)) := cell_on hb3; have e31 : w3.cell? ⟨w.heap.size, 1, none⟩ = some (.int .u64 (lo a)) := cell_on hb3; have e32 : w3.cell? ⟨w.heap.size + 1, 0, none⟩ = some (.int .i64 0) := cell_on hb3; have e33 : w3.cell? ⟨w.heap.size + 1, 1, none⟩ = some (.int .u64 0) := cell_on hb3; have e34 : w3.cell? ⟨w1.heap.size, 0, none⟩ = some (.int .u64 (hi s)) := cell_on hb3; have e35 : w3.cell? ⟨w1.heap.size, 1, none⟩ = some (.int .u64 (lo s)) := cell_on hb3; have s30 : w.heap.size < w3.heap.size := World.block_lt_of_cell? _ _ e30; have t30 : w.heap.size < w3.heap.size + 1 := Nat.lt_succ_of_lt s30; have s32 : w.heap.size + 1 < w3.heap.size := World.block_lt_of_cell? _ _ e32; have t32 : w.heap.size + 1 < w3.heap.size + 1 := Nat.lt_succ_of_lt s32; have s34 : w1.heap.size < w3.heap.size := World.block_lt_of_cell? _ _ e34; have t34 : w1.heap.size < w3.heap.size + 1 := Nat.lt_succ_of_lt s34; have y32 : w3.frozen? ⟨w.heap.size + 1, 0, none⟩ = false := frozen_on hb3 (v := .int .i64 0); have y33 : w3.frozen? ⟨w.heap.size + 1, 1, none⟩ = false := frozen_on hb3 (v := .int .u64 0))
      | (go_at_call 143; (with_reducible refine (BN.out _).mono ?_); rintro e w' ⟨rfl, rfl⟩)
      | (go_at_call 142; (with_reducible refine (SI.out _).mono ?_); rintro e w4 ⟨rfl, hb4⟩; have e40 : w4.cell? ⟨w.heap.size, 0, none⟩ = some (.int .i64 (hi a)) := cell_on hb4; have e41 : w4.cell? ⟨w.heap.size, 1, none⟩ = some (.int .u64 (lo a)) := cell_on hb4; have e42 : w4.cell? ⟨w.heap.size + 1, 0, none⟩ = some (.int .i64 0) := cell_on hb4; have e43 : w4.cell? ⟨w.heap.size + 1, 1, none⟩ = some (.int .u64 0) := cell_on hb4; have e44 : w4.cell? ⟨w1.heap.size, 0, none⟩ = some (.int .u64 (hi s)) := cell_on hb4; have e45 : w4.cell? ⟨w1.heap.size, 1, none⟩ = some (.int .u64 (lo s)) := cell_on hb4; have s40 : w.heap.size < w4.heap.size := World.block_lt_of_cell? _ _ e40; have t40 : w.heap.size < w4.heap.size + 1 := Nat.lt_succ_of_lt s40; have s42 : w.heap.size + 1 < w4.heap.size := World.block_lt_of_cell? _ _ e42; have t42 : w.heap.size + 1 < w4.heap.size + 1 := Nat.lt_succ_of_lt s42; have s44 : w1.heap.size < w4.heap.size := World.block_lt_of_cell? _ _ e44; have t44 : w1.heap.size < w4.heap.size + 1 := Nat.lt_succ_of_lt s44; have y42 : w4.frozen? ⟨w.heap.size + 1, 0, none⟩ = false := frozen_on hb4 (v := .int .i64 0); have y43 : w4.frozen? ⟨w.heap.size + 1, 1, none⟩ = false := frozen_on hb4 (v := .int .u64 0)))
    all_goals
      go_wp2_with fail
      refine bodyPost_ret (v := .tuple #[Wv (told (sd (ng a) t)), .int .i64 (over (sd (ng a) t))]) (by simp [results, Tryz.results158, go_sem, *]) rfl ⟨by rw [r.out], ?_⟩
      have hs4 : w.heap.size + 1 < w4.heap.size := World.block_lt_of_cell? _ _ e42
      have hs3 : w.heap.size + 1 < w3.heap.size := World.block_lt_of_cell? _ _ e32
      have hs1 : w.heap.size + 1 < w1.heap.size := World.block_lt_of_cell? _ _ e12
      repeat (first | exact Below.refl _ _ | assumption | apply Below.drew | refine Below.setCell ?_ (by first | omega | (simp; done) | (simp; omega)) _ | refine Below.alloc ?_ (by first | omega | (simp; done) | (simp; omega)) _ | refine Below.trans ?_ (hb4.mono (by first | omega | (simp; done) | (simp; omega))) | refine Below.trans ?_ (hb3.mono (by first | omega | (simp; done) | (simp; omega))) | refine Below.trans ?_ (hb1.mono (by first | omega | (simp; done) | (simp; omega))))

set_option maxHeartbeats 4000000 in
theorem mul_any (a b : Int) (w : World) (a0 : -9223372036854775808 ≤ a) (a1 : a ≤ 9223372036854775807) (b0 : -9223372036854775808 ≤ b) (b1 : b ≤ 9223372036854775807) :
    Calls Tryz.prog 160 #[.int .i64 a, .int .i64 b] w fun e w' => e = .returned (Wv (a * b)) ∧ w.alloc (.cells #[.int .i64 (hi (a * b)), .int .u64 (lo (a * b))] 121) = w' := by
  obtain ⟨x, hx⟩ := Int.eq_ofNat_of_zero_le (u64_nn a)
  obtain ⟨y, hy⟩ := Int.eq_ofNat_of_zero_le (u64_nn b)
  have x1 : x < 18446744073709551616 := by have := u64_lt a; omega
  have y1 : y < 18446744073709551616 := by have := u64_lt b; omega
  have MC := Lib.hid (fun W : World => Tryz.bits_Mul64 x y x1 y1 W)
  obtain ⟨k1, k2⟩ := mul_halves a0 a1 b0 b1 (X := ((x * y : Nat) : Int)) (by rw [hx, hy, Int.natCast_mul])
  unfold mh at k1
  rw [hx, hy] at k1
  push_cast at k1 k2
  clear x1 y1 a0 a1 b0 b1
  generalize a * b = t at *
  by_cases ga : a < 0 <;> by_cases gb : b < 0
  all_goals
    have k3 := k1
    simp only [ga, gb, if_true, if_false] at k3
    have K := Lib.hid (And.intro k3 k2)
    clear k1 k2 k3
    go_enter Tryz.func160, Tryz.ntmps160
    go_wp2_with (go_at_call 187; (with_reducible refine (MC.out _).mono ?_); rintro e w' ⟨rfl, rfl⟩)
    have K1 := K.out.1
    have K2 := K.out.2
    refine bodyPost_ret (v := Wv t) (by simp [results, Tryz.results160, go_sem, K1, K2]) rfl ⟨rfl, ?_⟩
    simp [K1, K2]

end Go.Proofs.YtmafgdinegboeaaGreat
namespace Go.Proofs.YtmafgdinegboeaaGreat
open Go.RowKit

theorem isS_no {a : Int} (h : isS a = false) : ¬ (-9223372036854775808 ≤ a ∧ a ≤ 9223372036854775807) := by unfold isS at h; exact of_decide_eq_false h
set_option maxHeartbeats 2000000 in
theorem near_any (n d : Int) (w : World) (hn : R n) (hd : R d) (h0 : d ≠ 0) : Calls Tryz.prog 159 #[Wv n, Wv d] w fun e w' => e = .returned (.tuple #[.int .i64 (tw (rd n d)), .int .i64 (te (rd n d))]) ∧ Below w.heap.size w w' := by
  have RC := fun W : World => round_any n d W hn hd h0
  by_cases r : R (rd n d)
  · rw [told_in r, over_in r] at RC
    have RC := Lib.hid RC
    generalize rd n d = q at *
    clear hn hd h0 r
    cases g : isS q with
    | true =>
      have SC := fun W : World => small_any q W
      rw [g, show sm q = q from if_pos g] at SC
      have SC := Lib.hid SC
      have TC := Lib.hid (fun W : World => told_any q W)
      clear g
      go_enter Tryz.func159, Tryz.ntmps159
      go_wp2_with (first | (go_at_call 69; (with_reducible refine (RC.out _).mono ?_); rintro e w1 ⟨rfl, hb1⟩; have e10 : w1.cell? ⟨w.heap.size, 0, none⟩ = some (.int .i64 (hi n)) := cell_on hb1; have e11 : w1.cell? ⟨w.heap.size, 1, none⟩ = some (.int .u64 (lo n)) := cell_on hb1; have e12 : w1.cell? ⟨w.heap.size + 1, 0, none⟩ = some (.int .i64 (hi d)) := cell_on hb1; have e13 : w1.cell? ⟨w.heap.size + 1, 1, none⟩ = some (.int .u64 (lo d)) := cell_on hb1; have s10 : w.heap.size < w1.heap.size := World.block_lt_of_cell? _ _ e10; have t10 : w.heap.size < w1.heap.size + 1 := Nat.lt_succ_of_lt s10; have s12 : w.heap.size + 1 < w1.heap.size := World.block_lt_of_cell? _ _ e12; have t12 : w.heap.size + 1 < w1.heap.size + 1 := Nat.lt_succ_of_lt s12) | (go_at_call 71; (with_reducible refine (SC.out _).mono ?_); rintro e w2 ⟨rfl, hb2⟩; have e20 : w2.cell? ⟨w.heap.size, 0, none⟩ = some (.int .i64 (hi n)) := cell_on hb2; have e21 : w2.cell? ⟨w.heap.size, 1, none⟩ = some (.int .u64 (lo n)) := cell_on hb2; have e22 : w2.cell? ⟨w.heap.size + 1, 0, none⟩ = some (.int .i64 (hi d)) := cell_on hb2; have e23 : w2.cell? ⟨w.heap.size + 1, 1, none⟩ = some (.int .u64 (lo d)) := cell_on hb2; have s20 : w.heap.size < w2.heap.size := World.block_lt_of_cell? _ _ e20; have t20 : w.heap.size < w2.heap.size + 1 := Nat.lt_succ_of_lt s20; have s22 : w.heap.size + 1 < w2.heap.size := World.block_lt_of_cell? _ _ e22; have t22 : w.heap.size + 1 < w2.heap.size + 1 := Nat.lt_succ_of_lt s22) | (go_at_call 203; (with_reducible refine (TC.out _).mono ?_); rintro e w' ⟨rfl, rfl⟩))
      go_ret2
      refine ⟨rfl, ?_⟩
      repeat (first | exact Below.refl _ _ | assumption | apply Below.drew | refine Below.setCell ?_ (by first | omega | (simp; done) | (simp; omega)) _ | refine Below.alloc ?_ (by first | omega | (simp; done) | (simp; omega)) _ | refine Below.trans ?_ (hb2.mono (by first | omega | (simp; done) | (simp; omega))) | refine Below.trans ?_ (hb1.mono (by first | omega | (simp; done) | (simp; omega))))
    | false =>
      have SC := fun W : World => small_any q W
      rw [g, show sm q = 0 from if_neg (by simp [g])] at SC
      have SC := Lib.hid SC
      have gw : wd q = false := by
        have := isS_no g
        unfold wd; simp only [decide_eq_false_iff_not]; omega
      have H := Lib.hid (And.intro (tw_out gw) (te_out gw))
      clear g gw
      go_enter Tryz.func159, Tryz.ntmps159
      go_wp2_with (first | (go_at_call 69; (with_reducible refine (RC.out _).mono ?_); rintro e w1 ⟨rfl, hb1⟩; have e10 : w1.cell? ⟨w.heap.size, 0, none⟩ = some (.int .i64 (hi n)) := cell_on hb1; have e11 : w1.cell? ⟨w.heap.size, 1, none⟩ = some (.int .u64 (lo n)) := cell_on hb1; have e12 : w1.cell? ⟨w.heap.size + 1, 0, none⟩ = some (.int .i64 (hi d)) := cell_on hb1; have e13 : w1.cell? ⟨w.heap.size + 1, 1, none⟩ = some (.int .u64 (lo d)) := cell_on hb1; have s10 : w.heap.size < w1.heap.size := World.block_lt_of_cell? _ _ e10; have t10 : w.heap.size < w1.heap.size + 1 := Nat.lt_succ_of_lt s10; have s12 : w.heap.size + 1 < w1.heap.size := World.block_lt_of_cell? _ _ e12; have t12 : w.heap.size + 1 < w1.heap.size + 1 := Nat.lt_succ_of_lt s12) | (go_at_call 71; (with_reducible refine (SC.out _).mono ?_); rintro e w2 ⟨rfl, hb2⟩; have e20 : w2.cell? ⟨w.heap.size, 0, none⟩ = some (.int .i64 (hi n)) := cell_on hb2; have e21 : w2.cell? ⟨w.heap.size, 1, none⟩ = some (.int .u64 (lo n)) := cell_on hb2; have e22 : w2.cell? ⟨w.heap.size + 1, 0, none⟩ = some (.int .i64 (hi d)) := cell_on hb2; have e23 : w2.cell? ⟨w.heap.size + 1, 1, none⟩ = some (.int .u64 (lo d)) := cell_on hb2; have s20 : w.heap.size < w2.heap.size := World.block_lt_of_cell? _ _ e20; have t20 : w.heap.size < w2.heap.size + 1 := Nat.lt_succ_of_lt s20; have s22 : w.heap.size + 1 < w2.heap.size := World.block_lt_of_cell? _ _ e22; have t22 : w.heap.size + 1 < w2.heap.size + 1 := Nat.lt_succ_of_lt s22) | (go_at_call 203; (with_reducible refine (TC.out _).mono ?_); rintro e w' ⟨rfl, rfl⟩))
      go_ret2
      refine ⟨by rw [H.out.1, H.out.2] <;> rfl, ?_⟩
      repeat (first | exact Below.refl _ _ | assumption | apply Below.drew | refine Below.setCell ?_ (by first | omega | (simp; done) | (simp; omega)) _ | refine Below.alloc ?_ (by first | omega | (simp; done) | (simp; omega)) _ | refine Below.trans ?_ (hb2.mono (by first | omega | (simp; done) | (simp; omega))) | refine Below.trans ?_ (hb1.mono (by first | omega | (simp; done) | (simp; omega))))
  · have gw : wd (rd n d) = false := by
      rw [R_iff] at r
      unfold wd; simp only [decide_eq_false_iff_not]; omega
    have H := Lib.hid (And.intro (tw_out gw) (te_out gw))
    rw [told_out r, over_out r] at RC
    have RC := Lib.hid RC
    clear hn hd h0 r gw
    generalize rd n d = q at *
    go_enter Tryz.func159, Tryz.ntmps159
    go_wp2_with (first | (go_at_call 69; (with_reducible refine (RC.out _).mono ?_); rintro e w1 ⟨rfl, hb1⟩; have e10 : w1.cell? ⟨w.heap.size, 0, none⟩ = some (.int .i64 (hi n)) := cell_on hb1; have e11 : w1.cell? ⟨w.heap.size, 1, none⟩ = some (.int .u64 (lo n)) := cell_on hb1; have e12 : w1.cell? ⟨w.heap.size + 1, 0, none⟩ = some (.int .i64 (hi d)) := cell_on hb1; have e13 : w1.cell? ⟨w.heap.size + 1, 1, none⟩ = some (.int .u64 (lo d)) := cell_on hb1; have s10 : w.heap.size < w1.heap.size := World.block_lt_of_cell? _ _ e10; have t10 : w.heap.size < w1.heap.size + 1 := Nat.lt_succ_of_lt s10; have s12 : w.heap.size + 1 < w1.heap.size := World.block_lt_of_cell? _ _ e12; have t12 : w.heap.size + 1 < w1.heap.size + 1 := Nat.lt_succ_of_lt s12) | (go_at_call 71; (with_reducible refine (SC.out _).mono ?_); rintro e w2 ⟨rfl, hb2⟩; have e20 : w2.cell? ⟨w.heap.size, 0, none⟩ = some (.int .i64 (hi n)) := cell_on hb2; have e21 : w2.cell? ⟨w.heap.size, 1, none⟩ = some (.int .u64 (lo n)) := cell_on hb2; have e22 : w2.cell? ⟨w.heap.size + 1, 0, none⟩ = some (.int .i64 (hi d)) := cell_on hb2; have e23 : w2.cell? ⟨w.heap.size + 1, 1, none⟩ = some (.int .u64 (lo d)) := cell_on hb2; have s20 : w.heap.size < w2.heap.size := World.block_lt_of_cell? _ _ e20; have t20 : w.heap.size < w2.heap.size + 1 := Nat.lt_succ_of_lt s20; have s22 : w.heap.size + 1 < w2.heap.size := World.block_lt_of_cell? _ _ e22; have t22 : w.heap.size + 1 < w2.heap.size + 1 := Nat.lt_succ_of_lt s22) | (go_at_call 203; (with_reducible refine (TC.out _).mono ?_); rintro e w' ⟨rfl, rfl⟩))
    go_ret2
    refine ⟨by rw [H.out.1, H.out.2] <;> rfl, ?_⟩
    repeat (first | exact Below.refl _ _ | assumption | apply Below.drew | refine Below.setCell ?_ (by first | omega | (simp; done) | (simp; omega)) _ | refine Below.alloc ?_ (by first | omega | (simp; done) | (simp; omega)) _ | refine Below.trans ?_ (hb1.mono (by first | omega | (simp; done) | (simp; omega))))
end Go.Proofs.YtmafgdinegboeaaGreat
namespace Go.Proofs.YtmafgdinegboeaaGreat
open Go.RowKit










end Go.Proofs.YtmafgdinegboeaaGreat
namespace Go.Proofs.YtmafgdinegboeaaGreat
open Go.RowKit

structure Fl where
  a : Int
  b : Int
  f : Int
  n : Int
  d : Int
  v : Int
  k : Int
end Go.Proofs.YtmafgdinegboeaaGreat
namespace Go.Proofs.YtmafgdinegboeaaGreat
open Go.RowKit

theorem may_any (v : Int) (w : World) : Calls Tryz.prog 110 #[.int .i64 v] w fun e w' => e = .returned (.bool (wd v)) ∧ w = w' := by
  cases g : wd v with
  | true =>
    obtain ⟨g1, g2⟩ := wd_bd g
    clear g
    go_enter Tryz.func110, Tryz.ntmps110
    go_wp2
    go_ret
    exact ⟨rfl, rfl⟩
  | false =>
    have h := wd_no g
    clear g
    by_cases g1 : v ≤ -140737488355328
    · clear h
      go_enter Tryz.func110, Tryz.ntmps110
      go_wp2
      go_ret
      exact ⟨rfl, rfl⟩
    · have g2 : ¬ v < 140737488355328 := by omega
      have g3 : -140737488355328 < v := by omega
      clear h g1
      go_enter Tryz.func110, Tryz.ntmps110
      go_wp2
      go_ret
      exact ⟨rfl, rfl⟩
end Go.Proofs.YtmafgdinegboeaaGreat
namespace Go.Proofs.YtmafgdinegboeaaGreat
open Go.RowKit

theorem R_pow {n : Nat} (h : n ≤ 126) : R (2 ^ n) := by
  have : (2 : Int) ^ n ≤ 2 ^ 126 := by have := Nat.pow_le_pow_right (show 0 < 2 by decide) h; exact_mod_cast this
  have : (0 : Int) < 2 ^ n := Int.pow_pos (by decide)
  rw [R_iff]
  omega
theorem pow_ne (n : Nat) : (2 : Int) ^ n ≠ 0 := by have : (0 : Int) < 2 ^ n := Int.pow_pos (by decide); omega
set_option maxRecDepth 100000 in
set_option maxHeartbeats 2000000 in
theorem close_any (a : Int) (n : Nat) (w : World) (ha : R a) (h1 : n ≤ 126) : Calls Tryz.prog 90 #[Wv a, .int .i64 n] w fun e w' => e = .returned (.tuple #[.int .i64 (tw (rd a (2 ^ n))), .int .i64 (te (rd a (2 ^ n)))]) ∧ Below w.heap.size w w' := by
  have LC := fun W : World => shl_any 1 n W (by decide) h1
  have NC := Lib.hid (fun W : World => near_any a (2 ^ n) W ha (R_pow h1) (pow_ne n))
  rw [Int.one_mul, told_in (R_pow h1), over_in (R_pow h1)] at LC
  have LC := Lib.hid LC
  have F1 := Lib.hid (fun W : World => from_at 1 W (by decide) (by decide))
  clear ha h1
  generalize tw (rd a (2 ^ n)) = q at *
  generalize te (rd a (2 ^ n)) = g at *
  generalize (2 : Int) ^ n = t at *
  go_enter Tryz.func90, Tryz.ntmps90
  go_wp2_with (first | (go_at_call 70; (with_reducible refine (F1.out _).mono ?_); rintro e w' ⟨rfl, rfl⟩) | (go_at_call 158; (with_reducible refine (LC.out _).mono ?_); rintro e w1 ⟨rfl, hb1⟩; have e10 : w1.cell? ⟨w.heap.size, 0, none⟩ = some (.int .i64 (hi a)) := cell_on hb1; have e11 : w1.cell? ⟨w.heap.size, 1, none⟩ = some (.int .u64 (lo a)) := cell_on hb1; have s10 : w.heap.size < w1.heap.size := World.block_lt_of_cell? _ _ e10; have t10 : w.heap.size < w1.heap.size + 1 := Nat.lt_succ_of_lt s10) | (go_at_call 159; (with_reducible refine (NC.out _).mono ?_); rintro e w2 ⟨rfl, hb2⟩; have e20 : w2.cell? ⟨w.heap.size, 0, none⟩ = some (.int .i64 (hi a)) := cell_on hb2; have e21 : w2.cell? ⟨w.heap.size, 1, none⟩ = some (.int .u64 (lo a)) := cell_on hb2; have s20 : w.heap.size < w2.heap.size := World.block_lt_of_cell? _ _ e20; have t20 : w.heap.size < w2.heap.size + 1 := Nat.lt_succ_of_lt s20))
  go_ret2
  refine ⟨rfl, ?_⟩
  repeat (first | exact Below.refl _ _ | assumption | apply Below.drew | refine Below.setCell ?_ (by first | omega | (simp; done) | (simp; omega)) _ | refine Below.alloc ?_ (by first | omega | (simp; done) | (simp; omega)) _ | refine Below.trans ?_ (hb2.mono (by first | omega | (simp; done) | (simp; omega))) | refine Below.trans ?_ (hb1.mono (by first | omega | (simp; done) | (simp; omega))))
end Go.Proofs.YtmafgdinegboeaaGreat
namespace Go.Proofs.YtmafgdinegboeaaGreat
open Go.RowKit

end Go.Proofs.YtmafgdinegboeaaGreat
namespace Go.Proofs.YtmafgdinegboeaaGreat
open Go.RowKit

theorem up_cases (n d : Int) : (up n d = true ∧ (ab d < 2 * (ab n % ab d) ∨ (2 * (ab n % ab d) = ab d ∧ ab n / ab d % 2 = 1))) ∨ (up n d = false ∧ (2 * (ab n % ab d) < ab d ∨ (2 * (ab n % ab d) = ab d ∧ ab n / ab d % 2 ≠ 1))) := by
  unfold up
  generalize 2 * (ab n % ab d) = r
  generalize ab n / ab d = q
  generalize ab d = D
  rcases Int.lt_trichotomy r D with h | h | h
  · rw [sg_lt h]; simp; omega
  · rw [h, sg_eq]
    by_cases hq : q % 2 = 1
    · simp [hq]
    · simp [hq]
  · have e : sg r D = 1 := by unfold sg; rw [if_neg (by omega), if_pos h]
    rw [e]; simp; omega
end Go.Proofs.YtmafgdinegboeaaGreat
namespace Go.Proofs.YtmafgdinegboeaaGreat
open Go.RowKit

end Go.Proofs.YtmafgdinegboeaaGreat
namespace Go.Proofs.YtmafgdinegboeaaGreat
open Go.RowKit

end Go.Proofs.YtmafgdinegboeaaGreat
namespace Go.Proofs.YtmafgdinegboeaaGreat
open Go.RowKit

end Go.Proofs.YtmafgdinegboeaaGreat
namespace Go.Proofs.YtmafgdinegboeaaGreat
open Go.RowKit

end Go.Proofs.YtmafgdinegboeaaGreat
namespace Go.Proofs.YtmafgdinegboeaaGreat
open Go Go.RowKit Go.Shelf

end Go.Proofs.YtmafgdinegboeaaGreat
namespace Go.Proofs.YtmafgdinegboeaaGreat
open Go Go.RowKit Go.Shelf

theorem al_below0 {W : World} (o : Obj) : Below W.heap.size W (W.alloc o) := (Below.refl _ _).alloc (Nat.le_refl _) o
end Go.Proofs.YtmafgdinegboeaaGreat
namespace Go.Proofs.YtmafgdinegboeaaGreat
open Go Go.RowKit Go.Shelf
attribute [local go_sem] Oper.semAt_some

theorem map_getD {f : Nat → Int} {M m : Nat} (h : m < M) : ((List.range M).map f).getD m 0 = f m := by
  simp [List.getD_eq_getElem?_getD, h]
theorem region_inF {P : Program} {n l id : Nat} {ops : Array Oper} {S : World → Prop} {a F : Act} {W X : World} {K : Exit → Act → World → Prop} (hd : (ops.toList.all fun o => nodf o.op) = true) (hm : P.follows .mixedOrders = true) (hS : S W.drew)
    (h : S W.drew → wpAnyH P .any ops (fun e a2 W2 => e = .normal ∧ a2 = F ∧ W2 = X) S ops.size (Array.replicate ops.size false) a W.drew) (hk : K .normal F X) : (Code.region id ops true).wpIn (Fence.wide.inRound l) n P K a W := by
  refine wpIn_mono (region_inA (R := fun a2 W2 => a2 = F ∧ W2 = X) hd hm hS h) ?_
  rintro e a3 W3 ⟨rfl, rfl, rfl⟩
  exact hk
end Go.Proofs.YtmafgdinegboeaaGreat
namespace Go.Proofs.YtmafgdinegboeaaGreat

theorem fer_zero {er : Nat → Int} : ∀ {n : Nat}, fer er n = 0 → ∀ k, k < n → er k = 0
  | 0, _, k, hk => absurd hk (Nat.not_lt_zero _)
  | n + 1, h, k, hk => by
    unfold fer at h
    by_cases e : fer er n = 0
    · rw [if_pos e] at h
      by_cases ek : k = n
      · subst ek; exact h
      · exact fer_zero e k (by omega)
    · rw [if_neg e] at h; exact absurd h e
theorem te_wd {v : Int} (h : te v = 0) : wd v = true := by
  cases g : wd v with
  | true => rfl
  | false => rw [te_out g] at h; exact absurd h (by decide)
theorem vls_getD {va : Nat → Int} {n k : Nat} (h : k < n) : (vls va n).getD k 0 = va k := map_getD h
end Go.Proofs.YtmafgdinegboeaaGreat
namespace Go.Proofs.YtmafgdinegboeaaGreat

theorem prod_app : ∀ (x y : List Int), prod (x ++ y) = prod x * prod y
  | [], y => by show prod y = 1 * prod y; rw [Int.one_mul]
  | d :: x, y => by show d * prod (x ++ y) = d * prod x * prod y; rw [prod_app x y, Int.mul_assoc]
theorem prod_last (x : List Int) (d : Int) : prod (x ++ [d]) = prod x * d := by
  rw [prod_app]; show prod x * (d * 1) = _; rw [Int.mul_one]
theorem take_last {a : List Int} {n : Nat} (h : a.length = n + 1) : a = a.take n ++ [a.getD n 0] := by
  have e : a.take (n + 1) = a := by rw [← h, List.take_length]
  have hn : n < a.length := by omega
  conv => lhs; rw [← e]
  rw [List.take_succ_eq_append_getElem hn]
  simp [List.getD, List.getElem?_eq_getElem hn]
theorem take_getD {a : List Int} {k n : Nat} (h : k < n) : (a.take n).getD k 0 = a.getD k 0 := by
  simp only [List.getD, List.getElem?_take_of_lt h]
def mfit (a b : List Int) : Bool := decide (2 ≤ a.length) && (decide (b.length = 2) || decide (b.length = a.length)) && decide (a.take (b.length - 2) = b.take (b.length - 2)) && decide (a.getD (a.length - 1) 0 = b.getD (b.length - 2) 0)
def msh (a b : List Int) : List Int := a.set (a.length - 1) (b.getD (b.length - 1) 0)
def mrw (a b : List Int) : Int := if b.length = 2 then prod (a.take (a.length - 1)) else a.getD (a.length - 2) 0
theorem mfit_len {a b : List Int} (h : mfit a b = true) : 2 ≤ a.length ∧ 2 ≤ b.length ∧ (b.length = 2 ∨ b.length = a.length) ∧ a.take (b.length - 2) = b.take (b.length - 2) ∧ a.getD (a.length - 1) 0 = b.getD (b.length - 2) 0 := by
  simp only [mfit, Bool.and_eq_true, Bool.or_eq_true, decide_eq_true_eq] at h
  obtain ⟨⟨⟨h1, h2⟩, h3⟩, h4⟩ := h
  exact ⟨h1, by omega, h2, h3, h4⟩
theorem msh_len (a b : List Int) : (msh a b).length = a.length := by simp [msh]
theorem msh_is {a b : List Int} (h : 2 ≤ a.length) : msh a b = a.take (a.length - 1) ++ [b.getD (b.length - 1) 0] := by
  obtain ⟨n, hn⟩ : ∃ n, a.length = n + 1 := ⟨a.length - 1, by omega⟩
  have e := take_last hn
  unfold msh
  rw [hn, Nat.add_sub_cancel]
  conv => lhs; rw [e]
  have hl : (a.take n).length = n := by simp; omega
  rw [List.set_append_right _ _ (by omega), hl, Nat.sub_self]; rfl
theorem mul_parts {a b : List Int} (h : mfit a b = true) (ma : may a = true) (mb : may b = true) (ms : may (msh a b) = true) :
    ∃ D C Rb NB : Nat, a.getD (a.length - 1) 0 = (D : Int) ∧ b.getD (b.length - 1) 0 = (C : Int) ∧ b.getD (b.length - 2) 0 = (D : Int) ∧ mrw a b = (Rb : Int) ∧ prod a = ((NB * Rb * D : Nat) : Int) ∧ prod b = ((NB * (D * C) : Nat) : Int) ∧ prod (msh a b) = ((NB * Rb * C : Nat) : Int) ∧
      (1 ≤ D ∧ D ≤ 4096) ∧ (1 ≤ C ∧ C ≤ 4096) ∧ 1 ≤ Rb ∧ 1 ≤ NB ∧ NB * Rb * D ≤ 65536 ∧ NB * (D * C) ≤ 65536 ∧ NB * Rb * C ≤ 65536 := by
  obtain ⟨h1, h2, h3, h4, h5⟩ := mfit_len h
  obtain ⟨d1, d2⟩ := may_dim ma (i := a.length - 1) (by omega)
  obtain ⟨c1, c2⟩ := may_dim mb (i := b.length - 1) (by omega)
  obtain ⟨r1, r2⟩ := may_dim ma (i := a.length - 2) (by omega)
  obtain ⟨D, hD⟩ := Int.eq_ofNat_of_zero_le (show 0 ≤ a.getD (a.length - 1) 0 by omega)
  obtain ⟨C, hC⟩ := Int.eq_ofNat_of_zero_le (show 0 ≤ b.getD (b.length - 1) 0 by omega)
  have pa := may_prod ma
  have pb := may_prod mb
  have ps := may_prod ms
  have ea : prod a = prod (a.take (a.length - 1)) * D := by
    conv => lhs; rw [take_last (a := a) (n := a.length - 1) (by omega)]
    rw [prod_last, hD]
  have es : prod (msh a b) = prod (a.take (a.length - 1)) * C := by rw [msh_is h1, prod_last, hC]
  have eb : prod b = prod (b.take (b.length - 2)) * (D * C) := by
    have e1 := take_last (a := b) (n := b.length - 1) (by omega)
    have e2 := take_last (a := b.take (b.length - 1)) (n := b.length - 2) (by simp; omega)
    have e3 : (b.take (b.length - 1)).getD (b.length - 2) 0 = b.getD (b.length - 2) 0 := take_getD (by omega)
    have e4 : (b.take (b.length - 1)).take (b.length - 2) = b.take (b.length - 2) := by rw [List.take_take]; congr 1; omega
    rw [e3, e4] at e2
    conv => lhs; rw [e1, e2]
    rw [prod_last, prod_last, hC, ← h5, hD, Int.mul_assoc]
  have ha1 : 1 ≤ prod (a.take (a.length - 1)) := prod_pos (fun d hd => (may_pos ma) d (List.mem_of_mem_take hd))
  rcases Decidable.em (b.length = 2) with hb | hb
  · obtain ⟨Rb, hR⟩ := Int.eq_ofNat_of_zero_le (show 0 ≤ prod (a.take (a.length - 1)) by omega)
    have eb2 : prod (b.take (b.length - 2)) = 1 := by rw [hb]; rfl
    rw [hR] at ea es ha1
    rw [eb2, Int.one_mul] at eb
    refine ⟨D, C, Rb, 1, hD, hC, by rw [← h5]; exact hD, by unfold mrw; rw [if_pos hb]; exact hR, by rw [ea, Nat.one_mul]; push_cast; rfl, by rw [eb, Nat.one_mul]; push_cast; rfl, by rw [es, Nat.one_mul]; push_cast; rfl, by omega, by omega, by omega, by omega, ?_, ?_, ?_⟩
    · have : ((1 * Rb * D : Nat) : Int) = prod a := by rw [ea, Nat.one_mul]; push_cast; rfl
      omega
    · have : ((1 * (D * C) : Nat) : Int) = prod b := by rw [eb, Nat.one_mul]; push_cast; rfl
      omega
    · have : ((1 * Rb * C : Nat) : Int) = prod (msh a b) := by rw [es, Nat.one_mul]; push_cast; rfl
      omega
  · have hl : b.length = a.length := by omega
    obtain ⟨Rb, hR⟩ := Int.eq_ofNat_of_zero_le (show 0 ≤ a.getD (a.length - 2) 0 by omega)
    have hb1 : 1 ≤ prod (b.take (b.length - 2)) := prod_pos (fun d hd => (may_pos mb) d (List.mem_of_mem_take hd))
    obtain ⟨NB, hN⟩ := Int.eq_ofNat_of_zero_le (show 0 ≤ prod (b.take (b.length - 2)) by omega)
    have e5 : prod (a.take (a.length - 1)) = NB * Rb := by
      have e2 := take_last (a := a.take (a.length - 1)) (n := a.length - 2) (by simp; omega)
      have e3 : (a.take (a.length - 1)).getD (a.length - 2) 0 = a.getD (a.length - 2) 0 := take_getD (by omega)
      have e4 : (a.take (a.length - 1)).take (a.length - 2) = a.take (a.length - 2) := by rw [List.take_take]; congr 1; omega
      rw [hl] at h4 hN
      rw [e2, prod_last, e3, e4, hR, ← hN, h4]
    rw [e5] at ea es
    rw [hN] at eb hb1
    have g1 : prod a = ((NB * Rb * D : Nat) : Int) := by rw [ea]; push_cast; rfl
    have g2 : prod b = ((NB * (D * C) : Nat) : Int) := by rw [eb]; push_cast; rfl
    have g3 : prod (msh a b) = ((NB * Rb * C : Nat) : Int) := by rw [es]; push_cast; rfl
    exact ⟨D, C, Rb, NB, hD, hC, by rw [← h5]; exact hD, by unfold mrw; rw [if_neg hb]; exact hR, g1, g2, g3, by omega, by omega, by omega, by omega, by omega, by omega, by omega⟩
def mS (da db : List Int) (D C x r j : Nat) : Int := smA (fun k => da.getD (r * D + k) 0 * db.getD (x * (D * C) + (k * C + j)) 0) D
def mN (da db : List Int) (D C Rb n : Nat) : Int := mS da db D C (n / C / Rb) (n / C) (n % C)
def mva (da db : List Int) (D C Rb f n : Nat) : Int := tw (rd (mN da db D C Rb n) (2 ^ f))
def mvr (da db : List Int) (D C Rb f n : Nat) : Int := te (rd (mN da db D C Rb n) (2 ^ f))
theorem smA_bd {d : Nat → Int} {B : Int} (h0 : 0 ≤ B) : ∀ {n : Nat}, (∀ k, k < n → -B ≤ d k ∧ d k ≤ B) → -(B * n) ≤ smA d n ∧ smA d n ≤ B * n
  | 0, _ => by show -(B * (0 : Nat)) ≤ (0 : Int) ∧ (0 : Int) ≤ B * (0 : Nat); simp
  | n + 1, h => by
    have ih := smA_bd h0 (n := n) (fun k hk => h k (by omega))
    have hn := h n (by omega)
    have e : B * ((n + 1 : Nat) : Int) = B * n + B := by push_cast; rw [Int.mul_add, Int.mul_one]
    show -(B * ((n + 1 : Nat) : Int)) ≤ smA d n + d n ∧ smA d n + d n ≤ B * ((n + 1 : Nat) : Int)
    rw [e]; omega
theorem word_mul {x y : Int} (hx : wd x = true) (hy : wd y = true) : -19807040628566084398385987584 ≤ x * y ∧ x * y ≤ 19807040628566084398385987584 := by
  have h1 := wd_bd hx
  have h2 := wd_bd hy
  have h3 : (x * y).natAbs ≤ 140737488355328 * 140737488355328 := by
    rw [Int.natAbs_mul]; exact Nat.mul_le_mul (by omega) (by omega)
  omega
theorem sum_R {d : Nat → Int} {n : Nat} (hn : n ≤ 4096) (h : ∀ k, k < n → -19807040628566084398385987584 ≤ d k ∧ d k ≤ 19807040628566084398385987584) : R (smA d n) := by
  have := smA_bd (B := 19807040628566084398385987584) (by decide) h
  rw [R_iff]
  omega
end Go.Proofs.YtmafgdinegboeaaGreat
namespace Go.Proofs.YtmafgdinegboeaaGreat

theorem ix_snoc : ∀ {s i : List Int} {d x : Int}, s.length = i.length → ix (s ++ [d]) (i ++ [x]) = ix s i * d + x
  | [], [], d, x, _ => by simp [ix, prod]
  | e :: s, y :: i, d, x, h => by
    have ih := ix_snoc (s := s) (i := i) (d := d) (x := x) (by simpa using h)
    simp only [List.cons_append, ix, ih, prod_last]
    rw [Int.add_mul, Int.mul_assoc, Int.add_assoc]
  | [], _ :: _, _, _, h => by simp at h
  | _ :: _, [], _, _, h => by simp at h
theorem inx_snoc : ∀ {s i : List Int} {d x : Int}, inx s i = true → 0 ≤ x → x < d → inx (s ++ [d]) (i ++ [x]) = true
  | [], [], d, x, _, h0, h1 => by simp [inx, h0, h1]
  | e :: s, y :: i, d, x, h, h0, h1 => by
    simp only [inx, Bool.and_eq_true] at h
    simp only [List.cons_append, inx, Bool.and_eq_true]
    exact ⟨h.1, inx_snoc h.2 h0 h1⟩
  | [], _ :: _, _, _, h, _, _ => by simp [inx] at h
  | _ :: _, [], _, _, h, _, _ => by simp [inx] at h
theorem atl_snoc {p : List Int} {e n : Int} (hp : pos p) (he : 1 ≤ e) (h0 : 0 ≤ n) (h1 : n < prod p * e) : atl (p ++ [e]) n = atl p (n / e) ++ [n % e] := by
  have q0 : 0 ≤ n / e := Int.ediv_nonneg h0 (by omega)
  have q1 : n / e < prod p := by rw [Int.ediv_lt_iff_lt_mul (by omega)]; exact h1
  have r0 := Int.emod_nonneg n (show e ≠ 0 by omega)
  have r1 := Int.emod_lt_of_pos n (show 0 < e by omega)
  have hi := inx_snoc (atl_inx p (n / e) hp q0 q1) r0 r1
  have hx : ix (p ++ [e]) (atl p (n / e) ++ [n % e]) = n := by
    rw [ix_snoc (atl_len p _).symm, ix_atl p _ hp q0 q1, Int.mul_comm]
    exact Int.mul_ediv_add_emod n e
  have := atl_ix _ _ hi
  rwa [hx] at this
structure MulAt (a b : List Int) (D C Rb : Nat) (n k : Nat) (i : List Int) : Prop where
  len : i.length = a.length
  row : inx a (i.take (a.length - 1) ++ [(k : Int)]) = true ∧ ix a (i.take (a.length - 1) ++ [(k : Int)]) = ((n / C * D + k : Nat) : Int)
  last : i.getD (a.length - 1) 0 = ((n % C : Nat) : Int)
  col2 : b.length = 2 → inx b [(k : Int), ((n % C : Nat) : Int)] = true ∧ ix b [(k : Int), ((n % C : Nat) : Int)] = ((n / C / Rb * (D * C) + (k * C + n % C) : Nat) : Int)
  col3 : b.length = a.length → inx b (i.take (a.length - 2) ++ [(k : Int), ((n % C : Nat) : Int)]) = true ∧ ix b (i.take (a.length - 2) ++ [(k : Int), ((n % C : Nat) : Int)]) = ((n / C / Rb * (D * C) + (k * C + n % C) : Nat) : Int)
theorem nat_div_lt {n P C : Nat} (h : n < P * C) : n / C < P := by
  rcases Nat.eq_zero_or_pos C with e | e
  · subst e; omega
  · exact Nat.div_lt_of_lt_mul (by rw [Nat.mul_comm]; exact h)
theorem mul_at {a b : List Int} {D C Rb NB n k : Nat} (hf : mfit a b = true) (ma : may a = true) (mb : may b = true) (hD : a.getD (a.length - 1) 0 = (D : Int)) (hC : b.getD (b.length - 1) 0 = (C : Int)) (hD2 : b.getD (b.length - 2) 0 = (D : Int)) (hR : mrw a b = (Rb : Int)) (hN : prod (msh a b) = ((NB * Rb * C : Nat) : Int))
    (hRb : 1 ≤ Rb) (hn : n < NB * Rb * C) (hk : k < D) (h1C : 1 ≤ C) : MulAt a b D C Rb n k (atl (msh a b) (n : Int)) := by
  obtain ⟨l1, l2, l3, l4, l5⟩ := mfit_len hf
  obtain ⟨p, hp⟩ : ∃ p, p = a.take (a.length - 1) := ⟨_, rfl⟩
  have hpl : p.length = a.length - 1 := by rw [hp, List.length_take]; omega
  have ea : a = p ++ [(D : Int)] := by
    have := take_last (a := a) (n := a.length - 1) (by omega)
    rw [hD, ← hp] at this; exact this
  have es : msh a b = p ++ [(C : Int)] := by rw [msh_is l1, hC, ← hp]
  have pp : pos p := fun x hx => may_pos ma x (by rw [ea]; exact List.mem_append_left _ hx)
  have hPr : prod p = ((NB * Rb : Nat) : Int) := by
    have h := hN
    rw [es, prod_last] at h
    have h2 : prod p * (C : Int) = ((NB * Rb : Nat) : Int) * (C : Int) := by rw [h]; push_cast; rfl
    exact Int.eq_of_mul_eq_mul_right (by omega) h2
  have hm : n / C < NB * Rb := nat_div_lt hn
  have ei : atl (msh a b) (n : Int) = atl p ((n / C : Nat) : Int) ++ [((n % C : Nat) : Int)] := by
    rw [es, atl_snoc pp (by omega) (by omega) (by rw [hPr, ← Int.natCast_mul]; omega)]
    rw [Int.natCast_ediv, Int.natCast_emod]
  have hal : (atl p ((n / C : Nat) : Int)).length = p.length := atl_len _ _
  have hip : inx p (atl p ((n / C : Nat) : Int)) = true := atl_inx p _ pp (Int.natCast_nonneg _) (by rw [hPr]; exact Int.ofNat_lt.2 hm)
  have hxp : ix p (atl p ((n / C : Nat) : Int)) = ((n / C : Nat) : Int) := ix_atl p _ pp (Int.natCast_nonneg _) (by rw [hPr]; exact Int.ofNat_lt.2 hm)
  have et : (atl (msh a b) (n : Int)).take (a.length - 1) = atl p ((n / C : Nat) : Int) := by
    rw [ei, ← hpl, ← hal, List.take_left']; rfl
  refine ⟨?_, ?_, ?_, ?_, ?_⟩
  · rw [ei, List.length_append, hal, hpl]; simp; omega
  · rw [et]
    constructor
    · conv => lhs; rw [ea]
      exact inx_snoc hip (by omega) (by omega)
    · conv => lhs; rw [ea]
      rw [ix_snoc hal.symm, hxp]; push_cast; rfl
  · rw [ei, ← hpl, ← hal]
    simp [List.getD]
  · intro hb
    have eR : (Rb : Int) = prod p := by rw [← hR, mrw, if_pos hb, hp]
    have hz : n / C / Rb = 0 := by
      have h2 : NB * Rb = Rb := by rw [hPr] at eR; omega
      exact Nat.div_eq_of_lt (by omega)
    have eb : b = [(D : Int), (C : Int)] := by
      have := take_last (a := b) (n := 1) (by omega)
      rw [hb] at hC hD2
      match b, hb with
      | [x, y], _ =>
        simp only [List.getD_cons_zero, List.getD_cons_succ, Nat.reduceSub] at hC hD2
        rw [hC, hD2]
    rw [hz, eb]
    have hc := Nat.mod_lt n (show 0 < C by omega)
    constructor
    · simp only [inx, Bool.and_eq_true, decide_eq_true_eq, and_true]
      omega
    · simp only [ix, prod]; push_cast; simp
  · intro hb
    by_cases h2 : a.length = 2
    · have hb2 : b.length = 2 := by omega
      have e0 : a.length - 2 = 0 := by omega
      rw [e0, List.take_zero, List.nil_append]
      have eR : (Rb : Int) = prod p := by rw [← hR, mrw, if_pos hb2, hp]
      have hz : n / C / Rb = 0 := by
        have h2 : NB * Rb = Rb := by rw [hPr] at eR; omega
        exact Nat.div_eq_of_lt (by omega)
      have eb : b = [(D : Int), (C : Int)] := by
        rw [hb2] at hC hD2
        match b, hb2 with
        | [x, y], _ =>
          simp only [List.getD_cons_zero, List.getD_cons_succ, Nat.reduceSub] at hC hD2
          rw [hC, hD2]
      rw [hz, eb]
      have hc := Nat.mod_lt n (show 0 < C by omega)
      constructor
      · simp only [inx, Bool.and_eq_true, decide_eq_true_eq, and_true]
        omega
      · simp only [ix, prod]; push_cast; simp
    · have hbne : ¬ b.length = 2 := by omega
      -- p is q and the block's rows
      obtain ⟨q, hq⟩ : ∃ q, q = p.take (p.length - 1) := ⟨_, rfl⟩
      have hql : q.length = a.length - 2 := by rw [hq, List.length_take]; omega
      have eRb : p.getD (p.length - 1) 0 = (Rb : Int) := by
        rw [← hR, mrw, if_neg hbne, hp, take_getD (by rw [List.length_take]; omega)]
        congr 1; rw [List.length_take]; omega
      have epq : p = q ++ [(Rb : Int)] := by
        have := take_last (a := p) (n := p.length - 1) (by omega)
        rw [eRb, ← hq] at this; exact this
      have hqa : q = a.take (a.length - 2) := by
        rw [hq, hp, List.take_take]; congr 1; rw [List.length_take]; omega
      have pq : pos q := fun x hx => pp x (by rw [epq]; exact List.mem_append_left _ hx)
      have hQ : prod q = (NB : Int) := by
        have h := hPr
        rw [epq, prod_last] at h
        have h2 : prod q * (Rb : Int) = (NB : Int) * (Rb : Int) := by rw [h]; push_cast; rfl
        exact Int.eq_of_mul_eq_mul_right (by omega) h2
      have hm2 : n / C / Rb < NB := nat_div_lt hm
      have eat : atl p ((n / C : Nat) : Int) = atl q ((n / C / Rb : Nat) : Int) ++ [((n / C % Rb : Nat) : Int)] := by
        conv => lhs; rw [epq]
        rw [atl_snoc pq (by omega) (Int.natCast_nonneg _) (by rw [hQ, ← Int.natCast_mul]; exact Int.ofNat_lt.2 hm)]
        rw [Int.natCast_ediv (n / C), Int.natCast_emod (n / C)]
      have hql2 : (atl q ((n / C / Rb : Nat) : Int)).length = q.length := atl_len _ _
      have et2 : (atl (msh a b) (n : Int)).take (a.length - 2) = atl q ((n / C / Rb : Nat) : Int) := by
        rw [ei, eat, ← hql, ← hql2, List.append_assoc, List.take_left']; rfl
      have eb : b = q ++ [(D : Int)] ++ [(C : Int)] := by
        have h1 := take_last (a := b) (n := b.length - 1) (by omega)
        have h2 := take_last (a := b.take (b.length - 1)) (n := b.length - 2) (by simp; omega)
        have h3 : (b.take (b.length - 1)).getD (b.length - 2) 0 = b.getD (b.length - 2) 0 := take_getD (by omega)
        have h4 : (b.take (b.length - 1)).take (b.length - 2) = b.take (b.length - 2) := by rw [List.take_take]; congr 1; omega
        have e5 : b.take (b.length - 2) = q := by rw [← l4, hb, ← hqa]
        rw [h3, h4, hD2, e5] at h2
        rw [h2, hC] at h1
        exact h1
      rw [et2, show atl q ((n / C / Rb : Nat) : Int) ++ [(k : Int), ((n % C : Nat) : Int)] = (atl q ((n / C / Rb : Nat) : Int) ++ [(k : Int)]) ++ [((n % C : Nat) : Int)] by simp]
      have hiq : inx q (atl q ((n / C / Rb : Nat) : Int)) = true := atl_inx q _ pq (Int.natCast_nonneg _) (by rw [hQ]; exact Int.ofNat_lt.2 hm2)
      have hxq : ix q (atl q ((n / C / Rb : Nat) : Int)) = ((n / C / Rb : Nat) : Int) := ix_atl q _ pq (Int.natCast_nonneg _) (by rw [hQ]; exact Int.ofNat_lt.2 hm2)
      have hc := Nat.mod_lt n (show 0 < C by omega)
      constructor
      · conv => lhs; rw [eb]
        exact inx_snoc (inx_snoc hiq (by omega) (by omega)) (by omega) (by omega)
      · conv => lhs; rw [eb]
        rw [ix_snoc (by rw [List.length_append, List.length_append, hql2]; rfl), ix_snoc hql2.symm, hxq]
        push_cast
        rw [Int.add_mul, Int.mul_assoc, Int.add_assoc]
end Go.Proofs.YtmafgdinegboeaaGreat
