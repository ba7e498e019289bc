/-
  Shifts and products of wide numbers; a rounding that every statement asks for.
  Quotients told as words.
  Sums and differences of words.
  The statements' lists of package fx: what an element's cells hold.
  The small functions of package fx's statements.
  Closing, ratios, and the operations of words.
  The document's own answer for package fx: sums, products, quotients, closings, told as words.
  Shapes as lists of whole numbers: counts, strides, indexes, places; plain mathematics.
  Shapes as lists of whole numbers: steps of an index, spread shapes, what stands under an index; plain mathematics.
-/
import Derived.LoopTactic
import Derived.Test.YtmafgdinegboeaaGreatRows
import Derived.Test.YtmafgdinegboeaaGreatM11
namespace Go.Proofs.YtmafgdinegboeaaGreat
open Go.RowKit

set_option maxHeartbeats 8000000 in
/-- wide.Left -/
theorem shl_any (a : Int) (n : Nat) (w : World) (ha : R a) (h1 : n ≤ 126) : Calls Tryz.prog 158 #[Wv a, .int .i64 n] w fun e w' => e = .returned (.tuple #[Wv (told (a * 2 ^ n)), .int .i64 (over (a * 2 ^ n))]) ∧ Below w.heap.size w w' := by
  have lb := bl_le (U_ab ha)
  have SZ := Lib.hid (fun W : World => sizeOf_any a W ha)
  have LN := Lib.hid (fun W : World => length_any (ab a) W (U_ab ha))
  have BN := Lib.hid (fun W : World => below_any a W)
  by_cases g : 128 < bl (ab a) + n
  · have r := Lib.hid (And.intro (told_out (left_far ha n h1 g)) (over_out (left_far ha n h1 g)))
    have g' : (128 : Int) < (bl (ab a) : Int) + n := by omega
    clear ha g
    generalize ab a = s at *
    go_enter Tryz.func158, Tryz.ntmps158
    go_wp2_with (first | (go_at_call 136; (with_reducible refine (SZ.out _).mono ?_); rintro e w1 ⟨rfl, hb1⟩; have e10 : w1.cell? ⟨w.heap.size, 0, none⟩ = some (.int .i64 (hi a)) := cell_on hb1 (by first | (simp [go_sem, *]; done) | (simp [go_sem, World.cell?_alloc_some, *]; done) | fail); have e11 : w1.cell? ⟨w.heap.size, 1, none⟩ = some (.int .u64 (lo a)) := cell_on hb1 (by first | (simp [go_sem, *]; done) | (simp [go_sem, World.cell?_alloc_some, *]; done) | fail); have e12 : w1.cell? ⟨w.heap.size + 1, 0, none⟩ = some (.int .i64 0) := cell_on hb1 (by first | (simp [go_sem, *]; done) | (simp [go_sem, World.cell?_alloc_some, *]; done) | fail); have e13 : w1.cell? ⟨w.heap.size + 1, 1, none⟩ = some (.int .u64 0) := cell_on hb1 (by first | (simp [go_sem, *]; done) | (simp [go_sem, World.cell?_alloc_some, *]; done) | fail); have s10 : w.heap.size < w1.heap.size := World.block_lt_of_cell? _ _ e10; have t10 : w.heap.size < w1.heap.size + 1 := Nat.lt_succ_of_lt s10; have s12 : w.heap.size + 1 < w1.heap.size := World.block_lt_of_cell? _ _ e12; have t12 : w.heap.size + 1 < w1.heap.size + 1 := Nat.lt_succ_of_lt s12; have y12 : w1.frozen? ⟨w.heap.size + 1, 0, none⟩ = false := frozen_on hb1 (v := .int .i64 0) (by first | (simp [go_sem, *]; done) | (simp [go_sem, World.cell?_alloc_some, *]; done) | fail) (by first | (simp [go_sem, *]; done) | (simp [go_sem, frozen?_alloc_cells, *]; done) | fail); have y13 : w1.frozen? ⟨w.heap.size + 1, 1, none⟩ = false := frozen_on hb1 (v := .int .u64 0) (by first | (simp [go_sem, *]; done) | (simp [go_sem, World.cell?_alloc_some, *]; done) | fail) (by first | (simp [go_sem, *]; done) | (simp [go_sem, frozen?_alloc_cells, *]; done) | fail)) | (go_at_call 190; (with_reducible refine (LN.out _).mono ?_); rintro e w2 ⟨rfl, rfl⟩))
    refine bodyPost_ret (v := .tuple #[.agg #[.int .i64 0, .int .u64 0], .int .i64 3]) (by simp [results, Tryz.results158, go_sem, *]) rfl ⟨by rw [r.out.1, r.out.2] <;> rfl, ?_⟩
    repeat (first | exact Below.refl _ _ | assumption | apply Below.drew | refine Below.setCell ?_ (by first | omega | (simp; done) | (simp; omega)) _ | refine Below.alloc ?_ (by first | omega | (simp; done) | (simp; omega)) _ | refine Below.trans ?_ (hb1.mono (by first | omega | (simp; done) | (simp; omega))))
  · have e1 := left_near ha n (by omega)
    have LC := Lib.hid (fun W : World => left_any (ab a) n W (U_ab ha) (by omega))
    have UT : U (ab a * 2 ^ n) := by rw [← e1]; exact U_ws _
    rw [e1] at LC
    have SI := Lib.hid (fun W : World => signed_any (ab a * 2 ^ n) (ng a) W UT)
    have r := Lib.hid (sd_ab a (2 ^ n))
    have g' : ¬ (128 : Int) < (bl (ab a) : Int) + n := by omega
    clear ha g e1 UT
    generalize ab a = s at *
    generalize s * 2 ^ n = t at *
    go_enter Tryz.func158, Tryz.ntmps158
    go_wp2_with (first | (go_at_call 136; (with_reducible refine (SZ.out _).mono ?_); rintro e w1 ⟨rfl, hb1⟩; have e10 : w1.cell? ⟨w.heap.size, 0, none⟩ = some (.int .i64 (hi a)) := cell_on hb1 (by first | (simp [go_sem, *]; done) | (simp [go_sem, World.cell?_alloc_some, *]; done) | fail); have e11 : w1.cell? ⟨w.heap.size, 1, none⟩ = some (.int .u64 (lo a)) := cell_on hb1 (by first | (simp [go_sem, *]; done) | (simp [go_sem, World.cell?_alloc_some, *]; done) | fail); have e12 : w1.cell? ⟨w.heap.size + 1, 0, none⟩ = some (.int .i64 0) := cell_on hb1 (by first | (simp [go_sem, *]; done) | (simp [go_sem, World.cell?_alloc_some, *]; done) | fail); have e13 : w1.cell? ⟨w.heap.size + 1, 1, none⟩ = some (.int .u64 0) := cell_on hb1 (by first | (simp [go_sem, *]; done) | (simp [go_sem, World.cell?_alloc_some, *]; done) | fail); have s10 : w.heap.size < w1.heap.size := World.block_lt_of_cell? _ _ e10; have t10 : w.heap.size < w1.heap.size + 1 := Nat.lt_succ_of_lt s10; have s12 : w.heap.size + 1 < w1.heap.size := World.block_lt_of_cell? _ _ e12; have t12 : w.heap.size + 1 < w1.heap.size + 1 := Nat.lt_succ_of_lt s12; have y12 : w1.frozen? ⟨w.heap.size + 1, 0, none⟩ = false := frozen_on hb1 (v := .int .i64 0) (by first | (simp [go_sem, *]; done) | (simp [go_sem, World.cell?_alloc_some, *]; done) | fail) (by first | (simp [go_sem, *]; done) | (simp [go_sem, frozen?_alloc_cells, *]; done) | fail); have y13 : w1.frozen? ⟨w.heap.size + 1, 1, none⟩ = false := frozen_on hb1 (v := .int .u64 0) (by first | (simp [go_sem, *]; done) | (simp [go_sem, World.cell?_alloc_some, *]; done) | fail) (by first | (simp [go_sem, *]; done) | (simp [go_sem, frozen?_alloc_cells, *]; done) | fail)) | (go_at_call 190; (with_reducible refine (LN.out _).mono ?_); rintro e w2 ⟨rfl, rfl⟩))
    go_region_held3 (fun w' => w'.cell? ⟨w.heap.size, 0, none⟩ = some (.int .i64 (hi a)) ∧ w'.cell? ⟨w.heap.size, 1, none⟩ = some (.int .u64 (lo a)) ∧ w'.cell? ⟨w1.heap.size, 0, none⟩ = some (.int .u64 (hi s)) ∧ w'.cell? ⟨w1.heap.size, 1, none⟩ = some (.int .u64 (lo s))) (first | (simp [go_sem, *]; done) | (simp [go_sem, World.cell?_alloc_some, *]; done))
      (first
      | (go_at_call 138; (with_reducible refine (LC.out _).mono ?_); rintro e w3 ⟨rfl, hb3⟩; have e30 : w3.cell? ⟨w.heap.size, 0, none⟩ = some (.int .i64 (hi a)) := cell_on hb3 (by first | (simp [go_sem, *]; done) | (simp [go_sem, World.cell?_alloc_some, *]; done) | fail); have e31 : w3.cell? ⟨w.heap.size, 1, none⟩ = some (.int .u64 (lo a)) := cell_on hb3 (by first | (simp [go_sem, *]; done) | (simp [go_sem, World.cell?_alloc_some, *]; done) | fail); have e32 : w3.cell? ⟨w.heap.size + 1, 0, none⟩ = some (.int .i64 0) := cell_on hb3 (by first | (simp [go_sem, *]; done) | (simp [go_sem, World.cell?_alloc_some, *]; done) | fail); have e33 : w3.cell? ⟨w.heap.size + 1, 1, none⟩ = some (.int .u64 0) := cell_on hb3 (by first | (simp [go_sem, *]; done) | (simp [go_sem, World.cell?_alloc_some, *]; done) | fail); have e34 : w3.cell? ⟨w1.heap.size, 0, none⟩ = some (.int .u64 (hi s)) := cell_on hb3 (by first | (simp [go_sem, *]; done) | (simp [go_sem, World.cell?_alloc_some, *]; done) | fail); have e35 : w3.cell? ⟨w1.heap.size, 1, none⟩ = some (.int .u64 (lo s)) := cell_on hb3 (by first | (simp [go_sem, *]; done) | (simp [go_sem, World.cell?_alloc_some, *]; done) | fail); have s30 : w.heap.size < w3.heap.size := World.block_lt_of_cell? _ _ e30; have t30 : w.heap.size < w3.heap.size + 1 := Nat.lt_succ_of_lt s30; have s32 : w.heap.size + 1 < w3.heap.size := World.block_lt_of_cell? _ _ e32; have t32 : w.heap.size + 1 < w3.heap.size + 1 := Nat.lt_succ_of_lt s32; have s34 : w1.heap.size < w3.heap.size := World.block_lt_of_cell? _ _ e34; have t34 : w1.heap.size < w3.heap.size + 1 := Nat.lt_succ_of_lt s34; have y32 : w3.frozen? ⟨w.heap.size + 1, 0, none⟩ = false := frozen_on hb3 (v := .int .i64 0) (by first | (simp [go_sem, *]; done) | (simp [go_sem, World.cell?_alloc_some, *]; done) | fail) (by first | (simp [go_sem, *]; done) | (simp [go_sem, frozen?_alloc_cells, *]; done) | fail); have y33 : w3.frozen? ⟨w.heap.size + 1, 1, none⟩ = false := frozen_on hb3 (v := .int .u64 0) (by first | (simp [go_sem, *]; done) | (simp [go_sem, World.cell?_alloc_some, *]; done) | fail) (by first | (simp [go_sem, *]; done) | (simp [go_sem, frozen?_alloc_cells, *]; done) | fail))
      | (go_at_call 143; (with_reducible refine (BN.out _).mono ?_); rintro e w' ⟨rfl, rfl⟩)
      | (go_at_call 142; (with_reducible refine (SI.out _).mono ?_); rintro e w4 ⟨rfl, hb4⟩; have e40 : w4.cell? ⟨w.heap.size, 0, none⟩ = some (.int .i64 (hi a)) := cell_on hb4 (by first | (simp [go_sem, *]; done) | (simp [go_sem, World.cell?_alloc_some, *]; done) | fail); have e41 : w4.cell? ⟨w.heap.size, 1, none⟩ = some (.int .u64 (lo a)) := cell_on hb4 (by first | (simp [go_sem, *]; done) | (simp [go_sem, World.cell?_alloc_some, *]; done) | fail); have e42 : w4.cell? ⟨w.heap.size + 1, 0, none⟩ = some (.int .i64 0) := cell_on hb4 (by first | (simp [go_sem, *]; done) | (simp [go_sem, World.cell?_alloc_some, *]; done) | fail); have e43 : w4.cell? ⟨w.heap.size + 1, 1, none⟩ = some (.int .u64 0) := cell_on hb4 (by first | (simp [go_sem, *]; done) | (simp [go_sem, World.cell?_alloc_some, *]; done) | fail); have e44 : w4.cell? ⟨w1.heap.size, 0, none⟩ = some (.int .u64 (hi s)) := cell_on hb4 (by first | (simp [go_sem, *]; done) | (simp [go_sem, World.cell?_alloc_some, *]; done) | fail); have e45 : w4.cell? ⟨w1.heap.size, 1, none⟩ = some (.int .u64 (lo s)) := cell_on hb4 (by first | (simp [go_sem, *]; done) | (simp [go_sem, World.cell?_alloc_some, *]; done) | fail); have s40 : w.heap.size < w4.heap.size := World.block_lt_of_cell? _ _ e40; have t40 : w.heap.size < w4.heap.size + 1 := Nat.lt_succ_of_lt s40; have s42 : w.heap.size + 1 < w4.heap.size := World.block_lt_of_cell? _ _ e42; have t42 : w.heap.size + 1 < w4.heap.size + 1 := Nat.lt_succ_of_lt s42; have s44 : w1.heap.size < w4.heap.size := World.block_lt_of_cell? _ _ e44; have t44 : w1.heap.size < w4.heap.size + 1 := Nat.lt_succ_of_lt s44; have y42 : w4.frozen? ⟨w.heap.size + 1, 0, none⟩ = false := frozen_on hb4 (v := .int .i64 0) (by first | (simp [go_sem, *]; done) | (simp [go_sem, World.cell?_alloc_some, *]; done) | fail) (by first | (simp [go_sem, *]; done) | (simp [go_sem, frozen?_alloc_cells, *]; done) | fail); have y43 : w4.frozen? ⟨w.heap.size + 1, 1, none⟩ = false := frozen_on hb4 (v := .int .u64 0) (by first | (simp [go_sem, *]; done) | (simp [go_sem, World.cell?_alloc_some, *]; done) | fail) (by first | (simp [go_sem, *]; done) | (simp [go_sem, frozen?_alloc_cells, *]; done) | fail)))
    all_goals
      go_wp2_with fail
      refine bodyPost_ret (v := .tuple #[Wv (told (sd (ng a) t)), .int .i64 (over (sd (ng a) t))]) (by simp [results, Tryz.results158, go_sem, *]) rfl ⟨by rw [r.out], ?_⟩
      have hs4 : w.heap.size + 1 < w4.heap.size := World.block_lt_of_cell? _ _ e42
      have hs3 : w.heap.size + 1 < w3.heap.size := World.block_lt_of_cell? _ _ e32
      have hs1 : w.heap.size + 1 < w1.heap.size := World.block_lt_of_cell? _ _ e12
      repeat (first | exact Below.refl _ _ | assumption | apply Below.drew | refine Below.setCell ?_ (by first | omega | (simp; done) | (simp; omega)) _ | refine Below.alloc ?_ (by first | omega | (simp; done) | (simp; omega)) _ | refine Below.trans ?_ (hb4.mono (by first | omega | (simp; done) | (simp; omega))) | refine Below.trans ?_ (hb3.mono (by first | omega | (simp; done) | (simp; omega))) | refine Below.trans ?_ (hb1.mono (by first | omega | (simp; done) | (simp; omega))))

end Go.Proofs.YtmafgdinegboeaaGreat
namespace Go.Proofs.YtmafgdinegboeaaGreat
open Go.RowKit

theorem isS_no {a : Int} (h : isS a = false) : ¬ (-9223372036854775808 ≤ a ∧ a ≤ 9223372036854775807) := by unfold isS at h; exact of_decide_eq_false h
set_option maxHeartbeats 2000000 in
/-- fx.nearest -/
theorem near_any (n d : Int) (w : World) (hn : R n) (hd : R d) (h0 : d ≠ 0) : Calls Tryz.prog 159 #[Wv n, Wv d] w fun e w' => e = .returned (.tuple #[.int .i64 (tw (rd n d)), .int .i64 (te (rd n d))]) ∧ Below w.heap.size w w' := by
  have RC := fun W : World => round_any n d W hn hd h0
  by_cases r : R (rd n d)
  · rw [told_in r, over_in r] at RC
    have RC := Lib.hid RC
    generalize rd n d = q at *
    clear hn hd h0 r
    cases g : isS q with
    | true =>
      have SC := fun W : World => small_any q W
      rw [g, show sm q = q from if_pos g] at SC
      have SC := Lib.hid SC
      have TC := Lib.hid (fun W : World => told_any q W)
      clear g
      go_enter Tryz.func159, Tryz.ntmps159
      go_wp2_with (first | (go_at_call 69; (with_reducible refine (RC.out _).mono ?_); rintro e w1 ⟨rfl, hb1⟩; have e10 : w1.cell? ⟨w.heap.size, 0, none⟩ = some (.int .i64 (hi n)) := cell_on hb1 (by first | (simp [go_sem, *]; done) | (simp [go_sem, World.cell?_alloc_some, *]; done) | fail); have e11 : w1.cell? ⟨w.heap.size, 1, none⟩ = some (.int .u64 (lo n)) := cell_on hb1 (by first | (simp [go_sem, *]; done) | (simp [go_sem, World.cell?_alloc_some, *]; done) | fail); have e12 : w1.cell? ⟨w.heap.size + 1, 0, none⟩ = some (.int .i64 (hi d)) := cell_on hb1 (by first | (simp [go_sem, *]; done) | (simp [go_sem, World.cell?_alloc_some, *]; done) | fail); have e13 : w1.cell? ⟨w.heap.size + 1, 1, none⟩ = some (.int .u64 (lo d)) := cell_on hb1 (by first | (simp [go_sem, *]; done) | (simp [go_sem, World.cell?_alloc_some, *]; done) | fail); have s10 : w.heap.size < w1.heap.size := World.block_lt_of_cell? _ _ e10; have t10 : w.heap.size < w1.heap.size + 1 := Nat.lt_succ_of_lt s10; have s12 : w.heap.size + 1 < w1.heap.size := World.block_lt_of_cell? _ _ e12; have t12 : w.heap.size + 1 < w1.heap.size + 1 := Nat.lt_succ_of_lt s12) | (go_at_call 71; (with_reducible refine (SC.out _).mono ?_); rintro e w2 ⟨rfl, hb2⟩; have e20 : w2.cell? ⟨w.heap.size, 0, none⟩ = some (.int .i64 (hi n)) := cell_on hb2 (by first | (simp [go_sem, *]; done) | (simp [go_sem, World.cell?_alloc_some, *]; done) | fail); have e21 : w2.cell? ⟨w.heap.size, 1, none⟩ = some (.int .u64 (lo n)) := cell_on hb2 (by first | (simp [go_sem, *]; done) | (simp [go_sem, World.cell?_alloc_some, *]; done) | fail); have e22 : w2.cell? ⟨w.heap.size + 1, 0, none⟩ = some (.int .i64 (hi d)) := cell_on hb2 (by first | (simp [go_sem, *]; done) | (simp [go_sem, World.cell?_alloc_some, *]; done) | fail); have e23 : w2.cell? ⟨w.heap.size + 1, 1, none⟩ = some (.int .u64 (lo d)) := cell_on hb2 (by first | (simp [go_sem, *]; done) | (simp [go_sem, World.cell?_alloc_some, *]; done) | fail); have s20 : w.heap.size < w2.heap.size := World.block_lt_of_cell? _ _ e20; have t20 : w.heap.size < w2.heap.size + 1 := Nat.lt_succ_of_lt s20; have s22 : w.heap.size + 1 < w2.heap.size := World.block_lt_of_cell? _ _ e22; have t22 : w.heap.size + 1 < w2.heap.size + 1 := Nat.lt_succ_of_lt s22) | (go_at_call 203; (with_reducible refine (TC.out _).mono ?_); rintro e w' ⟨rfl, rfl⟩))
      go_ret2
      refine ⟨rfl, ?_⟩
      repeat (first | exact Below.refl _ _ | assumption | apply Below.drew | refine Below.setCell ?_ (by first | omega | (simp; done) | (simp; omega)) _ | refine Below.alloc ?_ (by first | omega | (simp; done) | (simp; omega)) _ | refine Below.trans ?_ (hb2.mono (by first | omega | (simp; done) | (simp; omega))) | refine Below.trans ?_ (hb1.mono (by first | omega | (simp; done) | (simp; omega))))
    | false =>
      have SC := fun W : World => small_any q W
      rw [g, show sm q = 0 from if_neg (by simp [g])] at SC
      have SC := Lib.hid SC
      have gw : wd q = false := by
        have := isS_no g
        unfold wd; simp only [decide_eq_false_iff_not]; omega
      have H := Lib.hid (And.intro (tw_out gw) (te_out gw))
      clear g gw
      go_enter Tryz.func159, Tryz.ntmps159
      go_wp2_with (first | (go_at_call 69; (with_reducible refine (RC.out _).mono ?_); rintro e w1 ⟨rfl, hb1⟩; have e10 : w1.cell? ⟨w.heap.size, 0, none⟩ = some (.int .i64 (hi n)) := cell_on hb1 (by first | (simp [go_sem, *]; done) | (simp [go_sem, World.cell?_alloc_some, *]; done) | fail); have e11 : w1.cell? ⟨w.heap.size, 1, none⟩ = some (.int .u64 (lo n)) := cell_on hb1 (by first | (simp [go_sem, *]; done) | (simp [go_sem, World.cell?_alloc_some, *]; done) | fail); have e12 : w1.cell? ⟨w.heap.size + 1, 0, none⟩ = some (.int .i64 (hi d)) := cell_on hb1 (by first | (simp [go_sem, *]; done) | (simp [go_sem, World.cell?_alloc_some, *]; done) | fail); have e13 : w1.cell? ⟨w.heap.size + 1, 1, none⟩ = some (.int .u64 (lo d)) := cell_on hb1 (by first | (simp [go_sem, *]; done) | (simp [go_sem, World.cell?_alloc_some, *]; done) | fail); have s10 : w.heap.size < w1.heap.size := World.block_lt_of_cell? _ _ e10; have t10 : w.heap.size < w1.heap.size + 1 := Nat.lt_succ_of_lt s10; have s12 : w.heap.size + 1 < w1.heap.size := World.block_lt_of_cell? _ _ e12; have t12 : w.heap.size + 1 < w1.heap.size + 1 := Nat.lt_succ_of_lt s12) | (go_at_call 71; (with_reducible refine (SC.out _).mono ?_); rintro e w2 ⟨rfl, hb2⟩; have e20 : w2.cell? ⟨w.heap.size, 0, none⟩ = some (.int .i64 (hi n)) := cell_on hb2 (by first | (simp [go_sem, *]; done) | (simp [go_sem, World.cell?_alloc_some, *]; done) | fail); have e21 : w2.cell? ⟨w.heap.size, 1, none⟩ = some (.int .u64 (lo n)) := cell_on hb2 (by first | (simp [go_sem, *]; done) | (simp [go_sem, World.cell?_alloc_some, *]; done) | fail); have e22 : w2.cell? ⟨w.heap.size + 1, 0, none⟩ = some (.int .i64 (hi d)) := cell_on hb2 (by first | (simp [go_sem, *]; done) | (simp [go_sem, World.cell?_alloc_some, *]; done) | fail); have e23 : w2.cell? ⟨w.heap.size + 1, 1, none⟩ = some (.int .u64 (lo d)) := cell_on hb2 (by first | (simp [go_sem, *]; done) | (simp [go_sem, World.cell?_alloc_some, *]; done) | fail); have s20 : w.heap.size < w2.heap.size := World.block_lt_of_cell? _ _ e20; have t20 : w.heap.size < w2.heap.size + 1 := Nat.lt_succ_of_lt s20; have s22 : w.heap.size + 1 < w2.heap.size := World.block_lt_of_cell? _ _ e22; have t22 : w.heap.size + 1 < w2.heap.size + 1 := Nat.lt_succ_of_lt s22) | (go_at_call 203; (with_reducible refine (TC.out _).mono ?_); rintro e w' ⟨rfl, rfl⟩))
      go_ret2
      refine ⟨by rw [H.out.1, H.out.2] <;> rfl, ?_⟩
      repeat (first | exact Below.refl _ _ | assumption | apply Below.drew | refine Below.setCell ?_ (by first | omega | (simp; done) | (simp; omega)) _ | refine Below.alloc ?_ (by first | omega | (simp; done) | (simp; omega)) _ | refine Below.trans ?_ (hb2.mono (by first | omega | (simp; done) | (simp; omega))) | refine Below.trans ?_ (hb1.mono (by first | omega | (simp; done) | (simp; omega))))
  · have gw : wd (rd n d) = false := by
      rw [R_iff] at r
      unfold wd; simp only [decide_eq_false_iff_not]; omega
    have H := Lib.hid (And.intro (tw_out gw) (te_out gw))
    rw [told_out r, over_out r] at RC
    have RC := Lib.hid RC
    clear hn hd h0 r gw
    generalize rd n d = q at *
    go_enter Tryz.func159, Tryz.ntmps159
    go_wp2_with (first | (go_at_call 69; (with_reducible refine (RC.out _).mono ?_); rintro e w1 ⟨rfl, hb1⟩; have e10 : w1.cell? ⟨w.heap.size, 0, none⟩ = some (.int .i64 (hi n)) := cell_on hb1 (by first | (simp [go_sem, *]; done) | (simp [go_sem, World.cell?_alloc_some, *]; done) | fail); have e11 : w1.cell? ⟨w.heap.size, 1, none⟩ = some (.int .u64 (lo n)) := cell_on hb1 (by first | (simp [go_sem, *]; done) | (simp [go_sem, World.cell?_alloc_some, *]; done) | fail); have e12 : w1.cell? ⟨w.heap.size + 1, 0, none⟩ = some (.int .i64 (hi d)) := cell_on hb1 (by first | (simp [go_sem, *]; done) | (simp [go_sem, World.cell?_alloc_some, *]; done) | fail); have e13 : w1.cell? ⟨w.heap.size + 1, 1, none⟩ = some (.int .u64 (lo d)) := cell_on hb1 (by first | (simp [go_sem, *]; done) | (simp [go_sem, World.cell?_alloc_some, *]; done) | fail); have s10 : w.heap.size < w1.heap.size := World.block_lt_of_cell? _ _ e10; have t10 : w.heap.size < w1.heap.size + 1 := Nat.lt_succ_of_lt s10; have s12 : w.heap.size + 1 < w1.heap.size := World.block_lt_of_cell? _ _ e12; have t12 : w.heap.size + 1 < w1.heap.size + 1 := Nat.lt_succ_of_lt s12) | (go_at_call 71; (with_reducible refine (SC.out _).mono ?_); rintro e w2 ⟨rfl, hb2⟩; have e20 : w2.cell? ⟨w.heap.size, 0, none⟩ = some (.int .i64 (hi n)) := cell_on hb2 (by first | (simp [go_sem, *]; done) | (simp [go_sem, World.cell?_alloc_some, *]; done) | fail); have e21 : w2.cell? ⟨w.heap.size, 1, none⟩ = some (.int .u64 (lo n)) := cell_on hb2 (by first | (simp [go_sem, *]; done) | (simp [go_sem, World.cell?_alloc_some, *]; done) | fail); have e22 : w2.cell? ⟨w.heap.size + 1, 0, none⟩ = some (.int .i64 (hi d)) := cell_on hb2 (by first | (simp [go_sem, *]; done) | (simp [go_sem, World.cell?_alloc_some, *]; done) | fail); have e23 : w2.cell? ⟨w.heap.size + 1, 1, none⟩ = some (.int .u64 (lo d)) := cell_on hb2 (by first | (simp [go_sem, *]; done) | (simp [go_sem, World.cell?_alloc_some, *]; done) | fail); have s20 : w.heap.size < w2.heap.size := World.block_lt_of_cell? _ _ e20; have t20 : w.heap.size < w2.heap.size + 1 := Nat.lt_succ_of_lt s20; have s22 : w.heap.size + 1 < w2.heap.size := World.block_lt_of_cell? _ _ e22; have t22 : w.heap.size + 1 < w2.heap.size + 1 := Nat.lt_succ_of_lt s22) | (go_at_call 203; (with_reducible refine (TC.out _).mono ?_); rintro e w' ⟨rfl, rfl⟩))
    go_ret2
    refine ⟨by rw [H.out.1, H.out.2] <;> rfl, ?_⟩
    repeat (first | exact Below.refl _ _ | assumption | apply Below.drew | refine Below.setCell ?_ (by first | omega | (simp; done) | (simp; omega)) _ | refine Below.alloc ?_ (by first | omega | (simp; done) | (simp; omega)) _ | refine Below.trans ?_ (hb1.mono (by first | omega | (simp; done) | (simp; omega))))
end Go.Proofs.YtmafgdinegboeaaGreat
namespace Go.Proofs.YtmafgdinegboeaaGreat
open Go.RowKit










end Go.Proofs.YtmafgdinegboeaaGreat
namespace Go.Proofs.YtmafgdinegboeaaGreat
open Go.RowKit

/-- An element: two words (or not), fraction bits (or not), two numbers, a wide one, a count. -/
structure Fl where
  a : Int
  b : Int
  f : Int
  n : Int
  d : Int
  v : Int
  k : Int
def Fl.ok (e : Fl) : Prop := (-9223372036854775808 ≤ e.a ∧ e.a ≤ 9223372036854775807) ∧ (-9223372036854775808 ≤ e.b ∧ e.b ≤ 9223372036854775807) ∧ (-9223372036854775808 ≤ e.f ∧ e.f ≤ 9223372036854775807) ∧ (-9223372036854775808 ≤ e.n ∧ e.n ≤ 9223372036854775807) ∧ (-9223372036854775808 ≤ e.d ∧ e.d ≤ 9223372036854775807) ∧ R e.v ∧ (-9223372036854775808 ≤ e.k ∧ e.k ≤ 9223372036854775807)
/-- Its eight cells. -/
def FlAt (w : World) (b o : Nat) (e : Fl) : Prop :=
  w.cell? ⟨b, o, none⟩ = some (.int .i64 e.a) ∧ w.cell? ⟨b, o + 1, none⟩ = some (.int .i64 e.b) ∧ w.cell? ⟨b, o + 2, none⟩ = some (.int .i64 e.f) ∧ w.cell? ⟨b, o + 3, none⟩ = some (.int .i64 e.n) ∧ w.cell? ⟨b, o + 4, none⟩ = some (.int .i64 e.d) ∧ w.cell? ⟨b, o + 5, none⟩ = some (.int .i64 (hi e.v)) ∧ w.cell? ⟨b, o + 6, none⟩ = some (.int .u64 (lo e.v)) ∧ w.cell? ⟨b, o + 7, none⟩ = some (.int .i64 e.k)
theorem FlAt.below {w w' : World} {B b o : Nat} {e : Fl} (h : FlAt w b o e) (hb : Below B w w') (hB : b < B) : FlAt w' b o e := by
  obtain ⟨h1, h2, h3, h4, h5, h6, h7, h8⟩ := h
  exact ⟨(hb.cell (p := ⟨b, o, none⟩) hB).trans h1, (hb.cell (p := ⟨b, o + 1, none⟩) hB).trans h2, (hb.cell (p := ⟨b, o + 2, none⟩) hB).trans h3, (hb.cell (p := ⟨b, o + 3, none⟩) hB).trans h4, (hb.cell (p := ⟨b, o + 4, none⟩) hB).trans h5, (hb.cell (p := ⟨b, o + 5, none⟩) hB).trans h6, (hb.cell (p := ⟨b, o + 6, none⟩) hB).trans h7, (hb.cell (p := ⟨b, o + 7, none⟩) hB).trans h8⟩
end Go.Proofs.YtmafgdinegboeaaGreat
namespace Go.Proofs.YtmafgdinegboeaaGreat
open Go.RowKit

theorem may_any (v : Int) (w : World) : Calls Tryz.prog 110 #[.int .i64 v] w fun e w' => e = .returned (.bool (wd v)) ∧ w = w' := by
  cases g : wd v with
  | true =>
    obtain ⟨g1, g2⟩ := wd_bd g
    clear g
    go_enter Tryz.func110, Tryz.ntmps110
    go_wp2
    go_ret
    exact ⟨rfl, rfl⟩
  | false =>
    have h := wd_no g
    clear g
    by_cases g1 : v ≤ -140737488355328
    · clear h
      go_enter Tryz.func110, Tryz.ntmps110
      go_wp2
      go_ret
      exact ⟨rfl, rfl⟩
    · have g2 : ¬ v < 140737488355328 := by omega
      have g3 : -140737488355328 < v := by omega
      clear h g1
      go_enter Tryz.func110, Tryz.ntmps110
      go_wp2
      go_ret
      exact ⟨rfl, rfl⟩
end Go.Proofs.YtmafgdinegboeaaGreat
namespace Go.Proofs.YtmafgdinegboeaaGreat
open Go.RowKit

theorem R_pow {n : Nat} (h : n ≤ 126) : R (2 ^ n) := by
  have : (2 : Int) ^ n ≤ 2 ^ 126 := by have := Nat.pow_le_pow_right (show 0 < 2 by decide) h; exact_mod_cast this
  have : (0 : Int) < 2 ^ n := Int.pow_pos (by decide)
  rw [R_iff]
  omega
theorem pow_ne (n : Nat) : (2 : Int) ^ n ≠ 0 := by have : (0 : Int) < 2 ^ n := Int.pow_pos (by decide); omega
set_option maxRecDepth 100000 in
set_option maxHeartbeats 2000000 in
/-- fx.Close -/
theorem close_any (a : Int) (n : Nat) (w : World) (ha : R a) (h1 : n ≤ 126) : Calls Tryz.prog 90 #[Wv a, .int .i64 n] w fun e w' => e = .returned (.tuple #[.int .i64 (tw (rd a (2 ^ n))), .int .i64 (te (rd a (2 ^ n)))]) ∧ Below w.heap.size w w' := by
  have LC := fun W : World => shl_any 1 n W (by decide) h1
  have NC := Lib.hid (fun W : World => near_any a (2 ^ n) W ha (R_pow h1) (pow_ne n))
  rw [Int.one_mul, told_in (R_pow h1), over_in (R_pow h1)] at LC
  have LC := Lib.hid LC
  have F1 := Lib.hid (fun W : World => from_at 1 W (by decide) (by decide))
  clear ha h1
  generalize tw (rd a (2 ^ n)) = q at *
  generalize te (rd a (2 ^ n)) = g at *
  generalize (2 : Int) ^ n = t at *
  go_enter Tryz.func90, Tryz.ntmps90
  go_wp2_with (first | (go_at_call 70; (with_reducible refine (F1.out _).mono ?_); rintro e w' ⟨rfl, rfl⟩) | (go_at_call 158; (with_reducible refine (LC.out _).mono ?_); rintro e w1 ⟨rfl, hb1⟩; have e10 : w1.cell? ⟨w.heap.size, 0, none⟩ = some (.int .i64 (hi a)) := cell_on hb1 (by first | (simp [go_sem, *]; done) | (simp [go_sem, World.cell?_alloc_some, *]; done) | fail); have e11 : w1.cell? ⟨w.heap.size, 1, none⟩ = some (.int .u64 (lo a)) := cell_on hb1 (by first | (simp [go_sem, *]; done) | (simp [go_sem, World.cell?_alloc_some, *]; done) | fail); have s10 : w.heap.size < w1.heap.size := World.block_lt_of_cell? _ _ e10; have t10 : w.heap.size < w1.heap.size + 1 := Nat.lt_succ_of_lt s10) | (go_at_call 159; (with_reducible refine (NC.out _).mono ?_); rintro e w2 ⟨rfl, hb2⟩; have e20 : w2.cell? ⟨w.heap.size, 0, none⟩ = some (.int .i64 (hi a)) := cell_on hb2 (by first | (simp [go_sem, *]; done) | (simp [go_sem, World.cell?_alloc_some, *]; done) | fail); have e21 : w2.cell? ⟨w.heap.size, 1, none⟩ = some (.int .u64 (lo a)) := cell_on hb2 (by first | (simp [go_sem, *]; done) | (simp [go_sem, World.cell?_alloc_some, *]; done) | fail); have s20 : w.heap.size < w2.heap.size := World.block_lt_of_cell? _ _ e20; have t20 : w.heap.size < w2.heap.size + 1 := Nat.lt_succ_of_lt s20))
  go_ret2
  refine ⟨rfl, ?_⟩
  repeat (first | exact Below.refl _ _ | assumption | apply Below.drew | refine Below.setCell ?_ (by first | omega | (simp; done) | (simp; omega)) _ | refine Below.alloc ?_ (by first | omega | (simp; done) | (simp; omega)) _ | refine Below.trans ?_ (hb2.mono (by first | omega | (simp; done) | (simp; omega))) | refine Below.trans ?_ (hb1.mono (by first | omega | (simp; done) | (simp; omega))))
end Go.Proofs.YtmafgdinegboeaaGreat
namespace Go.Proofs.YtmafgdinegboeaaGreat
open Go.RowKit

set_option maxRecDepth 100000 in
set_option maxHeartbeats 8000000 in
theorem r2word_any (x : Value) (z : Int) (w : World) (h : IsI w x z) : Calls Tryz.prog 117 #[x] w fun e w' => e = .returned (.tuple #[.int .i64 (tw z), .int .i64 (te z)]) ∧ Below w.heap.size w w' := by
  obtain ⟨bn, on, ln, cn, rfl, Hn⟩ := h.open
  clear h
  have SC := Lib.hid (fun (W : World) (h : IsI W (Iv bn (.slice on ln cn)) z) => ismall_any _ z W h)
  cases g : isS z with
  | false =>
    have gw : wd z = false := by
      have := isS_no g
      unfold wd; simp only [decide_eq_false_iff_not]; omega
    have H := Lib.hid (And.intro (tw_out gw) (te_out gw))
    have SC := fun (W : World) (h : IsI W (Iv bn (.slice on ln cn)) z) => SC.out W h
    rw [g] at SC
    have SC := Lib.hid SC
    clear g gw
    go_enter Tryz.func117, Tryz.ntmps117
    go_wp2_with (go_at_call 172; (with_reducible refine (SC.out _ ((IsI.mk Hn.out.1 Hn.out.2.1).below (by repeat (first | exact Below.refl _ _ | assumption | apply Below.drew | refine Below.setCell ?_ (by first | omega | (simp; done) | (simp; omega)) _ | refine Below.alloc ?_ (by first | omega | (simp; done) | (simp; omega)) _)))).mono ?_); rintro e w1 ⟨rfl, hb1⟩; have e10 : w1.cell? ⟨w.heap.size, 0, none⟩ = some (.bool bn) := cell_on hb1 (by first | (simp [go_sem, *]; done) | (simp [go_sem, World.cell?_alloc_some, *]; done) | fail); have e11 : w1.cell? ⟨w.heap.size, 1, none⟩ = some (Value.slice on ln cn) := cell_on hb1 (by first | (simp [go_sem, *]; done) | (simp [go_sem, World.cell?_alloc_some, *]; done) | fail); have s10 : w.heap.size < w1.heap.size := World.block_lt_of_cell? _ _ e10; have t10 : w.heap.size < w1.heap.size + 1 := Nat.lt_succ_of_lt s10; have q1 := hb1.size; (try simp at q1))
    go_ret2
    refine ⟨by rw [H.out.1, H.out.2] <;> rfl, ?_⟩
    repeat (first | exact Below.refl _ _ | assumption | apply Below.drew | refine Below.setCell ?_ (by first | omega | (simp; done) | (simp; omega)) _ | refine Below.alloc ?_ (by first | omega | (simp; done) | (simp; omega)) _ | refine Below.trans ?_ (hb1.mono (by first | omega | (simp; done) | (simp; omega))))
  | true =>
    have SC := fun (W : World) (h : IsI W (Iv bn (.slice on ln cn)) z) => SC.out W h
    rw [g, show sm z = z from if_pos g] at SC
    have SC := Lib.hid SC
    have MC := fun W : World => may_any z W
    cases gw : wd z with
    | true =>
      have H := Lib.hid (And.intro (tw_in gw) (te_in gw))
      rw [gw] at MC
      have MC := Lib.hid MC
      clear g gw
      go_enter Tryz.func117, Tryz.ntmps117
      go_wp2_with (first | (go_at_call 172; (with_reducible refine (SC.out _ ((IsI.mk Hn.out.1 Hn.out.2.1).below (by repeat (first | exact Below.refl _ _ | assumption | apply Below.drew | refine Below.setCell ?_ (by first | omega | (simp; done) | (simp; omega)) _ | refine Below.alloc ?_ (by first | omega | (simp; done) | (simp; omega)) _)))).mono ?_); rintro e w1 ⟨rfl, hb1⟩; have e10 : w1.cell? ⟨w.heap.size, 0, none⟩ = some (.bool bn) := cell_on hb1 (by first | (simp [go_sem, *]; done) | (simp [go_sem, World.cell?_alloc_some, *]; done) | fail); have e11 : w1.cell? ⟨w.heap.size, 1, none⟩ = some (Value.slice on ln cn) := cell_on hb1 (by first | (simp [go_sem, *]; done) | (simp [go_sem, World.cell?_alloc_some, *]; done) | fail); have s10 : w.heap.size < w1.heap.size := World.block_lt_of_cell? _ _ e10; have t10 : w.heap.size < w1.heap.size + 1 := Nat.lt_succ_of_lt s10; have q1 := hb1.size; (try simp at q1)) | (go_at_call 110; (with_reducible refine (MC.out _).mono ?_); rintro e w' ⟨rfl, rfl⟩))
      go_ret2
      refine ⟨by rw [H.out.1, H.out.2] <;> rfl, ?_⟩
      repeat (first | exact Below.refl _ _ | assumption | apply Below.drew | refine Below.setCell ?_ (by first | omega | (simp; done) | (simp; omega)) _ | refine Below.alloc ?_ (by first | omega | (simp; done) | (simp; omega)) _ | refine Below.trans ?_ (hb1.mono (by first | omega | (simp; done) | (simp; omega))))
    | false =>
      have H := Lib.hid (And.intro (tw_out gw) (te_out gw))
      rw [gw] at MC
      have MC := Lib.hid MC
      clear g gw
      go_enter Tryz.func117, Tryz.ntmps117
      go_wp2_with (first | (go_at_call 172; (with_reducible refine (SC.out _ ((IsI.mk Hn.out.1 Hn.out.2.1).below (by repeat (first | exact Below.refl _ _ | assumption | apply Below.drew | refine Below.setCell ?_ (by first | omega | (simp; done) | (simp; omega)) _ | refine Below.alloc ?_ (by first | omega | (simp; done) | (simp; omega)) _)))).mono ?_); rintro e w1 ⟨rfl, hb1⟩; have e10 : w1.cell? ⟨w.heap.size, 0, none⟩ = some (.bool bn) := cell_on hb1 (by first | (simp [go_sem, *]; done) | (simp [go_sem, World.cell?_alloc_some, *]; done) | fail); have e11 : w1.cell? ⟨w.heap.size, 1, none⟩ = some (Value.slice on ln cn) := cell_on hb1 (by first | (simp [go_sem, *]; done) | (simp [go_sem, World.cell?_alloc_some, *]; done) | fail); have s10 : w.heap.size < w1.heap.size := World.block_lt_of_cell? _ _ e10; have t10 : w.heap.size < w1.heap.size + 1 := Nat.lt_succ_of_lt s10; have q1 := hb1.size; (try simp at q1)) | (go_at_call 110; (with_reducible refine (MC.out _).mono ?_); rintro e w' ⟨rfl, rfl⟩))
      go_ret2
      refine ⟨by rw [H.out.1, H.out.2] <;> rfl, ?_⟩
      repeat (first | exact Below.refl _ _ | assumption | apply Below.drew | refine Below.setCell ?_ (by first | omega | (simp; done) | (simp; omega)) _ | refine Below.alloc ?_ (by first | omega | (simp; done) | (simp; omega)) _ | refine Below.trans ?_ (hb1.mono (by first | omega | (simp; done) | (simp; omega))))
set_option maxRecDepth 100000 in
set_option maxHeartbeats 8000000 in
theorem r2near_any (bv : Bool) (o1 o2 : Option Addr) (l1 c1 l2 c2 : Nat) (p : Int) (q : Nat) (z : Int) (w : World) (h : bv = decide (p < 0) ∧ IsN w (.slice o1 l1 c1) p.natAbs ∧ IsN w (.slice o2 l2 c2) q) (gp : p.natAbs < LOW) (gq : q < LOW) (hq : q ≠ 0) (hz : nr p q = z) : Calls Tryz.prog 55 #[Rv bv (.slice o1 l1 c1) (.slice o2 l2 c2)] w fun e w' => e = .returned (.tuple #[.int .i64 (tw z), .int .i64 (te z)]) ∧ Below w.heap.size w w' := by
  subst hz
  have hv := Lib.hid h
  have G := Lib.hid (And.intro gp (And.intro gq hq))
  clear h gp gq hq
  generalize hm : nr p q = z at *
  have NC : Hid (∀ W : World, IsN W (.slice o1 l1 c1) p.natAbs → IsN W (.slice o2 l2 c2) q → Calls Tryz.prog 118 #[Rv bv (.slice o1 l1 c1) (.slice o2 l2 c2)] W (SomeI W z)) := fun W h1 h2 => by rw [← hm]; exact near_rat bv o1 o2 l1 c1 l2 c2 p q W hv.out.1 h1 h2 G.out.1 G.out.2.1 G.out.2.2
  clear hm
  go_enter Tryz.func55, Tryz.ntmps55
  go_wp2_with (first | (go_at_call 118; (with_reducible refine (NC.out _ (hv.out.2.1.below (by repeat (first | exact Below.refl _ _ | assumption | apply Below.drew | refine Below.setCell ?_ (by first | omega | (simp; done) | (simp; omega)) _ | refine Below.alloc ?_ (by first | omega | (simp; done) | (simp; omega)) _))) (hv.out.2.2.below (by repeat (first | exact Below.refl _ _ | assumption | apply Below.drew | refine Below.setCell ?_ (by first | omega | (simp; done) | (simp; omega)) _ | refine Below.alloc ?_ (by first | omega | (simp; done) | (simp; omega)) _)))).mono ?_); rintro e w1 ⟨vn, rfl, hv, hb1⟩; have q1 := hb1.size; (try simp at q1); obtain ⟨bn, on, ln, cn, rfl, Hn⟩ := hv.open; clear hv) | (go_at_call 117; (with_reducible refine (r2word_any _ z _ ((IsI.mk Hn.out.1 Hn.out.2.1).below (by repeat (first | exact Below.refl _ _ | assumption | apply Below.drew | refine Below.setCell ?_ (by first | omega | (simp; done) | (simp; omega)) _ | refine Below.alloc ?_ (by first | omega | (simp; done) | (simp; omega)) _)))).mono ?_); rintro e w2 ⟨rfl, hb2⟩; have q2 := hb2.size; (try simp at q2)))
  go_ret2
  refine ⟨rfl, ?_⟩
  repeat (first | exact Below.refl _ _ | assumption | apply Below.drew | refine Below.setCell ?_ (by first | omega | (simp; done) | (simp; omega)) _ | refine Below.alloc ?_ (by first | omega | (simp; done) | (simp; omega)) _ | refine Below.trans ?_ (hb2.mono (by first | omega | (simp; done) | (simp; omega))) | refine Below.trans ?_ (hb1.mono (by first | omega | (simp; done) | (simp; omega))))
theorem low_tdiv {m : Int} {D : Nat} (gm : m.natAbs < LOW) (gD : D < LOW) : (m.tdiv (Nat.gcd m.natAbs D : Nat)).natAbs < LOW ∧ D / Nat.gcd m.natAbs D < LOW := by
  refine ⟨?_, Nat.lt_of_le_of_lt (Nat.div_le_self _ _) gD⟩
  rw [Int.natAbs_tdiv]
  exact Nat.lt_of_le_of_lt (Nat.div_le_self _ _) gm
end Go.Proofs.YtmafgdinegboeaaGreat
namespace Go.Proofs.YtmafgdinegboeaaGreat

def prod : List Int → Int
  | [] => 1
  | d :: r => d * prod r
/-- c times the dimensions, as far as each is one and the product is not too great; else 0. -/
def cnt (c : Int) : List Int → Int
  | [] => c
  | d :: r => if 1 ≤ d ∧ d ≤ 4096 ∧ d * c ≤ 65536 then cnt (c * d) r else 0
def may (ls : List Int) : Bool := decide (ls.length ≤ 4) && decide (cnt 1 ls ≠ 0)
/-- All from 1 to 4096. -/
def dms (ls : List Int) : Prop := ∀ d ∈ ls, 1 ≤ d ∧ d ≤ 4096
def pos (ls : List Int) : Prop := ∀ d ∈ ls, 1 ≤ d

theorem drop_getD {ls : List Int} {i : Nat} (h : i < ls.length) : ls.drop i = ls.getD i 0 :: ls.drop (i + 1) := by
  rw [List.drop_eq_getElem_cons h]; simp [List.getD, List.getElem?_eq_getElem h]
theorem getD_mem {ls : List Int} {i : Nat} (h : i < ls.length) : ls.getD i 0 ∈ ls := by
  simp [List.getD, List.getElem?_eq_getElem h]
theorem dms_pos {ls : List Int} (h : dms ls) : pos ls := fun d hd => (h d hd).1
theorem prod_pos : ∀ {ls : List Int}, pos ls → 1 ≤ prod ls
  | [], _ => Int.le_refl _
  | d :: r, h => by
    have h1 := h d (List.mem_cons_self ..)
    have h2 := prod_pos (ls := r) fun x hx => h x (List.mem_cons_of_mem _ hx)
    have := Int.mul_le_mul h1 h2 (by decide) (by omega)
    simpa [prod] using this
theorem prod_drop_le : ∀ {ls : List Int} (k : Nat), pos ls → prod (ls.drop k) ≤ prod ls
  | [], k, _ => by simp
  | d :: r, 0, _ => Int.le_refl _
  | d :: r, k + 1, h => by
    have h1 := h d (List.mem_cons_self ..)
    have hr : pos r := fun x hx => h x (List.mem_cons_of_mem _ hx)
    have h2 := prod_drop_le (ls := r) k hr
    have h3 := prod_pos hr
    have := Int.mul_le_mul_of_nonneg_right h1 (show 0 ≤ prod r by omega)
    simp only [List.drop_succ_cons, prod]
    omega
theorem pos_drop {ls : List Int} (h : pos ls) (k : Nat) : pos (ls.drop k) := fun x hx => h x (List.mem_of_mem_drop hx)
theorem prod_dvd : ∀ (ls : List Int) (k : Nat), ∃ q, prod ls = prod (ls.drop k) * q
  | [], _ => ⟨1, by simp⟩
  | d :: r, 0 => ⟨1, by simp⟩
  | d :: r, k + 1 => by
    obtain ⟨q, hq⟩ := prod_dvd r k
    refine ⟨d * q, ?_⟩
    rw [List.drop_succ_cons, prod, hq]
    simp only [Int.mul_left_comm]
theorem prod_drop {ls : List Int} {k : Nat} (h : k < ls.length) : prod (ls.drop k) = ls.getD k 0 * prod (ls.drop (k + 1)) := by rw [drop_getD h]; rfl

theorem cnt_cases : ∀ (ls : List Int) (c : Int), 1 ≤ c → c ≤ 65536 → cnt c ls = 0 ∨ (1 ≤ cnt c ls ∧ cnt c ls ≤ 65536 ∧ cnt c ls = c * prod ls ∧ dms ls)
  | [], c, h0, h1 => .inr ⟨h0, h1, by simp [cnt, prod], fun d hd => by cases hd⟩
  | d :: r, c, h0, h1 => by
    unfold cnt
    split
    · rename_i h
      obtain ⟨a, b, g⟩ := h
      have h2 := Int.mul_le_mul h0 a (by decide) (by omega)
      rw [Int.mul_comm] at g
      rcases cnt_cases r (c * d) (by omega) g with k | ⟨k1, k2, k3, k4⟩
      · exact .inl k
      · refine .inr ⟨k1, k2, by rw [k3, prod, Int.mul_assoc], fun x hx => ?_⟩
        rcases List.mem_cons.1 hx with rfl | hx
        · exact ⟨a, b⟩
        · exact k4 x hx
    · exact .inl rfl
theorem cnt_of : ∀ (ls : List Int) (c : Int), 1 ≤ c → dms ls → c * prod ls ≤ 65536 → cnt c ls = c * prod ls
  | [], c, _, _, _ => by simp [cnt, prod]
  | d :: r, c, h0, h, hp => by
    have h1 := h d (List.mem_cons_self ..)
    have hr : dms r := fun x hx => h x (List.mem_cons_of_mem _ hx)
    have h3 := prod_pos (dms_pos hr)
    have e : c * prod (d :: r) = c * d * prod r := by rw [prod, Int.mul_assoc]
    have h2 := Int.mul_le_mul h0 h1.1 (by decide) (by omega)
    have h4 := Int.mul_le_mul_of_nonneg_left h3 (show 0 ≤ c * d by omega)
    rw [e] at hp ⊢
    unfold cnt
    rw [if_pos ⟨h1.1, h1.2, by rw [Int.mul_comm]; omega⟩]
    exact cnt_of r (c * d) (by omega) hr hp
theorem may_iff (ls : List Int) : may ls = true ↔ ls.length ≤ 4 ∧ dms ls ∧ prod ls ≤ 65536 := by
  unfold may
  simp only [Bool.and_eq_true, decide_eq_true_eq]
  constructor
  · rintro ⟨a, b⟩
    rcases cnt_cases ls 1 (by decide) (by decide) with h | ⟨_, h2, h3, h4⟩
    · exact absurd h b
    · exact ⟨a, h4, by omega⟩
  · rintro ⟨a, b, c⟩
    refine ⟨a, ?_⟩
    rw [cnt_of ls 1 (by decide) b (by omega)]
    have := prod_pos (dms_pos b)
    omega
theorem may_cnt {ls : List Int} (h : may ls = true) : cnt 1 ls = prod ls := by
  obtain ⟨_, b, c⟩ := (may_iff ls).1 h
  rw [cnt_of ls 1 (by decide) b (by omega), Int.one_mul]
theorem may_prod {ls : List Int} (h : may ls = true) : 1 ≤ prod ls ∧ prod ls ≤ 65536 := by
  obtain ⟨_, b, c⟩ := (may_iff ls).1 h
  exact ⟨prod_pos (dms_pos b), c⟩
theorem may_len {ls : List Int} (h : may ls = true) : ls.length ≤ 4 := ((may_iff ls).1 h).1
theorem may_dms {ls : List Int} (h : may ls = true) : dms ls := ((may_iff ls).1 h).2.1
theorem may_pos {ls : List Int} (h : may ls = true) : pos ls := dms_pos (may_dms h)
theorem may_no {ls : List Int} (h : may ls = false) : 4 < ls.length ∨ cnt 1 ls = 0 := by
  unfold may at h
  simp only [Bool.and_eq_false_iff, decide_eq_false_iff_not] at h
  rcases h with h | h
  · exact .inl (by omega)
  · exact .inr (by omega)
theorem may_yes {ls : List Int} (a : ls.length ≤ 4) (b : cnt 1 ls ≠ 0) : may ls = true := by
  unfold may; simp [a, b]
theorem may_not {ls : List Int} (b : cnt 1 ls = 0) : may ls = false := by
  unfold may; simp [b]
theorem may_long {ls : List Int} (b : 4 < ls.length) : may ls = false := by
  unfold may
  have : ¬ ls.length ≤ 4 := by omega
  simp [this]
theorem may_dim {ls : List Int} (h : may ls = true) {i : Nat} (hi : i < ls.length) : 1 ≤ ls.getD i 0 ∧ ls.getD i 0 ≤ 4096 := may_dms h _ (getD_mem hi)
theorem may_drop {ls : List Int} (h : may ls = true) (k : Nat) : 1 ≤ prod (ls.drop k) ∧ prod (ls.drop k) ≤ 65536 :=
  ⟨prod_pos (pos_drop (may_pos h) k), Int.le_trans (prod_drop_le k (may_pos h)) (may_prod h).2⟩

/-- One step of a count. -/
theorem cnt_step {ls : List Int} {i : Nat} (h : i < ls.length) (c : Int) : cnt c (ls.drop i) = if 1 ≤ ls.getD i 0 ∧ ls.getD i 0 ≤ 4096 ∧ ls.getD i 0 * c ≤ 65536 then cnt (c * ls.getD i 0) (ls.drop (i + 1)) else 0 := by
  rw [drop_getD h]; rfl
theorem quo_lt {c d : Int} (hc : 1 ≤ c) : (65536 / c < d) ↔ ¬ d * c ≤ 65536 := by
  rw [Int.ediv_lt_iff_lt_mul (by omega)]; omega

/-- Strides. -/
def stl : List Int → List Int
  | [] => []
  | _ :: r => prod r :: stl r
theorem stl_len : ∀ ls : List Int, (stl ls).length = ls.length
  | [] => rfl
  | _ :: r => by simp [stl, stl_len r]
theorem stl_getD : ∀ (ls : List Int) (k : Nat), k < ls.length → (stl ls).getD k 0 = prod (ls.drop (k + 1))
  | [], k, h => by simp at h
  | _ :: r, 0, _ => by simp [stl]
  | _ :: r, k + 1, h => by
    have := stl_getD r k (by simpa using h)
    simpa [stl] using this

/-- The sum of an index times the strides. -/
def ix : List Int → List Int → Int
  | _ :: r, i :: t => i * prod r + ix r t
  | _, _ => 0
/-- An index of a shape. -/
def inx : List Int → List Int → Bool
  | [], [] => true
  | d :: r, i :: t => decide (0 ≤ i) && decide (i < d) && inx r t
  | _, _ => false
theorem inx_len : ∀ {s i : List Int}, inx s i = true → s.length = i.length
  | [], [], _ => rfl
  | d :: r, i :: t, h => by
    simp only [inx, Bool.and_eq_true] at h
    simp [inx_len h.2]
  | [], _ :: _, h => by simp [inx] at h
  | _ :: _, [], h => by simp [inx] at h
theorem inx_iff : ∀ {s i : List Int}, inx s i = true ↔ s.length = i.length ∧ ∀ k, k < s.length → 0 ≤ i.getD k 0 ∧ i.getD k 0 < s.getD k 0
  | [], [] => by simp [inx]
  | d :: r, i :: t => by
    simp only [inx, Bool.and_eq_true, decide_eq_true_eq, inx_iff (s := r) (i := t), List.length_cons]
    constructor
    · rintro ⟨⟨a, b⟩, c, e⟩
      refine ⟨by omega, fun k hk => ?_⟩
      cases k with
      | zero => exact ⟨a, b⟩
      | succ k => simpa using e k (by omega)
    · rintro ⟨a, b⟩
      refine ⟨by simpa using b 0 (by omega), by omega, fun k hk => ?_⟩
      simpa using b (k + 1) (by omega)
  | [], _ :: _ => by simp [inx]
  | _ :: _, [] => by simp [inx]
theorem ix_bd : ∀ {s i : List Int}, inx s i = true → 0 ≤ ix s i ∧ ix s i < prod s
  | [], [], _ => by simp [ix, prod]
  | d :: r, i :: t, h => by
    simp only [inx, Bool.and_eq_true, decide_eq_true_eq] at h
    obtain ⟨⟨a, b⟩, c⟩ := h
    have ih := ix_bd c
    have h1 := Int.mul_le_mul_of_nonneg_right (show i + 1 ≤ d by omega) (show 0 ≤ prod r by omega)
    have h2 := Int.mul_nonneg a (show 0 ≤ prod r by omega)
    rw [Int.add_mul, Int.one_mul] at h1
    simp only [ix, prod]
    omega
  | [], _ :: _, h => by simp [inx] at h
  | _ :: _, [], h => by simp [inx] at h

/-- The index of a place. -/
def atl : List Int → Int → List Int
  | [], _ => []
  | _ :: r, n => n / prod r :: atl r (n % prod r)
theorem atl_len : ∀ (s : List Int) (n : Int), (atl s n).length = s.length
  | [], _ => rfl
  | _ :: r, n => by simp [atl, atl_len r]
theorem atl_inx : ∀ (s : List Int) (n : Int), pos s → 0 ≤ n → n < prod s → inx s (atl s n) = true
  | [], _, _, _, _ => rfl
  | d :: r, n, h, h0, h1 => by
    have hr : pos r := fun x hx => h x (List.mem_cons_of_mem _ hx)
    have hp := prod_pos hr
    simp only [atl, inx, Bool.and_eq_true, decide_eq_true_eq]
    refine ⟨⟨Int.ediv_nonneg h0 (by omega), ?_⟩, atl_inx r _ hr (Int.emod_nonneg _ (by omega)) (Int.emod_lt_of_pos _ (by omega))⟩
    rw [Int.ediv_lt_iff_lt_mul (by omega)]
    exact h1
/-- The program's way: from the last dimension on. -/
theorem atl_getD : ∀ (s : List Int) (n : Int) (k : Nat), pos s → 0 ≤ n → n < prod s → k < s.length → (atl s n).getD k 0 = n / prod (s.drop (k + 1)) % s.getD k 0
  | [], _, k, _, _, _, h => by simp at h
  | d :: r, n, 0, h, h0, h1, _ => by
    have hr : pos r := fun x hx => h x (List.mem_cons_of_mem _ hx)
    have hp := prod_pos hr
    have hd := h d (List.mem_cons_self ..)
    simp only [atl, List.getD_cons_zero, List.drop_succ_cons, List.drop_zero]
    refine (Int.emod_eq_of_lt (Int.ediv_nonneg h0 (by omega)) ?_).symm
    rw [Int.ediv_lt_iff_lt_mul (by omega)]
    exact h1
  | d :: r, n, k + 1, h, h0, h1, hk => by
    have hr : pos r := fun x hx => h x (List.mem_cons_of_mem _ hx)
    have hp := prod_pos hr
    have hk' : k < r.length := by simpa using hk
    have ih := atl_getD r (n % prod r) k hr (Int.emod_nonneg _ (by omega)) (Int.emod_lt_of_pos _ (by omega)) hk'
    simp only [atl, List.getD_cons_succ, List.drop_succ_cons]
    rw [ih]
    have hd := prod_pos (pos_drop hr (k + 1))
    have hg := hr _ (getD_mem hk')
    obtain ⟨q, hq⟩ := prod_dvd r k
    rw [prod_drop hk', Int.mul_comm (r.getD k 0)] at hq
    generalize prod (r.drop (k + 1)) = P at *
    generalize r.getD k 0 = g at *
    rw [hq]
    have e1 : n % (P * g * q) / P = n / P % (g * q) := by
      rw [Int.mul_assoc]
      have a := Int.emod_def n (P * (g * q))
      rw [a, Int.mul_assoc, ← Int.ediv_ediv_of_nonneg (by omega)]
      rw [Int.emod_def, show n - P * (g * q * (n / P / (g * q))) = n + P * (-(g * q * (n / P / (g * q)))) by rw [Int.mul_neg]; omega, Int.add_mul_ediv_left _ _ (by omega)]
      omega
    rw [e1]
    exact Int.emod_emod_of_dvd _ ⟨q, rfl⟩
end Go.Proofs.YtmafgdinegboeaaGreat
namespace Go.Proofs.YtmafgdinegboeaaGreat

/-- The dimension of which, itself counted, there are j to the end; 1: none. -/
def ov (s : List Int) (j : Nat) : Int := if s.length < j then 1 else s.getD (s.length - j) 0
def fa (a b : List Int) (j : Nat) : Bool := decide (ov a j = ov b j) || decide (ov a j = 1) || decide (ov b j = 1)
def fitN (a b : List Int) : Nat → Bool
  | 0 => true
  | n + 1 => fa a b (n + 1) && fitN a b n
def gr (x y : Int) : Int := if y = 1 then x else y
def spl (a b : List Int) : Nat → List Int
  | 0 => []
  | n + 1 => gr (ov a (n + 1)) (ov b (n + 1)) :: spl a b n
def mx (a b : List Int) : Nat := max a.length b.length
def fit (a b : List Int) : Bool := fitN a b (mx a b)
def spr (a b : List Int) : List Int := spl a b (mx a b)
/-- Spread's answers: the error, the shape. -/
def spe (a b : List Int) : Int := if fit a b then (if may (spr a b) then 0 else 5) else 2
def spv (a b : List Int) : List Int := if spe a b = 0 then spr a b else []

theorem spl_len (a b : List Int) : ∀ n, (spl a b n).length = n
  | 0 => rfl
  | n + 1 => by simp [spl, spl_len a b n]
theorem spl_getD (a b : List Int) : ∀ n k, k < n → (spl a b n).getD k 0 = gr (ov a (n - k)) (ov b (n - k))
  | 0, k, h => by omega
  | n + 1, 0, _ => by simp [spl]
  | n + 1, k + 1, h => by
    have := spl_getD a b n k (by omega)
    rw [Nat.add_sub_add_right]
    simpa [spl] using this
theorem fitN_iff (a b : List Int) : ∀ n, fitN a b n = true ↔ ∀ j, 1 ≤ j → j ≤ n → fa a b j = true
  | 0 => by simp [fitN]; intro j h1 h2; omega
  | n + 1 => by
    simp only [fitN, Bool.and_eq_true, fitN_iff a b n]
    constructor
    · rintro ⟨h1, h2⟩ j a1 a2
      by_cases e : j = n + 1
      · subst e; exact h1
      · exact h2 j a1 (by omega)
    · intro h
      exact ⟨h _ (by omega) (by omega), fun j a1 a2 => h j a1 (by omega)⟩
theorem fa_iff (a b : List Int) (j : Nat) : fa a b j = true ↔ ov a j = ov b j ∨ ov a j = 1 ∨ ov b j = 1 := by
  unfold fa; simp [or_assoc]
theorem spe_fit {a b : List Int} (h : spe a b = 0) : fit a b = true ∧ may (spr a b) = true := by
  unfold spe at h
  split at h
  · rename_i h1
    split at h
    · rename_i h2; exact ⟨h1, h2⟩
    · omega
  · omega
theorem ext_getD {a b : List Int} (h : a.length = b.length) (hg : ∀ k, k < a.length → a.getD k 0 = b.getD k 0) : a = b := by
  apply List.ext_getElem h
  intro i h1 h2
  have := hg i h1
  simpa [List.getD, List.getElem?_eq_getElem h1, List.getElem?_eq_getElem h2] using this
theorem ov_at {s : List Int} {k : Nat} (h : k < s.length) : ov s (s.length - k) = s.getD k 0 := by
  unfold ov
  rw [if_neg (by omega), show s.length - (s.length - k) = k by omega]
/-- Spread of s and t is t. -/
def goes (s t : List Int) : Bool := decide (spe s t = 0) && decide (spv s t = t)
def gN (s t : List Int) : Nat → Bool
  | 0 => true
  | n + 1 => (decide (ov s (n + 1) = 1) || decide (ov s (n + 1) = ov t (n + 1))) && gN s t n
theorem gN_iff (s t : List Int) : ∀ n, gN s t n = true ↔ ∀ j, 1 ≤ j → j ≤ n → ov s j = 1 ∨ ov s j = ov t j
  | 0 => by simp [gN]; intro j h1 h2; omega
  | n + 1 => by
    simp only [gN, Bool.and_eq_true, Bool.or_eq_true, decide_eq_true_eq, gN_iff s t n]
    constructor
    · rintro ⟨h1, h2⟩ j a1 a2
      by_cases e : j = n + 1
      · subst e; exact h1
      · exact h2 j a1 (by omega)
    · intro h
      exact ⟨h _ (by omega) (by omega), fun j a1 a2 => h j a1 (by omega)⟩
theorem goes_is {s t : List Int} (_hs : may s = true) (ht : may t = true) : goes s t = (decide (s.length ≤ t.length) && gN s t t.length) := by
  rw [Bool.eq_iff_iff]
  unfold goes
  simp only [Bool.and_eq_true, decide_eq_true_eq, gN_iff]
  constructor
  · rintro ⟨h1, h2⟩
    obtain ⟨f, m⟩ := spe_fit h1
    unfold spv at h2
    rw [if_pos h1] at h2
    have hl : mx s t = t.length := by
      have := spl_len s t (mx s t)
      unfold spr at h2
      rw [h2] at this; exact this.symm
    refine ⟨by unfold mx at hl; omega, fun j a1 a2 => ?_⟩
    have hf := (fa_iff s t j).1 ((fitN_iff _ _ _).1 f j a1 (by omega))
    unfold spr at h2
    rw [hl] at h2
    have g := spl_getD s t t.length (t.length - j) (by omega)
    rw [h2, show t.length - (t.length - j) = j by omega] at g
    have o := ov_at (s := t) (k := t.length - j) (by omega)
    rw [show t.length - (t.length - j) = j by omega] at o
    rw [← o] at g
    unfold gr at g
    split at g <;> omega
  · rintro ⟨h1, h2⟩
    have hl : mx s t = t.length := by unfold mx; omega
    have hf : fit s t = true := by
      unfold fit
      rw [hl]
      exact (fitN_iff _ _ _).2 fun j a1 a2 => (fa_iff _ _ _).2 (by have := h2 j a1 a2; omega)
    have e : spr s t = t := by
      unfold spr
      rw [hl]
      refine ext_getD (spl_len _ _ _) fun k hk => ?_
      rw [spl_len] at hk
      rw [spl_getD _ _ _ _ hk]
      have o := ov_at hk
      have := h2 (t.length - k) (by omega) (by omega)
      unfold gr
      split <;> omega
    have h0 : spe s t = 0 := by unfold spe; rw [if_pos hf, e, if_pos ht]
    exact ⟨h0, by unfold spv; rw [if_pos h0, e]⟩

/-- What of an index counts in s. -/
def msk : List Int → List Int → List Int
  | d :: r, i :: t => (if 1 < d then i else 0) :: msk r t
  | _, _ => []
theorem msk_len : ∀ (s i : List Int), s.length = i.length → (msk s i).length = s.length
  | [], _, _ => rfl
  | d :: r, [], h => by simp at h
  | d :: r, i :: t, h => by simp [msk, msk_len r t (by simpa using h)]
theorem msk_getD : ∀ (s i : List Int) (k : Nat), s.length = i.length → k < s.length → (msk s i).getD k 0 = if 1 < s.getD k 0 then i.getD k 0 else 0
  | [], _, k, _, h => by simp at h
  | d :: r, [], _, h, _ => by simp at h
  | d :: r, i :: t, 0, _, _ => by simp [msk]
  | d :: r, i :: t, k + 1, h, hk => by
    have := msk_getD r t k (by simpa using h) (by simpa using hk)
    simpa [msk] using this
/-- The last numbers of an index of t, as one of s. -/
def lst (s i : List Int) : List Int := i.drop (i.length - s.length)
theorem lst_len {s i : List Int} (h : s.length ≤ i.length) : s.length = (lst s i).length := by unfold lst; simp; omega
theorem lst_getD {s i : List Int} (_h : s.length ≤ i.length) (k : Nat) : (lst s i).getD k 0 = i.getD (k + i.length - s.length) 0 := by
  unfold lst
  simp only [List.getD, List.getElem?_drop]
  congr 2
  omega
theorem under_inx {s t i : List Int} (hs : may s = true) (ht : may t = true) (hg : goes s t = true) (hi : inx t i = true) : inx s (msk s (lst s i)) = true := by
  rw [goes_is hs ht] at hg
  simp only [Bool.and_eq_true, decide_eq_true_eq, gN_iff] at hg
  obtain ⟨g1, g2⟩ := hg
  obtain ⟨a, b⟩ := inx_iff.1 hi
  have hl := lst_len (s := s) (i := i) (by omega)
  rw [inx_iff]
  refine ⟨(msk_len s _ hl).symm, fun k hk => ?_⟩
  rw [msk_getD s _ k hl hk, lst_getD (by omega)]
  have p := may_dim hs hk
  have o := ov_at hk
  have gg := g2 (s.length - k) (by omega) (by omega)
  have o2 := ov_at (s := t) (k := k + i.length - s.length) (by omega)
  rw [show t.length - (k + i.length - s.length) = s.length - k by omega] at o2
  have := b (k + i.length - s.length) (by omega)
  split <;> omega
/-- The place under an index. -/
def und (s i : List Int) : Int := ix s (msk s (lst s i))
theorem lst_same {s i : List Int} (h : s.length = i.length) : lst s i = i := by unfold lst; rw [h, Nat.sub_self, List.drop_zero]
theorem ix_step_at {s i : List Int} {k : Nat} (h : s.length = i.length) (hk : k < s.length) : ix (s.drop k) (i.drop k) = i.getD k 0 * prod (s.drop (k + 1)) + ix (s.drop (k + 1)) (i.drop (k + 1)) := by
  rw [drop_getD hk, drop_getD (show k < i.length by omega)]; rfl
theorem inx_drop : ∀ {s i : List Int} (k : Nat), inx s i = true → inx (s.drop k) (i.drop k) = true
  | s, i, 0, h => by simpa using h
  | [], [], k + 1, _ => rfl
  | d :: r, i :: t, k + 1, h => by
    simp only [inx, Bool.and_eq_true] at h
    simpa using inx_drop k h.2
  | [], _ :: _, _, h => by simp [inx] at h
  | _ :: _, [], _, h => by simp [inx] at h
/-- Horner's way. -/
def Hor (s m : List Int) (V p : Int) (k : Nat) : Prop := k ≤ s.length ∧ 0 ≤ p ∧ p ≤ V ∧ p * prod (s.drop k) + ix (s.drop k) (m.drop k) = V
theorem hor_start {s m : List Int} (h : inx s m = true) : Hor s m (ix s m) 0 0 := ⟨Nat.zero_le _, Int.le_refl _, (ix_bd h).1, by simp⟩
theorem hor_step {s m : List Int} {V p : Int} {k : Nat} (h : Hor s m V p k) (hi : inx s m = true) (hp : pos s) (hk : k < s.length) : Hor s m V (p * s.getD k 0 + m.getD k 0) (k + 1) ∧ 0 ≤ p * s.getD k 0 ∧ p * s.getD k 0 ≤ V := by
  obtain ⟨a, b, c, d⟩ := h
  obtain ⟨l, g⟩ := inx_iff.1 hi
  have gk := g k hk
  have q := prod_pos (pos_drop hp (k + 1))
  have r := ix_bd (inx_drop (k + 1) hi)
  have sk := hp _ (getD_mem hk)
  rw [ix_step_at l hk, prod_drop hk, ← Int.mul_assoc] at d
  have e : p * s.getD k 0 * prod (s.drop (k + 1)) + m.getD k 0 * prod (s.drop (k + 1)) = (p * s.getD k 0 + m.getD k 0) * prod (s.drop (k + 1)) := by rw [Int.add_mul]
  have n0 := Int.mul_nonneg b (show 0 ≤ s.getD k 0 by omega)
  have n1 := Int.mul_le_mul_of_nonneg_left q (show 0 ≤ p * s.getD k 0 + m.getD k 0 by omega)
  exact ⟨⟨by omega, by omega, by omega, by omega⟩, n0, by omega⟩
theorem hor_end {s m : List Int} {V p : Int} (h : Hor s m V p s.length) : p = V := by
  obtain ⟨_, _, _, d⟩ := h
  rw [List.drop_length] at d
  simp [prod, ix] at d
  exact d
/-- The sum, from the first number on. -/
def Sum (s m : List Int) (V p : Int) (k : Nat) : Prop := k ≤ s.length ∧ 0 ≤ p ∧ p + ix (s.drop k) (m.drop k) = V
theorem sum_start {s m : List Int} : Sum s m (ix s m) 0 0 := ⟨Nat.zero_le _, Int.le_refl _, by simp⟩
theorem sum_step {s m : List Int} {V p : Int} {k : Nat} (h : Sum s m V p k) (hi : inx s m = true) (hp : pos s) (hk : k < s.length) : Sum s m V (p + m.getD k 0 * prod (s.drop (k + 1))) (k + 1) ∧ 0 ≤ m.getD k 0 * prod (s.drop (k + 1)) ∧ m.getD k 0 * prod (s.drop (k + 1)) ≤ V ∧ p + m.getD k 0 * prod (s.drop (k + 1)) ≤ V := by
  obtain ⟨a, b, d⟩ := h
  obtain ⟨l, g⟩ := inx_iff.1 hi
  have gk := g k hk
  have q := prod_pos (pos_drop hp (k + 1))
  have r := ix_bd (inx_drop (k + 1) hi)
  rw [ix_step_at l hk] at d
  have n0 := Int.mul_nonneg gk.1 (show 0 ≤ prod (s.drop (k + 1)) by omega)
  exact ⟨⟨by omega, by omega, by omega⟩, n0, by omega, by omega⟩
theorem sum_end {s m : List Int} {V p : Int} (h : Sum s m V p s.length) : p = V := by
  obtain ⟨_, _, d⟩ := h
  rw [List.drop_length] at d
  simp [ix] at d
  exact d
end Go.Proofs.YtmafgdinegboeaaGreat
