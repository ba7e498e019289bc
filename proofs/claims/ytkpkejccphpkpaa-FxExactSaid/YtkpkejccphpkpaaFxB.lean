/-
  Quotients told as words.
-/
import Derived.Test.YtkpkejccphpkpaaWideJ
import Derived.Test.YtkpkejccphpkpaaFxA
namespace Go.Proofs.Ytkpkejccphpkpaa
open Go.RowKit

theorem isS_no {a : Int} (h : isS a = false) : ¬ (-9223372036854775808 ≤ a ∧ a ≤ 9223372036854775807) := by unfold isS at h; exact of_decide_eq_false h
set_option maxHeartbeats 2000000 in
/-- fx.nearest, by 0 -/
theorem near_zero (n d : Int) (w : World) (h0 : d = 0) : Calls Try.prog 81 #[Wv n, Wv d] w fun e w' => e = .returned (.tuple #[.int .i64 0, .int .i64 4]) ∧ Below w.heap.size w w' := by
  have RC := Lib.hid (fun W : World => round_zero n d W h0)
  clear h0
  go_enter Try.func81, Try.ntmps81
  go_wp2_with (go_at_call 14; (with_reducible refine (RC.out _).mono ?_); rintro e w1 ⟨rfl, hb1⟩; have e10 : w1.cell? ⟨w.heap.size, 0, none⟩ = some (.int .i64 (hi n)) := cell_on hb1 (by first | (simp [go_sem, *]; done) | (simp [go_sem, World.cell?_alloc_some, *]; done) | fail); have e11 : w1.cell? ⟨w.heap.size, 1, none⟩ = some (.int .u64 (lo n)) := cell_on hb1 (by first | (simp [go_sem, *]; done) | (simp [go_sem, World.cell?_alloc_some, *]; done) | fail); have e12 : w1.cell? ⟨w.heap.size + 1, 0, none⟩ = some (.int .i64 (hi d)) := cell_on hb1 (by first | (simp [go_sem, *]; done) | (simp [go_sem, World.cell?_alloc_some, *]; done) | fail); have e13 : w1.cell? ⟨w.heap.size + 1, 1, none⟩ = some (.int .u64 (lo d)) := cell_on hb1 (by first | (simp [go_sem, *]; done) | (simp [go_sem, World.cell?_alloc_some, *]; done) | fail); have s10 : w.heap.size < w1.heap.size := World.block_lt_of_cell? _ _ e10; have t10 : w.heap.size < w1.heap.size + 1 := Nat.lt_succ_of_lt s10; have s12 : w.heap.size + 1 < w1.heap.size := World.block_lt_of_cell? _ _ e12; have t12 : w.heap.size + 1 < w1.heap.size + 1 := Nat.lt_succ_of_lt s12)
  go_ret2
  refine ⟨rfl, ?_⟩
  repeat (first | exact Below.refl _ _ | assumption | apply Below.drew | refine Below.setCell ?_ (by first | omega | (simp; done) | (simp; omega)) _ | refine Below.alloc ?_ (by first | omega | (simp; done) | (simp; omega)) _ | refine Below.trans ?_ (hb1.mono (by first | omega | (simp; done) | (simp; omega))))
set_option maxHeartbeats 2000000 in
/-- fx.nearest -/
theorem near_any (n d : Int) (w : World) (hn : R n) (hd : R d) (h0 : d ≠ 0) : Calls Try.prog 81 #[Wv n, Wv d] w fun e w' => e = .returned (.tuple #[.int .i64 (tw (rd n d)), .int .i64 (te (rd n d))]) ∧ Below w.heap.size w w' := by
  have RC := fun W : World => round_any n d W hn hd h0
  by_cases r : R (rd n d)
  · rw [told_in r, over_in r] at RC
    have RC := Lib.hid RC
    generalize rd n d = q at *
    clear hn hd h0 r
    cases g : isS q with
    | true =>
      have SC := fun W : World => small_any q W
      rw [g, show sm q = q from if_pos g] at SC
      have SC := Lib.hid SC
      have TC := Lib.hid (fun W : World => told_any q W)
      clear g
      go_enter Try.func81, Try.ntmps81
      go_wp2_with (first | (go_at_call 14; (with_reducible refine (RC.out _).mono ?_); rintro e w1 ⟨rfl, hb1⟩; have e10 : w1.cell? ⟨w.heap.size, 0, none⟩ = some (.int .i64 (hi n)) := cell_on hb1 (by first | (simp [go_sem, *]; done) | (simp [go_sem, World.cell?_alloc_some, *]; done) | fail); have e11 : w1.cell? ⟨w.heap.size, 1, none⟩ = some (.int .u64 (lo n)) := cell_on hb1 (by first | (simp [go_sem, *]; done) | (simp [go_sem, World.cell?_alloc_some, *]; done) | fail); have e12 : w1.cell? ⟨w.heap.size + 1, 0, none⟩ = some (.int .i64 (hi d)) := cell_on hb1 (by first | (simp [go_sem, *]; done) | (simp [go_sem, World.cell?_alloc_some, *]; done) | fail); have e13 : w1.cell? ⟨w.heap.size + 1, 1, none⟩ = some (.int .u64 (lo d)) := cell_on hb1 (by first | (simp [go_sem, *]; done) | (simp [go_sem, World.cell?_alloc_some, *]; done) | fail); have s10 : w.heap.size < w1.heap.size := World.block_lt_of_cell? _ _ e10; have t10 : w.heap.size < w1.heap.size + 1 := Nat.lt_succ_of_lt s10; have s12 : w.heap.size + 1 < w1.heap.size := World.block_lt_of_cell? _ _ e12; have t12 : w.heap.size + 1 < w1.heap.size + 1 := Nat.lt_succ_of_lt s12) | (go_at_call 112; (with_reducible refine (SC.out _).mono ?_); rintro e w2 ⟨rfl, hb2⟩; have e20 : w2.cell? ⟨w.heap.size, 0, none⟩ = some (.int .i64 (hi n)) := cell_on hb2 (by first | (simp [go_sem, *]; done) | (simp [go_sem, World.cell?_alloc_some, *]; done) | fail); have e21 : w2.cell? ⟨w.heap.size, 1, none⟩ = some (.int .u64 (lo n)) := cell_on hb2 (by first | (simp [go_sem, *]; done) | (simp [go_sem, World.cell?_alloc_some, *]; done) | fail); have e22 : w2.cell? ⟨w.heap.size + 1, 0, none⟩ = some (.int .i64 (hi d)) := cell_on hb2 (by first | (simp [go_sem, *]; done) | (simp [go_sem, World.cell?_alloc_some, *]; done) | fail); have e23 : w2.cell? ⟨w.heap.size + 1, 1, none⟩ = some (.int .u64 (lo d)) := cell_on hb2 (by first | (simp [go_sem, *]; done) | (simp [go_sem, World.cell?_alloc_some, *]; done) | fail); have s20 : w.heap.size < w2.heap.size := World.block_lt_of_cell? _ _ e20; have t20 : w.heap.size < w2.heap.size + 1 := Nat.lt_succ_of_lt s20; have s22 : w.heap.size + 1 < w2.heap.size := World.block_lt_of_cell? _ _ e22; have t22 : w.heap.size + 1 < w2.heap.size + 1 := Nat.lt_succ_of_lt s22) | (go_at_call 113; (with_reducible refine (TC.out _).mono ?_); rintro e w' ⟨rfl, rfl⟩))
      go_ret2
      refine ⟨rfl, ?_⟩
      repeat (first | exact Below.refl _ _ | assumption | apply Below.drew | refine Below.setCell ?_ (by first | omega | (simp; done) | (simp; omega)) _ | refine Below.alloc ?_ (by first | omega | (simp; done) | (simp; omega)) _ | refine Below.trans ?_ (hb2.mono (by first | omega | (simp; done) | (simp; omega))) | refine Below.trans ?_ (hb1.mono (by first | omega | (simp; done) | (simp; omega))))
    | false =>
      have SC := fun W : World => small_any q W
      rw [g, show sm q = 0 from if_neg (by simp [g])] at SC
      have SC := Lib.hid SC
      have gw : wd q = false := by
        have := isS_no g
        unfold wd; simp only [decide_eq_false_iff_not]; omega
      have H := Lib.hid (And.intro (tw_out gw) (te_out gw))
      clear g gw
      go_enter Try.func81, Try.ntmps81
      go_wp2_with (first | (go_at_call 14; (with_reducible refine (RC.out _).mono ?_); rintro e w1 ⟨rfl, hb1⟩; have e10 : w1.cell? ⟨w.heap.size, 0, none⟩ = some (.int .i64 (hi n)) := cell_on hb1 (by first | (simp [go_sem, *]; done) | (simp [go_sem, World.cell?_alloc_some, *]; done) | fail); have e11 : w1.cell? ⟨w.heap.size, 1, none⟩ = some (.int .u64 (lo n)) := cell_on hb1 (by first | (simp [go_sem, *]; done) | (simp [go_sem, World.cell?_alloc_some, *]; done) | fail); have e12 : w1.cell? ⟨w.heap.size + 1, 0, none⟩ = some (.int .i64 (hi d)) := cell_on hb1 (by first | (simp [go_sem, *]; done) | (simp [go_sem, World.cell?_alloc_some, *]; done) | fail); have e13 : w1.cell? ⟨w.heap.size + 1, 1, none⟩ = some (.int .u64 (lo d)) := cell_on hb1 (by first | (simp [go_sem, *]; done) | (simp [go_sem, World.cell?_alloc_some, *]; done) | fail); have s10 : w.heap.size < w1.heap.size := World.block_lt_of_cell? _ _ e10; have t10 : w.heap.size < w1.heap.size + 1 := Nat.lt_succ_of_lt s10; have s12 : w.heap.size + 1 < w1.heap.size := World.block_lt_of_cell? _ _ e12; have t12 : w.heap.size + 1 < w1.heap.size + 1 := Nat.lt_succ_of_lt s12) | (go_at_call 112; (with_reducible refine (SC.out _).mono ?_); rintro e w2 ⟨rfl, hb2⟩; have e20 : w2.cell? ⟨w.heap.size, 0, none⟩ = some (.int .i64 (hi n)) := cell_on hb2 (by first | (simp [go_sem, *]; done) | (simp [go_sem, World.cell?_alloc_some, *]; done) | fail); have e21 : w2.cell? ⟨w.heap.size, 1, none⟩ = some (.int .u64 (lo n)) := cell_on hb2 (by first | (simp [go_sem, *]; done) | (simp [go_sem, World.cell?_alloc_some, *]; done) | fail); have e22 : w2.cell? ⟨w.heap.size + 1, 0, none⟩ = some (.int .i64 (hi d)) := cell_on hb2 (by first | (simp [go_sem, *]; done) | (simp [go_sem, World.cell?_alloc_some, *]; done) | fail); have e23 : w2.cell? ⟨w.heap.size + 1, 1, none⟩ = some (.int .u64 (lo d)) := cell_on hb2 (by first | (simp [go_sem, *]; done) | (simp [go_sem, World.cell?_alloc_some, *]; done) | fail); have s20 : w.heap.size < w2.heap.size := World.block_lt_of_cell? _ _ e20; have t20 : w.heap.size < w2.heap.size + 1 := Nat.lt_succ_of_lt s20; have s22 : w.heap.size + 1 < w2.heap.size := World.block_lt_of_cell? _ _ e22; have t22 : w.heap.size + 1 < w2.heap.size + 1 := Nat.lt_succ_of_lt s22) | (go_at_call 113; (with_reducible refine (TC.out _).mono ?_); rintro e w' ⟨rfl, rfl⟩))
      go_ret2
      refine ⟨by rw [H.out.1, H.out.2] <;> rfl, ?_⟩
      repeat (first | exact Below.refl _ _ | assumption | apply Below.drew | refine Below.setCell ?_ (by first | omega | (simp; done) | (simp; omega)) _ | refine Below.alloc ?_ (by first | omega | (simp; done) | (simp; omega)) _ | refine Below.trans ?_ (hb2.mono (by first | omega | (simp; done) | (simp; omega))) | refine Below.trans ?_ (hb1.mono (by first | omega | (simp; done) | (simp; omega))))
  · have gw : wd (rd n d) = false := by
      rw [R_iff] at r
      unfold wd; simp only [decide_eq_false_iff_not]; omega
    have H := Lib.hid (And.intro (tw_out gw) (te_out gw))
    rw [told_out r, over_out r] at RC
    have RC := Lib.hid RC
    clear hn hd h0 r gw
    generalize rd n d = q at *
    go_enter Try.func81, Try.ntmps81
    go_wp2_with (first | (go_at_call 14; (with_reducible refine (RC.out _).mono ?_); rintro e w1 ⟨rfl, hb1⟩; have e10 : w1.cell? ⟨w.heap.size, 0, none⟩ = some (.int .i64 (hi n)) := cell_on hb1 (by first | (simp [go_sem, *]; done) | (simp [go_sem, World.cell?_alloc_some, *]; done) | fail); have e11 : w1.cell? ⟨w.heap.size, 1, none⟩ = some (.int .u64 (lo n)) := cell_on hb1 (by first | (simp [go_sem, *]; done) | (simp [go_sem, World.cell?_alloc_some, *]; done) | fail); have e12 : w1.cell? ⟨w.heap.size + 1, 0, none⟩ = some (.int .i64 (hi d)) := cell_on hb1 (by first | (simp [go_sem, *]; done) | (simp [go_sem, World.cell?_alloc_some, *]; done) | fail); have e13 : w1.cell? ⟨w.heap.size + 1, 1, none⟩ = some (.int .u64 (lo d)) := cell_on hb1 (by first | (simp [go_sem, *]; done) | (simp [go_sem, World.cell?_alloc_some, *]; done) | fail); have s10 : w.heap.size < w1.heap.size := World.block_lt_of_cell? _ _ e10; have t10 : w.heap.size < w1.heap.size + 1 := Nat.lt_succ_of_lt s10; have s12 : w.heap.size + 1 < w1.heap.size := World.block_lt_of_cell? _ _ e12; have t12 : w.heap.size + 1 < w1.heap.size + 1 := Nat.lt_succ_of_lt s12) | (go_at_call 112; (with_reducible refine (SC.out _).mono ?_); rintro e w2 ⟨rfl, hb2⟩; have e20 : w2.cell? ⟨w.heap.size, 0, none⟩ = some (.int .i64 (hi n)) := cell_on hb2 (by first | (simp [go_sem, *]; done) | (simp [go_sem, World.cell?_alloc_some, *]; done) | fail); have e21 : w2.cell? ⟨w.heap.size, 1, none⟩ = some (.int .u64 (lo n)) := cell_on hb2 (by first | (simp [go_sem, *]; done) | (simp [go_sem, World.cell?_alloc_some, *]; done) | fail); have e22 : w2.cell? ⟨w.heap.size + 1, 0, none⟩ = some (.int .i64 (hi d)) := cell_on hb2 (by first | (simp [go_sem, *]; done) | (simp [go_sem, World.cell?_alloc_some, *]; done) | fail); have e23 : w2.cell? ⟨w.heap.size + 1, 1, none⟩ = some (.int .u64 (lo d)) := cell_on hb2 (by first | (simp [go_sem, *]; done) | (simp [go_sem, World.cell?_alloc_some, *]; done) | fail); have s20 : w.heap.size < w2.heap.size := World.block_lt_of_cell? _ _ e20; have t20 : w.heap.size < w2.heap.size + 1 := Nat.lt_succ_of_lt s20; have s22 : w.heap.size + 1 < w2.heap.size := World.block_lt_of_cell? _ _ e22; have t22 : w.heap.size + 1 < w2.heap.size + 1 := Nat.lt_succ_of_lt s22) | (go_at_call 113; (with_reducible refine (TC.out _).mono ?_); rintro e w' ⟨rfl, rfl⟩))
    go_ret2
    refine ⟨by rw [H.out.1, H.out.2] <;> rfl, ?_⟩
    repeat (first | exact Below.refl _ _ | assumption | apply Below.drew | refine Below.setCell ?_ (by first | omega | (simp; done) | (simp; omega)) _ | refine Below.alloc ?_ (by first | omega | (simp; done) | (simp; omega)) _ | refine Below.trans ?_ (hb1.mono (by first | omega | (simp; done) | (simp; omega))))
end Go.Proofs.Ytkpkejccphpkpaa
