/-
  Quotients told as words.
  Sums and differences of words.
  The statements' lists of package fx: what an element's cells hold.
  The small functions of package fx's statements.
-/
import Derived.LoopTactic
import Derived.Test.YteplhlmdaabpaaaGreatDoorM05
namespace Go.Proofs.YteplhlmdaabpaaaGreatDoor
open Go.RowKit

theorem isS_no {a : Int} (h : isS a = false) : ¬ (-9223372036854775808 ≤ a ∧ a ≤ 9223372036854775807) := by unfold isS at h; exact of_decide_eq_false h
set_option maxHeartbeats 2000000 in
/-- fx.nearest, by 0 -/
theorem near_zero (n d : Int) (w : World) (h0 : d = 0) : Calls Tryz.prog 117 #[Wv n, Wv d] w fun e w' => e = .returned (.tuple #[.int .i64 0, .int .i64 4]) ∧ Below w.heap.size w w' := by
  have RC := Lib.hid (fun W : World => round_zero n d W h0)
  clear h0
  go_enter Tryz.func117, Tryz.ntmps117
  go_wp2_with (go_at_call 126; (with_reducible refine (RC.out _).mono ?_); rintro e w1 ⟨rfl, hb1⟩; have e10 : w1.cell? ⟨w.heap.size, 0, none⟩ = some (.int .i64 (hi n)) := cell_on hb1 (by first | (simp [go_sem, *]; done) | (simp [go_sem, World.cell?_alloc_some, *]; done) | fail); have e11 : w1.cell? ⟨w.heap.size, 1, none⟩ = some (.int .u64 (lo n)) := cell_on hb1 (by first | (simp [go_sem, *]; done) | (simp [go_sem, World.cell?_alloc_some, *]; done) | fail); have e12 : w1.cell? ⟨w.heap.size + 1, 0, none⟩ = some (.int .i64 (hi d)) := cell_on hb1 (by first | (simp [go_sem, *]; done) | (simp [go_sem, World.cell?_alloc_some, *]; done) | fail); have e13 : w1.cell? ⟨w.heap.size + 1, 1, none⟩ = some (.int .u64 (lo d)) := cell_on hb1 (by first | (simp [go_sem, *]; done) | (simp [go_sem, World.cell?_alloc_some, *]; done) | fail); have s10 : w.heap.size < w1.heap.size := World.block_lt_of_cell? _ _ e10; have t10 : w.heap.size < w1.heap.size + 1 := Nat.lt_succ_of_lt s10; have s12 : w.heap.size + 1 < w1.heap.size := World.block_lt_of_cell? _ _ e12; have t12 : w.heap.size + 1 < w1.heap.size + 1 := Nat.lt_succ_of_lt s12)
  go_ret2
  refine ⟨rfl, ?_⟩
  repeat (first | exact Below.refl _ _ | assumption | apply Below.drew | refine Below.setCell ?_ (by first | omega | (simp; done) | (simp; omega)) _ | refine Below.alloc ?_ (by first | omega | (simp; done) | (simp; omega)) _ | refine Below.trans ?_ (hb1.mono (by first | omega | (simp; done) | (simp; omega))))
set_option maxHeartbeats 2000000 in
/-- fx.nearest -/
theorem near_any (n d : Int) (w : World) (hn : R n) (hd : R d) (h0 : d ≠ 0) : Calls Tryz.prog 117 #[Wv n, Wv d] w fun e w' => e = .returned (.tuple #[.int .i64 (tw (rd n d)), .int .i64 (te (rd n d))]) ∧ Below w.heap.size w w' := by
  have RC := fun W : World => round_any n d W hn hd h0
  by_cases r : R (rd n d)
  · rw [told_in r, over_in r] at RC
    have RC := Lib.hid RC
    generalize rd n d = q at *
    clear hn hd h0 r
    cases g : isS q with
    | true =>
      have SC := fun W : World => small_any q W
      rw [g, show sm q = q from if_pos g] at SC
      have SC := Lib.hid SC
      have TC := Lib.hid (fun W : World => told_any q W)
      clear g
      go_enter Tryz.func117, Tryz.ntmps117
      go_wp2_with (first | (go_at_call 126; (with_reducible refine (RC.out _).mono ?_); rintro e w1 ⟨rfl, hb1⟩; have e10 : w1.cell? ⟨w.heap.size, 0, none⟩ = some (.int .i64 (hi n)) := cell_on hb1 (by first | (simp [go_sem, *]; done) | (simp [go_sem, World.cell?_alloc_some, *]; done) | fail); have e11 : w1.cell? ⟨w.heap.size, 1, none⟩ = some (.int .u64 (lo n)) := cell_on hb1 (by first | (simp [go_sem, *]; done) | (simp [go_sem, World.cell?_alloc_some, *]; done) | fail); have e12 : w1.cell? ⟨w.heap.size + 1, 0, none⟩ = some (.int .i64 (hi d)) := cell_on hb1 (by first | (simp [go_sem, *]; done) | (simp [go_sem, World.cell?_alloc_some, *]; done) | fail); have e13 : w1.cell? ⟨w.heap.size + 1, 1, none⟩ = some (.int .u64 (lo d)) := cell_on hb1 (by first | (simp [go_sem, *]; done) | (simp [go_sem, World.cell?_alloc_some, *]; done) | fail); have s10 : w.heap.size < w1.heap.size := World.block_lt_of_cell? _ _ e10; have t10 : w.heap.size < w1.heap.size + 1 := Nat.lt_succ_of_lt s10; have s12 : w.heap.size + 1 < w1.heap.size := World.block_lt_of_cell? _ _ e12; have t12 : w.heap.size + 1 < w1.heap.size + 1 := Nat.lt_succ_of_lt s12) | (go_at_call 127; (with_reducible refine (SC.out _).mono ?_); rintro e w2 ⟨rfl, hb2⟩; have e20 : w2.cell? ⟨w.heap.size, 0, none⟩ = some (.int .i64 (hi n)) := cell_on hb2 (by first | (simp [go_sem, *]; done) | (simp [go_sem, World.cell?_alloc_some, *]; done) | fail); have e21 : w2.cell? ⟨w.heap.size, 1, none⟩ = some (.int .u64 (lo n)) := cell_on hb2 (by first | (simp [go_sem, *]; done) | (simp [go_sem, World.cell?_alloc_some, *]; done) | fail); have e22 : w2.cell? ⟨w.heap.size + 1, 0, none⟩ = some (.int .i64 (hi d)) := cell_on hb2 (by first | (simp [go_sem, *]; done) | (simp [go_sem, World.cell?_alloc_some, *]; done) | fail); have e23 : w2.cell? ⟨w.heap.size + 1, 1, none⟩ = some (.int .u64 (lo d)) := cell_on hb2 (by first | (simp [go_sem, *]; done) | (simp [go_sem, World.cell?_alloc_some, *]; done) | fail); have s20 : w.heap.size < w2.heap.size := World.block_lt_of_cell? _ _ e20; have t20 : w.heap.size < w2.heap.size + 1 := Nat.lt_succ_of_lt s20; have s22 : w.heap.size + 1 < w2.heap.size := World.block_lt_of_cell? _ _ e22; have t22 : w.heap.size + 1 < w2.heap.size + 1 := Nat.lt_succ_of_lt s22) | (go_at_call 41; (with_reducible refine (TC.out _).mono ?_); rintro e w' ⟨rfl, rfl⟩))
      go_ret2
      refine ⟨rfl, ?_⟩
      repeat (first | exact Below.refl _ _ | assumption | apply Below.drew | refine Below.setCell ?_ (by first | omega | (simp; done) | (simp; omega)) _ | refine Below.alloc ?_ (by first | omega | (simp; done) | (simp; omega)) _ | refine Below.trans ?_ (hb2.mono (by first | omega | (simp; done) | (simp; omega))) | refine Below.trans ?_ (hb1.mono (by first | omega | (simp; done) | (simp; omega))))
    | false =>
      have SC := fun W : World => small_any q W
      rw [g, show sm q = 0 from if_neg (by simp [g])] at SC
      have SC := Lib.hid SC
      have gw : wd q = false := by
        have := isS_no g
        unfold wd; simp only [decide_eq_false_iff_not]; omega
      have H := Lib.hid (And.intro (tw_out gw) (te_out gw))
      clear g gw
      go_enter Tryz.func117, Tryz.ntmps117
      go_wp2_with (first | (go_at_call 126; (with_reducible refine (RC.out _).mono ?_); rintro e w1 ⟨rfl, hb1⟩; have e10 : w1.cell? ⟨w.heap.size, 0, none⟩ = some (.int .i64 (hi n)) := cell_on hb1 (by first | (simp [go_sem, *]; done) | (simp [go_sem, World.cell?_alloc_some, *]; done) | fail); have e11 : w1.cell? ⟨w.heap.size, 1, none⟩ = some (.int .u64 (lo n)) := cell_on hb1 (by first | (simp [go_sem, *]; done) | (simp [go_sem, World.cell?_alloc_some, *]; done) | fail); have e12 : w1.cell? ⟨w.heap.size + 1, 0, none⟩ = some (.int .i64 (hi d)) := cell_on hb1 (by first | (simp [go_sem, *]; done) | (simp [go_sem, World.cell?_alloc_some, *]; done) | fail); have e13 : w1.cell? ⟨w.heap.size + 1, 1, none⟩ = some (.int .u64 (lo d)) := cell_on hb1 (by first | (simp [go_sem, *]; done) | (simp [go_sem, World.cell?_alloc_some, *]; done) | fail); have s10 : w.heap.size < w1.heap.size := World.block_lt_of_cell? _ _ e10; have t10 : w.heap.size < w1.heap.size + 1 := Nat.lt_succ_of_lt s10; have s12 : w.heap.size + 1 < w1.heap.size := World.block_lt_of_cell? _ _ e12; have t12 : w.heap.size + 1 < w1.heap.size + 1 := Nat.lt_succ_of_lt s12) | (go_at_call 127; (with_reducible refine (SC.out _).mono ?_); rintro e w2 ⟨rfl, hb2⟩; have e20 : w2.cell? ⟨w.heap.size, 0, none⟩ = some (.int .i64 (hi n)) := cell_on hb2 (by first | (simp [go_sem, *]; done) | (simp [go_sem, World.cell?_alloc_some, *]; done) | fail); have e21 : w2.cell? ⟨w.heap.size, 1, none⟩ = some (.int .u64 (lo n)) := cell_on hb2 (by first | (simp [go_sem, *]; done) | (simp [go_sem, World.cell?_alloc_some, *]; done) | fail); have e22 : w2.cell? ⟨w.heap.size + 1, 0, none⟩ = some (.int .i64 (hi d)) := cell_on hb2 (by first | (simp [go_sem, *]; done) | (simp [go_sem, World.cell?_alloc_some, *]; done) | fail); have e23 : w2.cell? ⟨w.heap.size + 1, 1, none⟩ = some (.int .u64 (lo d)) := cell_on hb2 (by first | (simp [go_sem, *]; done) | (simp [go_sem, World.cell?_alloc_some, *]; done) | fail); have s20 : w.heap.size < w2.heap.size := World.block_lt_of_cell? _ _ e20; have t20 : w.heap.size < w2.heap.size + 1 := Nat.lt_succ_of_lt s20; have s22 : w.heap.size + 1 < w2.heap.size := World.block_lt_of_cell? _ _ e22; have t22 : w.heap.size + 1 < w2.heap.size + 1 := Nat.lt_succ_of_lt s22) | (go_at_call 41; (with_reducible refine (TC.out _).mono ?_); rintro e w' ⟨rfl, rfl⟩))
      go_ret2
      refine ⟨by rw [H.out.1, H.out.2] <;> rfl, ?_⟩
      repeat (first | exact Below.refl _ _ | assumption | apply Below.drew | refine Below.setCell ?_ (by first | omega | (simp; done) | (simp; omega)) _ | refine Below.alloc ?_ (by first | omega | (simp; done) | (simp; omega)) _ | refine Below.trans ?_ (hb2.mono (by first | omega | (simp; done) | (simp; omega))) | refine Below.trans ?_ (hb1.mono (by first | omega | (simp; done) | (simp; omega))))
  · have gw : wd (rd n d) = false := by
      rw [R_iff] at r
      unfold wd; simp only [decide_eq_false_iff_not]; omega
    have H := Lib.hid (And.intro (tw_out gw) (te_out gw))
    rw [told_out r, over_out r] at RC
    have RC := Lib.hid RC
    clear hn hd h0 r gw
    generalize rd n d = q at *
    go_enter Tryz.func117, Tryz.ntmps117
    go_wp2_with (first | (go_at_call 126; (with_reducible refine (RC.out _).mono ?_); rintro e w1 ⟨rfl, hb1⟩; have e10 : w1.cell? ⟨w.heap.size, 0, none⟩ = some (.int .i64 (hi n)) := cell_on hb1 (by first | (simp [go_sem, *]; done) | (simp [go_sem, World.cell?_alloc_some, *]; done) | fail); have e11 : w1.cell? ⟨w.heap.size, 1, none⟩ = some (.int .u64 (lo n)) := cell_on hb1 (by first | (simp [go_sem, *]; done) | (simp [go_sem, World.cell?_alloc_some, *]; done) | fail); have e12 : w1.cell? ⟨w.heap.size + 1, 0, none⟩ = some (.int .i64 (hi d)) := cell_on hb1 (by first | (simp [go_sem, *]; done) | (simp [go_sem, World.cell?_alloc_some, *]; done) | fail); have e13 : w1.cell? ⟨w.heap.size + 1, 1, none⟩ = some (.int .u64 (lo d)) := cell_on hb1 (by first | (simp [go_sem, *]; done) | (simp [go_sem, World.cell?_alloc_some, *]; done) | fail); have s10 : w.heap.size < w1.heap.size := World.block_lt_of_cell? _ _ e10; have t10 : w.heap.size < w1.heap.size + 1 := Nat.lt_succ_of_lt s10; have s12 : w.heap.size + 1 < w1.heap.size := World.block_lt_of_cell? _ _ e12; have t12 : w.heap.size + 1 < w1.heap.size + 1 := Nat.lt_succ_of_lt s12) | (go_at_call 127; (with_reducible refine (SC.out _).mono ?_); rintro e w2 ⟨rfl, hb2⟩; have e20 : w2.cell? ⟨w.heap.size, 0, none⟩ = some (.int .i64 (hi n)) := cell_on hb2 (by first | (simp [go_sem, *]; done) | (simp [go_sem, World.cell?_alloc_some, *]; done) | fail); have e21 : w2.cell? ⟨w.heap.size, 1, none⟩ = some (.int .u64 (lo n)) := cell_on hb2 (by first | (simp [go_sem, *]; done) | (simp [go_sem, World.cell?_alloc_some, *]; done) | fail); have e22 : w2.cell? ⟨w.heap.size + 1, 0, none⟩ = some (.int .i64 (hi d)) := cell_on hb2 (by first | (simp [go_sem, *]; done) | (simp [go_sem, World.cell?_alloc_some, *]; done) | fail); have e23 : w2.cell? ⟨w.heap.size + 1, 1, none⟩ = some (.int .u64 (lo d)) := cell_on hb2 (by first | (simp [go_sem, *]; done) | (simp [go_sem, World.cell?_alloc_some, *]; done) | fail); have s20 : w.heap.size < w2.heap.size := World.block_lt_of_cell? _ _ e20; have t20 : w.heap.size < w2.heap.size + 1 := Nat.lt_succ_of_lt s20; have s22 : w.heap.size + 1 < w2.heap.size := World.block_lt_of_cell? _ _ e22; have t22 : w.heap.size + 1 < w2.heap.size + 1 := Nat.lt_succ_of_lt s22) | (go_at_call 41; (with_reducible refine (TC.out _).mono ?_); rintro e w' ⟨rfl, rfl⟩))
    go_ret2
    refine ⟨by rw [H.out.1, H.out.2] <;> rfl, ?_⟩
    repeat (first | exact Below.refl _ _ | assumption | apply Below.drew | refine Below.setCell ?_ (by first | omega | (simp; done) | (simp; omega)) _ | refine Below.alloc ?_ (by first | omega | (simp; done) | (simp; omega)) _ | refine Below.trans ?_ (hb1.mono (by first | omega | (simp; done) | (simp; omega))))
end Go.Proofs.YteplhlmdaabpaaaGreatDoor
namespace Go.Proofs.YteplhlmdaabpaaaGreatDoor
open Go.RowKit

theorem way_plus (w : World) : Calls Tryz.prog 75 #[.int .i64 0] w fun e w' => e = .returned (.func (.func 93) #[] #[]) ∧ w = w' := by
  go_enter Tryz.func75, Tryz.ntmps75
  go_wp2
  go_ret
  exact ⟨rfl, rfl⟩

theorem way_less (w : World) : Calls Tryz.prog 75 #[.int .i64 1] w fun e w' => e = .returned (.func (.func 94) #[] #[]) ∧ w = w' := by
  go_enter Tryz.func75, Tryz.ntmps75
  go_wp2
  go_ret
  exact ⟨rfl, rfl⟩

theorem way_times (w : World) : Calls Tryz.prog 75 #[.int .i64 2] w fun e w' => e = .returned (.func (.func 95) #[] #[]) ∧ w = w' := by
  go_enter Tryz.func75, Tryz.ntmps75
  go_wp2
  go_ret
  exact ⟨rfl, rfl⟩

theorem way_over (w : World) : Calls Tryz.prog 75 #[.int .i64 3] w fun e w' => e = .returned (.func (.func 96) #[] #[]) ∧ w = w' := by
  go_enter Tryz.func75, Tryz.ntmps75
  go_wp2
  go_ret
  exact ⟨rfl, rfl⟩

/-- fx.reckon, handed what is no word or no count of fraction bits -/
theorem reckon_form (o a b f : Int) (w : World) (h : (wd a && wd b && fb f) = false) : Calls Tryz.prog 55 #[.int .i64 o, .int .i64 a, .int .i64 b, .int .i64 f] w fun e w' => e = .returned (.tuple #[.int .i64 (0), .int .i64 (1)]) ∧ w = w' := by
  cases ga : wd a with
  | false =>
    have CA := fun W : World => check_any a W
    rw [ga] at CA
    have CA := Lib.hid CA
    clear h ga
    go_enter Tryz.func55, Tryz.ntmps55
    go_wp2_with (go_at_call 14; (with_reducible refine (CA.out _).mono ?_); rintro e w' ⟨rfl, rfl⟩)
    go_ret2
    exact ⟨rfl, rfl⟩
  | true =>
  cases gb : wd b with
  | false =>
    have CA := fun W : World => check_any a W
    rw [ga] at CA
    have CA := Lib.hid CA
    have CB := fun W : World => check_any b W
    rw [gb] at CB
    have CB := Lib.hid CB
    clear h ga gb
    go_enter Tryz.func55, Tryz.ntmps55
    go_wp2_with (first | (go_at_call 14; (with_reducible refine (CA.out _).mono ?_); rintro e w' ⟨rfl, rfl⟩) | (go_at_call 14; (with_reducible refine (CB.out _).mono ?_); rintro e w' ⟨rfl, rfl⟩))
    go_ret2
    exact ⟨rfl, rfl⟩
  | true =>
    have gf : fb f = false := by rw [ga, gb] at h; simpa using h
    have CA := fun W : World => check_any a W
    rw [ga] at CA
    have CA := Lib.hid CA
    have CB := fun W : World => check_any b W
    rw [gb] at CB
    have CB := Lib.hid CB
    have CF := fun W : World => checkf_any f W
    rw [gf] at CF
    have CF := Lib.hid CF
    clear h ga gb gf
    go_enter Tryz.func55, Tryz.ntmps55
    go_wp2_with (first | (go_at_call 14; (with_reducible refine (CA.out _).mono ?_); rintro e w' ⟨rfl, rfl⟩) | (go_at_call 14; (with_reducible refine (CB.out _).mono ?_); rintro e w' ⟨rfl, rfl⟩) | (go_at_call 15; (with_reducible refine (CF.out _).mono ?_); rintro e w' ⟨rfl, rfl⟩))
    go_ret2
    exact ⟨rfl, rfl⟩

theorem reckon_plus (a b f : Int) (w : World) (ga : wd a = true) (gb : wd b = true) (gf : fb f = true) : Calls Tryz.prog 55 #[.int .i64 0, .int .i64 a, .int .i64 b, .int .i64 f] w fun e w' => e = .returned (.tuple #[.int .i64 (tw (a + b)), .int .i64 (te (a + b))]) ∧ w = w' := by
  have WC := Lib.hid (fun W : World => wordplus_any a b f W ga gb)
  have CA := fun W : World => check_any a W
  rw [ga] at CA
  have CA := Lib.hid CA
  have CB := fun W : World => check_any b W
  rw [gb] at CB
  have CB := Lib.hid CB
  have CF := fun W : World => checkf_any f W
  rw [gf] at CF
  have CF := Lib.hid CF
  clear ga gb gf
  go_enter Tryz.func55, Tryz.ntmps55
  go_wp2_with (first | (go_at_call 14; (with_reducible refine (CA.out _).mono ?_); rintro e w' ⟨rfl, rfl⟩) | (go_at_call 14; (with_reducible refine (CB.out _).mono ?_); rintro e w' ⟨rfl, rfl⟩) | (go_at_call 15; (with_reducible refine (CF.out _).mono ?_); rintro e w' ⟨rfl, rfl⟩) | (go_at_call 75; (with_reducible refine (way_plus _).mono ?_); rintro e w' ⟨rfl, rfl⟩) | (go_at_call 93; (with_reducible refine (WC.out _).mono ?_); rintro e w' ⟨rfl, rfl⟩))
  go_ret2
  exact ⟨rfl, rfl⟩

theorem reckon_less (a b f : Int) (w : World) (ga : wd a = true) (gb : wd b = true) (gf : fb f = true) : Calls Tryz.prog 55 #[.int .i64 1, .int .i64 a, .int .i64 b, .int .i64 f] w fun e w' => e = .returned (.tuple #[.int .i64 (tw (a - b)), .int .i64 (te (a - b))]) ∧ w = w' := by
  have WC := Lib.hid (fun W : World => wordless_any a b f W ga gb)
  have CA := fun W : World => check_any a W
  rw [ga] at CA
  have CA := Lib.hid CA
  have CB := fun W : World => check_any b W
  rw [gb] at CB
  have CB := Lib.hid CB
  have CF := fun W : World => checkf_any f W
  rw [gf] at CF
  have CF := Lib.hid CF
  clear ga gb gf
  go_enter Tryz.func55, Tryz.ntmps55
  go_wp2_with (first | (go_at_call 14; (with_reducible refine (CA.out _).mono ?_); rintro e w' ⟨rfl, rfl⟩) | (go_at_call 14; (with_reducible refine (CB.out _).mono ?_); rintro e w' ⟨rfl, rfl⟩) | (go_at_call 15; (with_reducible refine (CF.out _).mono ?_); rintro e w' ⟨rfl, rfl⟩) | (go_at_call 75; (with_reducible refine (way_less _).mono ?_); rintro e w' ⟨rfl, rfl⟩) | (go_at_call 94; (with_reducible refine (WC.out _).mono ?_); rintro e w' ⟨rfl, rfl⟩))
  go_ret2
  exact ⟨rfl, rfl⟩



end Go.Proofs.YteplhlmdaabpaaaGreatDoor
namespace Go.Proofs.YteplhlmdaabpaaaGreatDoor
open Go.RowKit

/-- An element: two words (or not), fraction bits (or not), two numbers, a wide one, a count. -/
structure Fl where
  a : Int
  b : Int
  f : Int
  n : Int
  d : Int
  v : Int
  k : Int
def Fl.ok (e : Fl) : Prop := (-9223372036854775808 ≤ e.a ∧ e.a ≤ 9223372036854775807) ∧ (-9223372036854775808 ≤ e.b ∧ e.b ≤ 9223372036854775807) ∧ (-9223372036854775808 ≤ e.f ∧ e.f ≤ 9223372036854775807) ∧ (-9223372036854775808 ≤ e.n ∧ e.n ≤ 9223372036854775807) ∧ (-9223372036854775808 ≤ e.d ∧ e.d ≤ 9223372036854775807) ∧ R e.v ∧ (-9223372036854775808 ≤ e.k ∧ e.k ≤ 9223372036854775807)
/-- Its eight cells. -/
def FlAt (w : World) (b o : Nat) (e : Fl) : Prop :=
  w.cell? ⟨b, o, none⟩ = some (.int .i64 e.a) ∧ w.cell? ⟨b, o + 1, none⟩ = some (.int .i64 e.b) ∧ w.cell? ⟨b, o + 2, none⟩ = some (.int .i64 e.f) ∧ w.cell? ⟨b, o + 3, none⟩ = some (.int .i64 e.n) ∧ w.cell? ⟨b, o + 4, none⟩ = some (.int .i64 e.d) ∧ w.cell? ⟨b, o + 5, none⟩ = some (.int .i64 (hi e.v)) ∧ w.cell? ⟨b, o + 6, none⟩ = some (.int .u64 (lo e.v)) ∧ w.cell? ⟨b, o + 7, none⟩ = some (.int .i64 e.k)
theorem FlAt.below {w w' : World} {B b o : Nat} {e : Fl} (h : FlAt w b o e) (hb : Below B w w') (hB : b < B) : FlAt w' b o e := by
  obtain ⟨h1, h2, h3, h4, h5, h6, h7, h8⟩ := h
  exact ⟨(hb.cell (p := ⟨b, o, none⟩) hB).trans h1, (hb.cell (p := ⟨b, o + 1, none⟩) hB).trans h2, (hb.cell (p := ⟨b, o + 2, none⟩) hB).trans h3, (hb.cell (p := ⟨b, o + 3, none⟩) hB).trans h4, (hb.cell (p := ⟨b, o + 4, none⟩) hB).trans h5, (hb.cell (p := ⟨b, o + 5, none⟩) hB).trans h6, (hb.cell (p := ⟨b, o + 6, none⟩) hB).trans h7, (hb.cell (p := ⟨b, o + 7, none⟩) hB).trans h8⟩
end Go.Proofs.YteplhlmdaabpaaaGreatDoor
namespace Go.Proofs.YteplhlmdaabpaaaGreatDoor
open Go.RowKit

theorem num2_any (v : Int) (w : World) : Calls Tryz.prog 7 #[.int .i64 v] w fun e w' => e = .returned (.int .i64 v) ∧ w = w' := by
  go_enter Tryz.func7, Tryz.ntmps7
  go_wp2
  go_ret
  exact ⟨rfl, rfl⟩
theorem may_any (v : Int) (w : World) : Calls Tryz.prog 6 #[.int .i64 v] w fun e w' => e = .returned (.bool (wd v)) ∧ w = w' := by
  cases g : wd v with
  | true =>
    obtain ⟨g1, g2⟩ := wd_bd g
    clear g
    go_enter Tryz.func6, Tryz.ntmps6
    go_wp2
    go_ret
    exact ⟨rfl, rfl⟩
  | false =>
    have h := wd_no g
    clear g
    by_cases g1 : v ≤ -140737488355328
    · clear h
      go_enter Tryz.func6, Tryz.ntmps6
      go_wp2
      go_ret
      exact ⟨rfl, rfl⟩
    · have g2 : ¬ v < 140737488355328 := by omega
      have g3 : -140737488355328 < v := by omega
      clear h g1
      go_enter Tryz.func6, Tryz.ntmps6
      go_wp2
      go_ret
      exact ⟨rfl, rfl⟩
end Go.Proofs.YteplhlmdaabpaaaGreatDoor
