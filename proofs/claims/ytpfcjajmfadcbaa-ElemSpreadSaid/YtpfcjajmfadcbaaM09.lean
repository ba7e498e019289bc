/-
  Quotients told as words.
  Sums and differences of words.
  The statements' lists of package fx: what an element's cells hold.
  The small functions of package fx's statements.
  Closing, ratios, and the operations of words.
  package elem: Two, where nothing is no tensor.
-/
import Derived.LoopTactic
import Derived.Test.YtpfcjajmfadcbaaM04
import Derived.Test.YtpfcjajmfadcbaaM06
import Derived.Test.YtpfcjajmfadcbaaM08
namespace Go.Proofs.Ytpfcjajmfadcbaa
open Go.RowKit

theorem isS_no {a : Int} (h : isS a = false) : ¬ (-9223372036854775808 ≤ a ∧ a ≤ 9223372036854775807) := by unfold isS at h; exact of_decide_eq_false h
set_option maxHeartbeats 2000000 in
/-- fx.nearest, by 0 -/
theorem near_zero (n d : Int) (w : World) (h0 : d = 0) : Calls Try.prog 67 #[Wv n, Wv d] w fun e w' => e = .returned (.tuple #[.int .i64 0, .int .i64 4]) ∧ Below w.heap.size w w' := by
  have RC := Lib.hid (fun W : World => round_zero n d W h0)
  clear h0
  go_enter Try.func67, Try.ntmps67
  go_wp2_with (go_at_call 74; (with_reducible refine (RC.out _).mono ?_); rintro e w1 ⟨rfl, hb1⟩; have e10 : w1.cell? ⟨w.heap.size, 0, none⟩ = some (.int .i64 (hi n)) := cell_on hb1 (by first | (simp [go_sem, *]; done) | (simp [go_sem, World.cell?_alloc_some, *]; done) | fail); have e11 : w1.cell? ⟨w.heap.size, 1, none⟩ = some (.int .u64 (lo n)) := cell_on hb1 (by first | (simp [go_sem, *]; done) | (simp [go_sem, World.cell?_alloc_some, *]; done) | fail); have e12 : w1.cell? ⟨w.heap.size + 1, 0, none⟩ = some (.int .i64 (hi d)) := cell_on hb1 (by first | (simp [go_sem, *]; done) | (simp [go_sem, World.cell?_alloc_some, *]; done) | fail); have e13 : w1.cell? ⟨w.heap.size + 1, 1, none⟩ = some (.int .u64 (lo d)) := cell_on hb1 (by first | (simp [go_sem, *]; done) | (simp [go_sem, World.cell?_alloc_some, *]; done) | fail); have s10 : w.heap.size < w1.heap.size := World.block_lt_of_cell? _ _ e10; have t10 : w.heap.size < w1.heap.size + 1 := Nat.lt_succ_of_lt s10; have s12 : w.heap.size + 1 < w1.heap.size := World.block_lt_of_cell? _ _ e12; have t12 : w.heap.size + 1 < w1.heap.size + 1 := Nat.lt_succ_of_lt s12)
  go_ret2
  refine ⟨rfl, ?_⟩
  repeat (first | exact Below.refl _ _ | assumption | apply Below.drew | refine Below.setCell ?_ (by first | omega | (simp; done) | (simp; omega)) _ | refine Below.alloc ?_ (by first | omega | (simp; done) | (simp; omega)) _ | refine Below.trans ?_ (hb1.mono (by first | omega | (simp; done) | (simp; omega))))
set_option maxHeartbeats 2000000 in
/-- fx.nearest -/
theorem near_any (n d : Int) (w : World) (hn : R n) (hd : R d) (h0 : d ≠ 0) : Calls Try.prog 67 #[Wv n, Wv d] w fun e w' => e = .returned (.tuple #[.int .i64 (tw (rd n d)), .int .i64 (te (rd n d))]) ∧ Below w.heap.size w w' := by
  have RC := fun W : World => round_any n d W hn hd h0
  by_cases r : R (rd n d)
  · rw [told_in r, over_in r] at RC
    have RC := Lib.hid RC
    generalize rd n d = q at *
    clear hn hd h0 r
    cases g : isS q with
    | true =>
      have SC := fun W : World => small_any q W
      rw [g, show sm q = q from if_pos g] at SC
      have SC := Lib.hid SC
      have TC := Lib.hid (fun W : World => told_any q W)
      clear g
      go_enter Try.func67, Try.ntmps67
      go_wp2_with (first | (go_at_call 74; (with_reducible refine (RC.out _).mono ?_); rintro e w1 ⟨rfl, hb1⟩; have e10 : w1.cell? ⟨w.heap.size, 0, none⟩ = some (.int .i64 (hi n)) := cell_on hb1 (by first | (simp [go_sem, *]; done) | (simp [go_sem, World.cell?_alloc_some, *]; done) | fail); have e11 : w1.cell? ⟨w.heap.size, 1, none⟩ = some (.int .u64 (lo n)) := cell_on hb1 (by first | (simp [go_sem, *]; done) | (simp [go_sem, World.cell?_alloc_some, *]; done) | fail); have e12 : w1.cell? ⟨w.heap.size + 1, 0, none⟩ = some (.int .i64 (hi d)) := cell_on hb1 (by first | (simp [go_sem, *]; done) | (simp [go_sem, World.cell?_alloc_some, *]; done) | fail); have e13 : w1.cell? ⟨w.heap.size + 1, 1, none⟩ = some (.int .u64 (lo d)) := cell_on hb1 (by first | (simp [go_sem, *]; done) | (simp [go_sem, World.cell?_alloc_some, *]; done) | fail); have s10 : w.heap.size < w1.heap.size := World.block_lt_of_cell? _ _ e10; have t10 : w.heap.size < w1.heap.size + 1 := Nat.lt_succ_of_lt s10; have s12 : w.heap.size + 1 < w1.heap.size := World.block_lt_of_cell? _ _ e12; have t12 : w.heap.size + 1 < w1.heap.size + 1 := Nat.lt_succ_of_lt s12) | (go_at_call 75; (with_reducible refine (SC.out _).mono ?_); rintro e w2 ⟨rfl, hb2⟩; have e20 : w2.cell? ⟨w.heap.size, 0, none⟩ = some (.int .i64 (hi n)) := cell_on hb2 (by first | (simp [go_sem, *]; done) | (simp [go_sem, World.cell?_alloc_some, *]; done) | fail); have e21 : w2.cell? ⟨w.heap.size, 1, none⟩ = some (.int .u64 (lo n)) := cell_on hb2 (by first | (simp [go_sem, *]; done) | (simp [go_sem, World.cell?_alloc_some, *]; done) | fail); have e22 : w2.cell? ⟨w.heap.size + 1, 0, none⟩ = some (.int .i64 (hi d)) := cell_on hb2 (by first | (simp [go_sem, *]; done) | (simp [go_sem, World.cell?_alloc_some, *]; done) | fail); have e23 : w2.cell? ⟨w.heap.size + 1, 1, none⟩ = some (.int .u64 (lo d)) := cell_on hb2 (by first | (simp [go_sem, *]; done) | (simp [go_sem, World.cell?_alloc_some, *]; done) | fail); have s20 : w.heap.size < w2.heap.size := World.block_lt_of_cell? _ _ e20; have t20 : w.heap.size < w2.heap.size + 1 := Nat.lt_succ_of_lt s20; have s22 : w.heap.size + 1 < w2.heap.size := World.block_lt_of_cell? _ _ e22; have t22 : w.heap.size + 1 < w2.heap.size + 1 := Nat.lt_succ_of_lt s22) | (go_at_call 61; (with_reducible refine (TC.out _).mono ?_); rintro e w' ⟨rfl, rfl⟩))
      go_ret2
      refine ⟨rfl, ?_⟩
      repeat (first | exact Below.refl _ _ | assumption | apply Below.drew | refine Below.setCell ?_ (by first | omega | (simp; done) | (simp; omega)) _ | refine Below.alloc ?_ (by first | omega | (simp; done) | (simp; omega)) _ | refine Below.trans ?_ (hb2.mono (by first | omega | (simp; done) | (simp; omega))) | refine Below.trans ?_ (hb1.mono (by first | omega | (simp; done) | (simp; omega))))
    | false =>
      have SC := fun W : World => small_any q W
      rw [g, show sm q = 0 from if_neg (by simp [g])] at SC
      have SC := Lib.hid SC
      have gw : wd q = false := by
        have := isS_no g
        unfold wd; simp only [decide_eq_false_iff_not]; omega
      have H := Lib.hid (And.intro (tw_out gw) (te_out gw))
      clear g gw
      go_enter Try.func67, Try.ntmps67
      go_wp2_with (first | (go_at_call 74; (with_reducible refine (RC.out _).mono ?_); rintro e w1 ⟨rfl, hb1⟩; have e10 : w1.cell? ⟨w.heap.size, 0, none⟩ = some (.int .i64 (hi n)) := cell_on hb1 (by first | (simp [go_sem, *]; done) | (simp [go_sem, World.cell?_alloc_some, *]; done) | fail); have e11 : w1.cell? ⟨w.heap.size, 1, none⟩ = some (.int .u64 (lo n)) := cell_on hb1 (by first | (simp [go_sem, *]; done) | (simp [go_sem, World.cell?_alloc_some, *]; done) | fail); have e12 : w1.cell? ⟨w.heap.size + 1, 0, none⟩ = some (.int .i64 (hi d)) := cell_on hb1 (by first | (simp [go_sem, *]; done) | (simp [go_sem, World.cell?_alloc_some, *]; done) | fail); have e13 : w1.cell? ⟨w.heap.size + 1, 1, none⟩ = some (.int .u64 (lo d)) := cell_on hb1 (by first | (simp [go_sem, *]; done) | (simp [go_sem, World.cell?_alloc_some, *]; done) | fail); have s10 : w.heap.size < w1.heap.size := World.block_lt_of_cell? _ _ e10; have t10 : w.heap.size < w1.heap.size + 1 := Nat.lt_succ_of_lt s10; have s12 : w.heap.size + 1 < w1.heap.size := World.block_lt_of_cell? _ _ e12; have t12 : w.heap.size + 1 < w1.heap.size + 1 := Nat.lt_succ_of_lt s12) | (go_at_call 75; (with_reducible refine (SC.out _).mono ?_); rintro e w2 ⟨rfl, hb2⟩; have e20 : w2.cell? ⟨w.heap.size, 0, none⟩ = some (.int .i64 (hi n)) := cell_on hb2 (by first | (simp [go_sem, *]; done) | (simp [go_sem, World.cell?_alloc_some, *]; done) | fail); have e21 : w2.cell? ⟨w.heap.size, 1, none⟩ = some (.int .u64 (lo n)) := cell_on hb2 (by first | (simp [go_sem, *]; done) | (simp [go_sem, World.cell?_alloc_some, *]; done) | fail); have e22 : w2.cell? ⟨w.heap.size + 1, 0, none⟩ = some (.int .i64 (hi d)) := cell_on hb2 (by first | (simp [go_sem, *]; done) | (simp [go_sem, World.cell?_alloc_some, *]; done) | fail); have e23 : w2.cell? ⟨w.heap.size + 1, 1, none⟩ = some (.int .u64 (lo d)) := cell_on hb2 (by first | (simp [go_sem, *]; done) | (simp [go_sem, World.cell?_alloc_some, *]; done) | fail); have s20 : w.heap.size < w2.heap.size := World.block_lt_of_cell? _ _ e20; have t20 : w.heap.size < w2.heap.size + 1 := Nat.lt_succ_of_lt s20; have s22 : w.heap.size + 1 < w2.heap.size := World.block_lt_of_cell? _ _ e22; have t22 : w.heap.size + 1 < w2.heap.size + 1 := Nat.lt_succ_of_lt s22) | (go_at_call 61; (with_reducible refine (TC.out _).mono ?_); rintro e w' ⟨rfl, rfl⟩))
      go_ret2
      refine ⟨by rw [H.out.1, H.out.2] <;> rfl, ?_⟩
      repeat (first | exact Below.refl _ _ | assumption | apply Below.drew | refine Below.setCell ?_ (by first | omega | (simp; done) | (simp; omega)) _ | refine Below.alloc ?_ (by first | omega | (simp; done) | (simp; omega)) _ | refine Below.trans ?_ (hb2.mono (by first | omega | (simp; done) | (simp; omega))) | refine Below.trans ?_ (hb1.mono (by first | omega | (simp; done) | (simp; omega))))
  · have gw : wd (rd n d) = false := by
      rw [R_iff] at r
      unfold wd; simp only [decide_eq_false_iff_not]; omega
    have H := Lib.hid (And.intro (tw_out gw) (te_out gw))
    rw [told_out r, over_out r] at RC
    have RC := Lib.hid RC
    clear hn hd h0 r gw
    generalize rd n d = q at *
    go_enter Try.func67, Try.ntmps67
    go_wp2_with (first | (go_at_call 74; (with_reducible refine (RC.out _).mono ?_); rintro e w1 ⟨rfl, hb1⟩; have e10 : w1.cell? ⟨w.heap.size, 0, none⟩ = some (.int .i64 (hi n)) := cell_on hb1 (by first | (simp [go_sem, *]; done) | (simp [go_sem, World.cell?_alloc_some, *]; done) | fail); have e11 : w1.cell? ⟨w.heap.size, 1, none⟩ = some (.int .u64 (lo n)) := cell_on hb1 (by first | (simp [go_sem, *]; done) | (simp [go_sem, World.cell?_alloc_some, *]; done) | fail); have e12 : w1.cell? ⟨w.heap.size + 1, 0, none⟩ = some (.int .i64 (hi d)) := cell_on hb1 (by first | (simp [go_sem, *]; done) | (simp [go_sem, World.cell?_alloc_some, *]; done) | fail); have e13 : w1.cell? ⟨w.heap.size + 1, 1, none⟩ = some (.int .u64 (lo d)) := cell_on hb1 (by first | (simp [go_sem, *]; done) | (simp [go_sem, World.cell?_alloc_some, *]; done) | fail); have s10 : w.heap.size < w1.heap.size := World.block_lt_of_cell? _ _ e10; have t10 : w.heap.size < w1.heap.size + 1 := Nat.lt_succ_of_lt s10; have s12 : w.heap.size + 1 < w1.heap.size := World.block_lt_of_cell? _ _ e12; have t12 : w.heap.size + 1 < w1.heap.size + 1 := Nat.lt_succ_of_lt s12) | (go_at_call 75; (with_reducible refine (SC.out _).mono ?_); rintro e w2 ⟨rfl, hb2⟩; have e20 : w2.cell? ⟨w.heap.size, 0, none⟩ = some (.int .i64 (hi n)) := cell_on hb2 (by first | (simp [go_sem, *]; done) | (simp [go_sem, World.cell?_alloc_some, *]; done) | fail); have e21 : w2.cell? ⟨w.heap.size, 1, none⟩ = some (.int .u64 (lo n)) := cell_on hb2 (by first | (simp [go_sem, *]; done) | (simp [go_sem, World.cell?_alloc_some, *]; done) | fail); have e22 : w2.cell? ⟨w.heap.size + 1, 0, none⟩ = some (.int .i64 (hi d)) := cell_on hb2 (by first | (simp [go_sem, *]; done) | (simp [go_sem, World.cell?_alloc_some, *]; done) | fail); have e23 : w2.cell? ⟨w.heap.size + 1, 1, none⟩ = some (.int .u64 (lo d)) := cell_on hb2 (by first | (simp [go_sem, *]; done) | (simp [go_sem, World.cell?_alloc_some, *]; done) | fail); have s20 : w.heap.size < w2.heap.size := World.block_lt_of_cell? _ _ e20; have t20 : w.heap.size < w2.heap.size + 1 := Nat.lt_succ_of_lt s20; have s22 : w.heap.size + 1 < w2.heap.size := World.block_lt_of_cell? _ _ e22; have t22 : w.heap.size + 1 < w2.heap.size + 1 := Nat.lt_succ_of_lt s22) | (go_at_call 61; (with_reducible refine (TC.out _).mono ?_); rintro e w' ⟨rfl, rfl⟩))
    go_ret2
    refine ⟨by rw [H.out.1, H.out.2] <;> rfl, ?_⟩
    repeat (first | exact Below.refl _ _ | assumption | apply Below.drew | refine Below.setCell ?_ (by first | omega | (simp; done) | (simp; omega)) _ | refine Below.alloc ?_ (by first | omega | (simp; done) | (simp; omega)) _ | refine Below.trans ?_ (hb1.mono (by first | omega | (simp; done) | (simp; omega))))
end Go.Proofs.Ytpfcjajmfadcbaa
namespace Go.Proofs.Ytpfcjajmfadcbaa
open Go.RowKit

theorem way_plus (w : World) : Calls Try.prog 55 #[.int .i64 0] w fun e w' => e = .returned (.func (.func 57) #[] #[]) ∧ w = w' := by
  go_enter Try.func55, Try.ntmps55
  go_wp2
  go_ret
  exact ⟨rfl, rfl⟩

theorem way_less (w : World) : Calls Try.prog 55 #[.int .i64 1] w fun e w' => e = .returned (.func (.func 58) #[] #[]) ∧ w = w' := by
  go_enter Try.func55, Try.ntmps55
  go_wp2
  go_ret
  exact ⟨rfl, rfl⟩

theorem way_times (w : World) : Calls Try.prog 55 #[.int .i64 2] w fun e w' => e = .returned (.func (.func 59) #[] #[]) ∧ w = w' := by
  go_enter Try.func55, Try.ntmps55
  go_wp2
  go_ret
  exact ⟨rfl, rfl⟩

theorem way_over (w : World) : Calls Try.prog 55 #[.int .i64 3] w fun e w' => e = .returned (.func (.func 60) #[] #[]) ∧ w = w' := by
  go_enter Try.func55, Try.ntmps55
  go_wp2
  go_ret
  exact ⟨rfl, rfl⟩

/-- fx.reckon, handed what is no word or no count of fraction bits -/
theorem reckon_form (o a b f : Int) (w : World) (h : (wd a && wd b && fb f) = false) : Calls Try.prog 53 #[.int .i64 o, .int .i64 a, .int .i64 b, .int .i64 f] w fun e w' => e = .returned (.tuple #[.int .i64 (0), .int .i64 (1)]) ∧ w = w' := by
  cases ga : wd a with
  | false =>
    have CA := fun W : World => check_any a W
    rw [ga] at CA
    have CA := Lib.hid CA
    clear h ga
    go_enter Try.func53, Try.ntmps53
    go_wp2_with (go_at_call 39; (with_reducible refine (CA.out _).mono ?_); rintro e w' ⟨rfl, rfl⟩)
    go_ret2
    exact ⟨rfl, rfl⟩
  | true =>
  cases gb : wd b with
  | false =>
    have CA := fun W : World => check_any a W
    rw [ga] at CA
    have CA := Lib.hid CA
    have CB := fun W : World => check_any b W
    rw [gb] at CB
    have CB := Lib.hid CB
    clear h ga gb
    go_enter Try.func53, Try.ntmps53
    go_wp2_with (first | (go_at_call 39; (with_reducible refine (CA.out _).mono ?_); rintro e w' ⟨rfl, rfl⟩) | (go_at_call 39; (with_reducible refine (CB.out _).mono ?_); rintro e w' ⟨rfl, rfl⟩))
    go_ret2
    exact ⟨rfl, rfl⟩
  | true =>
    have gf : fb f = false := by rw [ga, gb] at h; simpa using h
    have CA := fun W : World => check_any a W
    rw [ga] at CA
    have CA := Lib.hid CA
    have CB := fun W : World => check_any b W
    rw [gb] at CB
    have CB := Lib.hid CB
    have CF := fun W : World => checkf_any f W
    rw [gf] at CF
    have CF := Lib.hid CF
    clear h ga gb gf
    go_enter Try.func53, Try.ntmps53
    go_wp2_with (first | (go_at_call 39; (with_reducible refine (CA.out _).mono ?_); rintro e w' ⟨rfl, rfl⟩) | (go_at_call 39; (with_reducible refine (CB.out _).mono ?_); rintro e w' ⟨rfl, rfl⟩) | (go_at_call 26; (with_reducible refine (CF.out _).mono ?_); rintro e w' ⟨rfl, rfl⟩))
    go_ret2
    exact ⟨rfl, rfl⟩

theorem reckon_plus (a b f : Int) (w : World) (ga : wd a = true) (gb : wd b = true) (gf : fb f = true) : Calls Try.prog 53 #[.int .i64 0, .int .i64 a, .int .i64 b, .int .i64 f] w fun e w' => e = .returned (.tuple #[.int .i64 (tw (a + b)), .int .i64 (te (a + b))]) ∧ w = w' := by
  have WC := Lib.hid (fun W : World => wordplus_any a b f W ga gb)
  have CA := fun W : World => check_any a W
  rw [ga] at CA
  have CA := Lib.hid CA
  have CB := fun W : World => check_any b W
  rw [gb] at CB
  have CB := Lib.hid CB
  have CF := fun W : World => checkf_any f W
  rw [gf] at CF
  have CF := Lib.hid CF
  clear ga gb gf
  go_enter Try.func53, Try.ntmps53
  go_wp2_with (first | (go_at_call 39; (with_reducible refine (CA.out _).mono ?_); rintro e w' ⟨rfl, rfl⟩) | (go_at_call 39; (with_reducible refine (CB.out _).mono ?_); rintro e w' ⟨rfl, rfl⟩) | (go_at_call 26; (with_reducible refine (CF.out _).mono ?_); rintro e w' ⟨rfl, rfl⟩) | (go_at_call 55; (with_reducible refine (way_plus _).mono ?_); rintro e w' ⟨rfl, rfl⟩) | (go_at_call 57; (with_reducible refine (WC.out _).mono ?_); rintro e w' ⟨rfl, rfl⟩))
  go_ret2
  exact ⟨rfl, rfl⟩

theorem reckon_less (a b f : Int) (w : World) (ga : wd a = true) (gb : wd b = true) (gf : fb f = true) : Calls Try.prog 53 #[.int .i64 1, .int .i64 a, .int .i64 b, .int .i64 f] w fun e w' => e = .returned (.tuple #[.int .i64 (tw (a - b)), .int .i64 (te (a - b))]) ∧ w = w' := by
  have WC := Lib.hid (fun W : World => wordless_any a b f W ga gb)
  have CA := fun W : World => check_any a W
  rw [ga] at CA
  have CA := Lib.hid CA
  have CB := fun W : World => check_any b W
  rw [gb] at CB
  have CB := Lib.hid CB
  have CF := fun W : World => checkf_any f W
  rw [gf] at CF
  have CF := Lib.hid CF
  clear ga gb gf
  go_enter Try.func53, Try.ntmps53
  go_wp2_with (first | (go_at_call 39; (with_reducible refine (CA.out _).mono ?_); rintro e w' ⟨rfl, rfl⟩) | (go_at_call 39; (with_reducible refine (CB.out _).mono ?_); rintro e w' ⟨rfl, rfl⟩) | (go_at_call 26; (with_reducible refine (CF.out _).mono ?_); rintro e w' ⟨rfl, rfl⟩) | (go_at_call 55; (with_reducible refine (way_less _).mono ?_); rintro e w' ⟨rfl, rfl⟩) | (go_at_call 58; (with_reducible refine (WC.out _).mono ?_); rintro e w' ⟨rfl, rfl⟩))
  go_ret2
  exact ⟨rfl, rfl⟩

theorem fxadd_form (a b : Int) (w : World) (h : (wd a && wd b) = false) : Calls Try.prog 47 #[.int .i64 a, .int .i64 b] w fun e w' => e = .returned (.tuple #[.int .i64 (0), .int .i64 (1)]) ∧ w = w' := by
  have C := Lib.hid (fun W : World => reckon_form 0 a b 8 W (by rw [h]; rfl))
  clear h
  go_enter Try.func47, Try.ntmps47
  go_wp2_with (go_at_call 53; (with_reducible refine (C.out _).mono ?_); rintro e w' ⟨rfl, rfl⟩)
  go_ret2
  exact ⟨rfl, rfl⟩
theorem fxadd_any (a b : Int) (w : World) (ga : wd a = true) (gb : wd b = true) : Calls Try.prog 47 #[.int .i64 a, .int .i64 b] w fun e w' => e = .returned (.tuple #[.int .i64 (tw (a + b)), .int .i64 (te (a + b))]) ∧ w = w' := by
  have C := fun W : World => reckon_plus a b 8 W ga gb rfl

  have C := Lib.hid C
  clear ga gb
  go_enter Try.func47, Try.ntmps47
  go_wp2_with (go_at_call 53; (with_reducible refine (C.out _).mono ?_); rintro e w' ⟨rfl, rfl⟩)
  go_ret2
  exact ⟨rfl, rfl⟩

theorem fxsub_form (a b : Int) (w : World) (h : (wd a && wd b) = false) : Calls Try.prog 48 #[.int .i64 a, .int .i64 b] w fun e w' => e = .returned (.tuple #[.int .i64 (0), .int .i64 (1)]) ∧ w = w' := by
  have C := Lib.hid (fun W : World => reckon_form 1 a b 8 W (by rw [h]; rfl))
  clear h
  go_enter Try.func48, Try.ntmps48
  go_wp2_with (go_at_call 53; (with_reducible refine (C.out _).mono ?_); rintro e w' ⟨rfl, rfl⟩)
  go_ret2
  exact ⟨rfl, rfl⟩
theorem fxsub_any (a b : Int) (w : World) (ga : wd a = true) (gb : wd b = true) : Calls Try.prog 48 #[.int .i64 a, .int .i64 b] w fun e w' => e = .returned (.tuple #[.int .i64 (tw (a - b)), .int .i64 (te (a - b))]) ∧ w = w' := by
  have C := fun W : World => reckon_less a b 8 W ga gb rfl

  have C := Lib.hid C
  clear ga gb
  go_enter Try.func48, Try.ntmps48
  go_wp2_with (go_at_call 53; (with_reducible refine (C.out _).mono ?_); rintro e w' ⟨rfl, rfl⟩)
  go_ret2
  exact ⟨rfl, rfl⟩

end Go.Proofs.Ytpfcjajmfadcbaa
namespace Go.Proofs.Ytpfcjajmfadcbaa
open Go.RowKit

/-- An element: two words (or not), fraction bits (or not), two numbers, a wide one, a count. -/
structure Fl where
  a : Int
  b : Int
  f : Int
  n : Int
  d : Int
  v : Int
  k : Int
def Fl.ok (e : Fl) : Prop := (-9223372036854775808 ≤ e.a ∧ e.a ≤ 9223372036854775807) ∧ (-9223372036854775808 ≤ e.b ∧ e.b ≤ 9223372036854775807) ∧ (-9223372036854775808 ≤ e.f ∧ e.f ≤ 9223372036854775807) ∧ (-9223372036854775808 ≤ e.n ∧ e.n ≤ 9223372036854775807) ∧ (-9223372036854775808 ≤ e.d ∧ e.d ≤ 9223372036854775807) ∧ R e.v ∧ (-9223372036854775808 ≤ e.k ∧ e.k ≤ 9223372036854775807)
/-- Its eight cells. -/
def FlAt (w : World) (b o : Nat) (e : Fl) : Prop :=
  w.cell? ⟨b, o, none⟩ = some (.int .i64 e.a) ∧ w.cell? ⟨b, o + 1, none⟩ = some (.int .i64 e.b) ∧ w.cell? ⟨b, o + 2, none⟩ = some (.int .i64 e.f) ∧ w.cell? ⟨b, o + 3, none⟩ = some (.int .i64 e.n) ∧ w.cell? ⟨b, o + 4, none⟩ = some (.int .i64 e.d) ∧ w.cell? ⟨b, o + 5, none⟩ = some (.int .i64 (hi e.v)) ∧ w.cell? ⟨b, o + 6, none⟩ = some (.int .u64 (lo e.v)) ∧ w.cell? ⟨b, o + 7, none⟩ = some (.int .i64 e.k)
theorem FlAt.below {w w' : World} {B b o : Nat} {e : Fl} (h : FlAt w b o e) (hb : Below B w w') (hB : b < B) : FlAt w' b o e := by
  obtain ⟨h1, h2, h3, h4, h5, h6, h7, h8⟩ := h
  exact ⟨(hb.cell (p := ⟨b, o, none⟩) hB).trans h1, (hb.cell (p := ⟨b, o + 1, none⟩) hB).trans h2, (hb.cell (p := ⟨b, o + 2, none⟩) hB).trans h3, (hb.cell (p := ⟨b, o + 3, none⟩) hB).trans h4, (hb.cell (p := ⟨b, o + 4, none⟩) hB).trans h5, (hb.cell (p := ⟨b, o + 5, none⟩) hB).trans h6, (hb.cell (p := ⟨b, o + 6, none⟩) hB).trans h7, (hb.cell (p := ⟨b, o + 7, none⟩) hB).trans h8⟩
end Go.Proofs.Ytpfcjajmfadcbaa
namespace Go.Proofs.Ytpfcjajmfadcbaa
open Go.RowKit

theorem may_any (v : Int) (w : World) : Calls Try.prog 33 #[.int .i64 v] w fun e w' => e = .returned (.bool (wd v)) ∧ w = w' := by
  cases g : wd v with
  | true =>
    obtain ⟨g1, g2⟩ := wd_bd g
    clear g
    go_enter Try.func33, Try.ntmps33
    go_wp2
    go_ret
    exact ⟨rfl, rfl⟩
  | false =>
    have h := wd_no g
    clear g
    by_cases g1 : v ≤ -140737488355328
    · clear h
      go_enter Try.func33, Try.ntmps33
      go_wp2
      go_ret
      exact ⟨rfl, rfl⟩
    · have g2 : ¬ v < 140737488355328 := by omega
      have g3 : -140737488355328 < v := by omega
      clear h g1
      go_enter Try.func33, Try.ntmps33
      go_wp2
      go_ret
      exact ⟨rfl, rfl⟩
end Go.Proofs.Ytpfcjajmfadcbaa
namespace Go.Proofs.Ytpfcjajmfadcbaa
open Go.RowKit

theorem R_pow {n : Nat} (h : n ≤ 126) : R (2 ^ n) := by
  have : (2 : Int) ^ n ≤ 2 ^ 126 := by have := Nat.pow_le_pow_right (show 0 < 2 by decide) h; exact_mod_cast this
  have : (0 : Int) < 2 ^ n := Int.pow_pos (by decide)
  rw [R_iff]
  omega
theorem R_prod {a b : Int} (a0 : -9223372036854775808 ≤ a) (a1 : a ≤ 9223372036854775807) (b0 : -9223372036854775808 ≤ b) (b1 : b ≤ 9223372036854775807) : R (a * b) := by
  have h : (a * b).natAbs ≤ 9223372036854775808 * 9223372036854775808 := by
    rw [Int.natAbs_mul]
    exact Nat.mul_le_mul (by omega) (by omega)
  generalize a * b = x at *
  rw [R_iff]
  omega
theorem pow_ne (n : Nat) : (2 : Int) ^ n ≠ 0 := by have : (0 : Int) < 2 ^ n := Int.pow_pos (by decide); omega
set_option maxRecDepth 100000 in
set_option maxHeartbeats 2000000 in
/-- fx.Close -/
theorem close_any (a : Int) (n : Nat) (w : World) (ha : R a) (h1 : n ≤ 126) : Calls Try.prog 62 #[Wv a, .int .i64 n] w fun e w' => e = .returned (.tuple #[.int .i64 (tw (rd a (2 ^ n))), .int .i64 (te (rd a (2 ^ n)))]) ∧ Below w.heap.size w w' := by
  have LC := fun W : World => shl_any 1 n W (by decide) h1
  have NC := Lib.hid (fun W : World => near_any a (2 ^ n) W ha (R_pow h1) (pow_ne n))
  rw [Int.one_mul, told_in (R_pow h1), over_in (R_pow h1)] at LC
  have LC := Lib.hid LC
  have F1 := Lib.hid (fun W : World => from_at 1 W (by decide) (by decide))
  clear ha h1
  generalize tw (rd a (2 ^ n)) = q at *
  generalize te (rd a (2 ^ n)) = g at *
  generalize (2 : Int) ^ n = t at *
  go_enter Try.func62, Try.ntmps62
  go_wp2_with (first | (go_at_call 66; (with_reducible refine (F1.out _).mono ?_); rintro e w' ⟨rfl, rfl⟩) | (go_at_call 65; (with_reducible refine (LC.out _).mono ?_); rintro e w1 ⟨rfl, hb1⟩; have e10 : w1.cell? ⟨w.heap.size, 0, none⟩ = some (.int .i64 (hi a)) := cell_on hb1 (by first | (simp [go_sem, *]; done) | (simp [go_sem, World.cell?_alloc_some, *]; done) | fail); have e11 : w1.cell? ⟨w.heap.size, 1, none⟩ = some (.int .u64 (lo a)) := cell_on hb1 (by first | (simp [go_sem, *]; done) | (simp [go_sem, World.cell?_alloc_some, *]; done) | fail); have s10 : w.heap.size < w1.heap.size := World.block_lt_of_cell? _ _ e10; have t10 : w.heap.size < w1.heap.size + 1 := Nat.lt_succ_of_lt s10) | (go_at_call 67; (with_reducible refine (NC.out _).mono ?_); rintro e w2 ⟨rfl, hb2⟩; have e20 : w2.cell? ⟨w.heap.size, 0, none⟩ = some (.int .i64 (hi a)) := cell_on hb2 (by first | (simp [go_sem, *]; done) | (simp [go_sem, World.cell?_alloc_some, *]; done) | fail); have e21 : w2.cell? ⟨w.heap.size, 1, none⟩ = some (.int .u64 (lo a)) := cell_on hb2 (by first | (simp [go_sem, *]; done) | (simp [go_sem, World.cell?_alloc_some, *]; done) | fail); have s20 : w.heap.size < w2.heap.size := World.block_lt_of_cell? _ _ e20; have t20 : w.heap.size < w2.heap.size + 1 := Nat.lt_succ_of_lt s20))
  go_ret2
  refine ⟨rfl, ?_⟩
  repeat (first | exact Below.refl _ _ | assumption | apply Below.drew | refine Below.setCell ?_ (by first | omega | (simp; done) | (simp; omega)) _ | refine Below.alloc ?_ (by first | omega | (simp; done) | (simp; omega)) _ | refine Below.trans ?_ (hb2.mono (by first | omega | (simp; done) | (simp; omega))) | refine Below.trans ?_ (hb1.mono (by first | omega | (simp; done) | (simp; omega))))
set_option maxRecDepth 100000 in
set_option maxHeartbeats 2000000 in
theorem close_form (a n : Int) (w : World) (h : n < 0 ∨ 126 < n) : Calls Try.prog 62 #[Wv a, .int .i64 n] w fun e w' => e = .returned (.tuple #[.int .i64 (0), .int .i64 (1)]) ∧ Below w.heap.size w w' := by
  have LC := Lib.hid (fun W : World => left_form 1 n W h)
  have F1 := Lib.hid (fun W : World => from_at 1 W (by decide) (by decide))
  clear h
  go_enter Try.func62, Try.ntmps62
  go_wp2_with (first | (go_at_call 66; (with_reducible refine (F1.out _).mono ?_); rintro e w' ⟨rfl, rfl⟩) | (go_at_call 65; (with_reducible refine (LC.out _).mono ?_); rintro e w1 ⟨rfl, hb1⟩; have e10 : w1.cell? ⟨w.heap.size, 0, none⟩ = some (.int .i64 (hi a)) := cell_on hb1 (by first | (simp [go_sem, *]; done) | (simp [go_sem, World.cell?_alloc_some, *]; done) | fail); have e11 : w1.cell? ⟨w.heap.size, 1, none⟩ = some (.int .u64 (lo a)) := cell_on hb1 (by first | (simp [go_sem, *]; done) | (simp [go_sem, World.cell?_alloc_some, *]; done) | fail); have s10 : w.heap.size < w1.heap.size := World.block_lt_of_cell? _ _ e10; have t10 : w.heap.size < w1.heap.size + 1 := Nat.lt_succ_of_lt s10))
  go_ret2
  refine ⟨rfl, ?_⟩
  repeat (first | exact Below.refl _ _ | assumption | apply Below.drew | refine Below.setCell ?_ (by first | omega | (simp; done) | (simp; omega)) _ | refine Below.alloc ?_ (by first | omega | (simp; done) | (simp; omega)) _ | refine Below.trans ?_ (hb1.mono (by first | omega | (simp; done) | (simp; omega))))
set_option maxRecDepth 100000 in
set_option maxHeartbeats 2000000 in
/-- fx.Ratio, where the bits are none -/
theorem ratio_form (n d f : Int) (w : World) (h : fb f = false) : Calls Try.prog 64 #[.int .i64 n, .int .i64 d, .int .i64 f] w fun e w' => e = .returned (.tuple #[.int .i64 (0), .int .i64 (1)]) ∧ Below w.heap.size w w' := by
  have C := fun W : World => checkf_any f W
  rw [h] at C
  have C := Lib.hid C
  clear h
  go_enter Try.func64, Try.ntmps64
  go_wp2_with (go_at_call 26; (with_reducible refine (C.out _).mono ?_); rintro e w' ⟨rfl, rfl⟩)
  go_ret2
  refine ⟨rfl, ?_⟩
  repeat (first | exact Below.refl _ _ | assumption | apply Below.drew | refine Below.setCell ?_ (by first | omega | (simp; done) | (simp; omega)) _ | refine Below.alloc ?_ (by first | omega | (simp; done) | (simp; omega)) _)
set_option maxRecDepth 100000 in
set_option maxHeartbeats 2000000 in
/-- fx.Ratio -/
theorem ratio_any (n d : Int) (f : Nat) (w : World) (n0 : -9223372036854775808 ≤ n) (n1 : n ≤ 9223372036854775807) (d0 : -9223372036854775808 ≤ d) (d1 : d ≤ 9223372036854775807) (h : fb f = true) (hd : d ≠ 0) : Calls Try.prog 64 #[.int .i64 n, .int .i64 d, .int .i64 f] w fun e w' => e = .returned (.tuple #[.int .i64 (tw (rd (n * 2 ^ f) d)), .int .i64 (te (rd (n * 2 ^ f) d))]) ∧ Below w.heap.size w w' := by
  have C := fun W : World => checkf_any f W
  rw [h] at C
  have C := Lib.hid C
  have hf := fb_bd h
  have p0 : (0 : Int) < 2 ^ f := Int.pow_pos (by decide)
  have p1 : (2 : Int) ^ f ≤ 2 ^ 32 := by have := Nat.pow_le_pow_right (show 0 < 2 by decide) (show f ≤ 32 by omega); exact_mod_cast this
  have e0 : wrap64 ((2 : Int) ^ f) = 2 ^ f := IntWalk.wrap64_in _ ⟨by omega, by omega⟩
  have MC := Lib.hid (fun W : World => mul_any n (2 ^ f) W n0 n1 (by omega) (by omega))
  have FC := Lib.hid (fun W : World => from_at d W d0 d1)
  have Rn : R (n * 2 ^ f) := R_prod n0 n1 (by omega) (by omega)
  have NC := Lib.hid (fun W : World => near_any (n * 2 ^ f) d W Rn (R_small d0 d1) hd)
  clear h hd Rn p0 p1
  generalize n * 2 ^ f = m at *
  generalize tw (rd m d) = q at *
  generalize te (rd m d) = g at *
  go_enter Try.func64, Try.ntmps64
  go_wp2_with (first | (go_at_call 26; (with_reducible refine (C.out _).mono ?_); rintro e w' ⟨rfl, rfl⟩) | (go_at_call 66; (with_reducible refine (FC.out _).mono ?_); rintro e w' ⟨rfl, rfl⟩) | (go_at_call 63; (with_reducible refine (MC.out _).mono ?_); rintro e w' ⟨rfl, rfl⟩) | (go_at_call 67; (with_reducible refine (NC.out _).mono ?_); rintro e w2 ⟨rfl, hb2⟩; ))
  go_ret2
  refine ⟨rfl, ?_⟩
  repeat (first | exact Below.refl _ _ | assumption | apply Below.drew | refine Below.setCell ?_ (by first | omega | (simp; done) | (simp; omega)) _ | refine Below.alloc ?_ (by first | omega | (simp; done) | (simp; omega)) _ | refine Below.trans ?_ (hb2.mono (by first | omega | (simp; done) | (simp; omega))))
set_option maxRecDepth 100000 in
set_option maxHeartbeats 2000000 in
theorem ratio_zero (n d : Int) (f : Nat) (w : World) (n0 : -9223372036854775808 ≤ n) (n1 : n ≤ 9223372036854775807) (h : fb f = true) (hd : d = 0) : Calls Try.prog 64 #[.int .i64 n, .int .i64 d, .int .i64 f] w fun e w' => e = .returned (.tuple #[.int .i64 (0), .int .i64 (4)]) ∧ Below w.heap.size w w' := by
  have C := fun W : World => checkf_any f W
  rw [h] at C
  have C := Lib.hid C
  have hf := fb_bd h
  have p0 : (0 : Int) < 2 ^ f := Int.pow_pos (by decide)
  have p1 : (2 : Int) ^ f ≤ 2 ^ 32 := by have := Nat.pow_le_pow_right (show 0 < 2 by decide) (show f ≤ 32 by omega); exact_mod_cast this
  have e0 : wrap64 ((2 : Int) ^ f) = 2 ^ f := IntWalk.wrap64_in _ ⟨by omega, by omega⟩
  have MC := Lib.hid (fun W : World => mul_any n (2 ^ f) W n0 n1 (by omega) (by omega))
  have FC := Lib.hid (fun W : World => from_at d W (by omega) (by omega))
  have NC := Lib.hid (fun W : World => near_zero (n * 2 ^ f) d W hd)
  clear h hd p0 p1
  generalize n * 2 ^ f = m at *
  go_enter Try.func64, Try.ntmps64
  go_wp2_with (first | (go_at_call 26; (with_reducible refine (C.out _).mono ?_); rintro e w' ⟨rfl, rfl⟩) | (go_at_call 66; (with_reducible refine (FC.out _).mono ?_); rintro e w' ⟨rfl, rfl⟩) | (go_at_call 63; (with_reducible refine (MC.out _).mono ?_); rintro e w' ⟨rfl, rfl⟩) | (go_at_call 67; (with_reducible refine (NC.out _).mono ?_); rintro e w2 ⟨rfl, hb2⟩; ))
  go_ret2
  refine ⟨rfl, ?_⟩
  repeat (first | exact Below.refl _ _ | assumption | apply Below.drew | refine Below.setCell ?_ (by first | omega | (simp; done) | (simp; omega)) _ | refine Below.alloc ?_ (by first | omega | (simp; done) | (simp; omega)) _ | refine Below.trans ?_ (hb2.mono (by first | omega | (simp; done) | (simp; omega))))
set_option maxRecDepth 100000 in
theorem wordtimes_any (a b : Int) (f : Nat) (w : World) (ga : wd a = true) (gb : wd b = true) (gf : fb f = true) : Calls Try.prog 59 #[.int .i64 a, .int .i64 b, .int .i64 f] w fun e w' => e = .returned (.tuple #[.int .i64 (tw (rd (a * b) (2 ^ f))), .int .i64 (te (rd (a * b) (2 ^ f)))]) ∧ Below w.heap.size w w' := by
  have A := wd_bd ga
  have B := wd_bd gb
  have Fb := fb_bd gf
  have MC := Lib.hid (fun W : World => mul_any a b W (by omega) (by omega) (by omega) (by omega))
  have CC := Lib.hid (fun W : World => close_any (a * b) f W (R_prod (by omega) (by omega) (by omega) (by omega)) (by omega))
  clear A B Fb ga gb gf
  generalize tw (rd (a * b) (2 ^ f)) = q at *
  generalize te (rd (a * b) (2 ^ f)) = g at *
  generalize a * b = m at *
  go_enter Try.func59, Try.ntmps59
  go_wp2_with (first | (go_at_call 63; (with_reducible refine (MC.out _).mono ?_); rintro e w' ⟨rfl, rfl⟩) | (go_at_call 62; (with_reducible refine (CC.out _).mono ?_); rintro e w1 ⟨rfl, hb1⟩))
  go_ret2
  refine ⟨rfl, ?_⟩
  repeat (first | exact Below.refl _ _ | assumption | apply Below.drew | refine Below.setCell ?_ (by first | omega | (simp; done) | (simp; omega)) _ | refine Below.alloc ?_ (by first | omega | (simp; done) | (simp; omega)) _ | refine Below.trans ?_ (hb1.mono (by first | omega | (simp; done) | (simp; omega))))
theorem wordover_any (a b : Int) (f : Nat) (w : World) (ga : wd a = true) (gb : wd b = true) (gf : fb f = true) (h0 : b ≠ 0) : Calls Try.prog 60 #[.int .i64 a, .int .i64 b, .int .i64 f] w fun e w' => e = .returned (.tuple #[.int .i64 (tw (rd (a * 2 ^ f) b)), .int .i64 (te (rd (a * 2 ^ f) b))]) ∧ Below w.heap.size w w' := by
  have A := wd_bd ga
  have B := wd_bd gb
  have RC := Lib.hid (fun W : World => ratio_any a b f W (by omega) (by omega) (by omega) (by omega) gf h0)
  clear A B ga gb gf h0
  generalize tw (rd (a * 2 ^ f) b) = q at *
  generalize te (rd (a * 2 ^ f) b) = g at *
  go_enter Try.func60, Try.ntmps60
  go_wp2_with (go_at_call 64; (with_reducible refine (RC.out _).mono ?_); rintro e w1 ⟨rfl, hb1⟩)
  go_ret2
  refine ⟨rfl, ?_⟩
  repeat (first | exact Below.refl _ _ | assumption | apply Below.drew | refine Below.setCell ?_ (by first | omega | (simp; done) | (simp; omega)) _ | refine Below.alloc ?_ (by first | omega | (simp; done) | (simp; omega)) _ | refine Below.trans ?_ (hb1.mono (by first | omega | (simp; done) | (simp; omega))))
theorem wordover_zero (a b : Int) (f : Nat) (w : World) (ga : wd a = true) (gf : fb f = true) (h0 : b = 0) : Calls Try.prog 60 #[.int .i64 a, .int .i64 b, .int .i64 f] w fun e w' => e = .returned (.tuple #[.int .i64 (0), .int .i64 (4)]) ∧ Below w.heap.size w w' := by
  have A := wd_bd ga
  have RC := Lib.hid (fun W : World => ratio_zero a b f W (by omega) (by omega) gf h0)
  clear A ga gf h0
  go_enter Try.func60, Try.ntmps60
  go_wp2_with (go_at_call 64; (with_reducible refine (RC.out _).mono ?_); rintro e w1 ⟨rfl, hb1⟩)
  go_ret2
  refine ⟨rfl, ?_⟩
  repeat (first | exact Below.refl _ _ | assumption | apply Below.drew | refine Below.setCell ?_ (by first | omega | (simp; done) | (simp; omega)) _ | refine Below.alloc ?_ (by first | omega | (simp; done) | (simp; omega)) _ | refine Below.trans ?_ (hb1.mono (by first | omega | (simp; done) | (simp; omega))))
theorem reckon_times (a b : Int) (f : Nat) (w : World) (ga : wd a = true) (gb : wd b = true) (gf : fb f = true) : Calls Try.prog 53 #[.int .i64 2, .int .i64 a, .int .i64 b, .int .i64 f] w fun e w' => e = .returned (.tuple #[.int .i64 (tw (rd (a * b) (2 ^ f))), .int .i64 (te (rd (a * b) (2 ^ f)))]) ∧ Below w.heap.size w w' := by
  have WC := Lib.hid (fun W : World => wordtimes_any a b f W ga gb gf)
  have CA := fun W : World => check_any a W
  rw [ga] at CA
  have CA := Lib.hid CA
  have CB := fun W : World => check_any b W
  rw [gb] at CB
  have CB := Lib.hid CB
  have CF := fun W : World => checkf_any f W
  rw [gf] at CF
  have CF := Lib.hid CF
  clear ga gb gf
  generalize tw (rd (a * b) (2 ^ f)) = q at *
  generalize te (rd (a * b) (2 ^ f)) = g at *
  go_enter Try.func53, Try.ntmps53
  go_wp2_with (first | (go_at_call 39; (with_reducible refine (CA.out _).mono ?_); rintro e w' ⟨rfl, rfl⟩) | (go_at_call 39; (with_reducible refine (CB.out _).mono ?_); rintro e w' ⟨rfl, rfl⟩) | (go_at_call 26; (with_reducible refine (CF.out _).mono ?_); rintro e w' ⟨rfl, rfl⟩) | (go_at_call 55; (with_reducible refine (way_times _).mono ?_); rintro e w' ⟨rfl, rfl⟩) | (go_at_call 59; (with_reducible refine (WC.out _).mono ?_); rintro e w1 ⟨rfl, hb1⟩))
  go_ret2
  refine ⟨rfl, ?_⟩
  repeat (first | exact Below.refl _ _ | assumption | apply Below.drew | refine Below.setCell ?_ (by first | omega | (simp; done) | (simp; omega)) _ | refine Below.alloc ?_ (by first | omega | (simp; done) | (simp; omega)) _ | refine Below.trans ?_ (hb1.mono (by first | omega | (simp; done) | (simp; omega))))
theorem reckon_over (a b : Int) (f : Nat) (w : World) (ga : wd a = true) (gb : wd b = true) (gf : fb f = true) (h0 : b ≠ 0) : Calls Try.prog 53 #[.int .i64 3, .int .i64 a, .int .i64 b, .int .i64 f] w fun e w' => e = .returned (.tuple #[.int .i64 (tw (rd (a * 2 ^ f) b)), .int .i64 (te (rd (a * 2 ^ f) b))]) ∧ Below w.heap.size w w' := by
  have WC := Lib.hid (fun W : World => wordover_any a b f W ga gb gf h0)
  have CA := fun W : World => check_any a W
  rw [ga] at CA
  have CA := Lib.hid CA
  have CB := fun W : World => check_any b W
  rw [gb] at CB
  have CB := Lib.hid CB
  have CF := fun W : World => checkf_any f W
  rw [gf] at CF
  have CF := Lib.hid CF
  clear ga gb gf h0
  generalize tw (rd (a * 2 ^ f) b) = q at *
  generalize te (rd (a * 2 ^ f) b) = g at *
  go_enter Try.func53, Try.ntmps53
  go_wp2_with (first | (go_at_call 39; (with_reducible refine (CA.out _).mono ?_); rintro e w' ⟨rfl, rfl⟩) | (go_at_call 39; (with_reducible refine (CB.out _).mono ?_); rintro e w' ⟨rfl, rfl⟩) | (go_at_call 26; (with_reducible refine (CF.out _).mono ?_); rintro e w' ⟨rfl, rfl⟩) | (go_at_call 55; (with_reducible refine (way_over _).mono ?_); rintro e w' ⟨rfl, rfl⟩) | (go_at_call 60; (with_reducible refine (WC.out _).mono ?_); rintro e w1 ⟨rfl, hb1⟩))
  go_ret2
  refine ⟨rfl, ?_⟩
  repeat (first | exact Below.refl _ _ | assumption | apply Below.drew | refine Below.setCell ?_ (by first | omega | (simp; done) | (simp; omega)) _ | refine Below.alloc ?_ (by first | omega | (simp; done) | (simp; omega)) _ | refine Below.trans ?_ (hb1.mono (by first | omega | (simp; done) | (simp; omega))))
theorem reckon_zero (a b : Int) (f : Nat) (w : World) (ga : wd a = true) (gb : wd b = true) (gf : fb f = true) (h0 : b = 0) : Calls Try.prog 53 #[.int .i64 3, .int .i64 a, .int .i64 b, .int .i64 f] w fun e w' => e = .returned (.tuple #[.int .i64 (0), .int .i64 (4)]) ∧ Below w.heap.size w w' := by
  have WC := Lib.hid (fun W : World => wordover_zero a b f W ga gf h0)
  have CA := fun W : World => check_any a W
  rw [ga] at CA
  have CA := Lib.hid CA
  have CB := fun W : World => check_any b W
  rw [gb] at CB
  have CB := Lib.hid CB
  have CF := fun W : World => checkf_any f W
  rw [gf] at CF
  have CF := Lib.hid CF
  clear ga gb gf h0
  go_enter Try.func53, Try.ntmps53
  go_wp2_with (first | (go_at_call 39; (with_reducible refine (CA.out _).mono ?_); rintro e w' ⟨rfl, rfl⟩) | (go_at_call 39; (with_reducible refine (CB.out _).mono ?_); rintro e w' ⟨rfl, rfl⟩) | (go_at_call 26; (with_reducible refine (CF.out _).mono ?_); rintro e w' ⟨rfl, rfl⟩) | (go_at_call 55; (with_reducible refine (way_over _).mono ?_); rintro e w' ⟨rfl, rfl⟩) | (go_at_call 60; (with_reducible refine (WC.out _).mono ?_); rintro e w1 ⟨rfl, hb1⟩))
  go_ret2
  refine ⟨rfl, ?_⟩
  repeat (first | exact Below.refl _ _ | assumption | apply Below.drew | refine Below.setCell ?_ (by first | omega | (simp; done) | (simp; omega)) _ | refine Below.alloc ?_ (by first | omega | (simp; done) | (simp; omega)) _ | refine Below.trans ?_ (hb1.mono (by first | omega | (simp; done) | (simp; omega))))
theorem fxmul_form (a b f : Int) (w : World) (h : (wd a && wd b && fb f) = false) : Calls Try.prog 49 #[.int .i64 a, .int .i64 b, .int .i64 f] w fun e w' => e = .returned (.tuple #[.int .i64 0, .int .i64 1]) ∧ w = w' := by
  have C := Lib.hid (fun W : World => reckon_form 2 a b f W h)
  clear h
  go_enter Try.func49, Try.ntmps49
  go_wp2_with (go_at_call 53; (with_reducible refine (C.out _).mono ?_); rintro e w' ⟨rfl, rfl⟩)
  go_ret2
  exact ⟨rfl, rfl⟩
theorem fxdiv_form (a b f : Int) (w : World) (h : (wd a && wd b && fb f) = false) : Calls Try.prog 50 #[.int .i64 a, .int .i64 b, .int .i64 f] w fun e w' => e = .returned (.tuple #[.int .i64 0, .int .i64 1]) ∧ w = w' := by
  have C := Lib.hid (fun W : World => reckon_form 3 a b f W h)
  clear h
  go_enter Try.func50, Try.ntmps50
  go_wp2_with (go_at_call 53; (with_reducible refine (C.out _).mono ?_); rintro e w' ⟨rfl, rfl⟩)
  go_ret2
  exact ⟨rfl, rfl⟩
theorem fxmul_any (a b : Int) (f : Nat) (w : World) (ga : wd a = true) (gb : wd b = true) (gf : fb f = true) : Calls Try.prog 49 #[.int .i64 a, .int .i64 b, .int .i64 f] w fun e w' => e = .returned (.tuple #[.int .i64 (tw (rd (a * b) (2 ^ f))), .int .i64 (te (rd (a * b) (2 ^ f)))]) ∧ Below w.heap.size w w' := by
  have C := Lib.hid (fun W : World => reckon_times a b f W ga gb gf)
  clear ga gb gf
  generalize tw (rd (a * b) (2 ^ f)) = q at *
  generalize te (rd (a * b) (2 ^ f)) = g at *
  go_enter Try.func49, Try.ntmps49
  go_wp2_with (go_at_call 53; (with_reducible refine (C.out _).mono ?_); rintro e w1 ⟨rfl, hb1⟩)
  go_ret2
  refine ⟨rfl, ?_⟩
  repeat (first | exact Below.refl _ _ | assumption | apply Below.drew | refine Below.setCell ?_ (by first | omega | (simp; done) | (simp; omega)) _ | refine Below.alloc ?_ (by first | omega | (simp; done) | (simp; omega)) _ | refine Below.trans ?_ (hb1.mono (by first | omega | (simp; done) | (simp; omega))))
theorem fxdiv_any (a b : Int) (f : Nat) (w : World) (ga : wd a = true) (gb : wd b = true) (gf : fb f = true) (h0 : b ≠ 0) : Calls Try.prog 50 #[.int .i64 a, .int .i64 b, .int .i64 f] w fun e w' => e = .returned (.tuple #[.int .i64 (tw (rd (a * 2 ^ f) b)), .int .i64 (te (rd (a * 2 ^ f) b))]) ∧ Below w.heap.size w w' := by
  have C := Lib.hid (fun W : World => reckon_over a b f W ga gb gf h0)
  clear ga gb gf h0
  generalize tw (rd (a * 2 ^ f) b) = q at *
  generalize te (rd (a * 2 ^ f) b) = g at *
  go_enter Try.func50, Try.ntmps50
  go_wp2_with (go_at_call 53; (with_reducible refine (C.out _).mono ?_); rintro e w1 ⟨rfl, hb1⟩)
  go_ret2
  refine ⟨rfl, ?_⟩
  repeat (first | exact Below.refl _ _ | assumption | apply Below.drew | refine Below.setCell ?_ (by first | omega | (simp; done) | (simp; omega)) _ | refine Below.alloc ?_ (by first | omega | (simp; done) | (simp; omega)) _ | refine Below.trans ?_ (hb1.mono (by first | omega | (simp; done) | (simp; omega))))
theorem fxdiv_zero (a b : Int) (f : Nat) (w : World) (ga : wd a = true) (gb : wd b = true) (gf : fb f = true) (h0 : b = 0) : Calls Try.prog 50 #[.int .i64 a, .int .i64 b, .int .i64 f] w fun e w' => e = .returned (.tuple #[.int .i64 (0), .int .i64 (4)]) ∧ Below w.heap.size w w' := by
  have C := Lib.hid (fun W : World => reckon_zero a b f W ga gb gf h0)
  clear ga gb gf h0
  go_enter Try.func50, Try.ntmps50
  go_wp2_with (go_at_call 53; (with_reducible refine (C.out _).mono ?_); rintro e w1 ⟨rfl, hb1⟩)
  go_ret2
  refine ⟨rfl, ?_⟩
  repeat (first | exact Below.refl _ _ | assumption | apply Below.drew | refine Below.setCell ?_ (by first | omega | (simp; done) | (simp; omega)) _ | refine Below.alloc ?_ (by first | omega | (simp; done) | (simp; omega)) _ | refine Below.trans ?_ (hb1.mono (by first | omega | (simp; done) | (simp; omega))))
theorem rd384 : rd (384 * 384) (2 ^ 8) = 576 := by decide
end Go.Proofs.Ytpfcjajmfadcbaa
namespace Go.Proofs.Ytpfcjajmfadcbaa
open Go Go.RowKit Go.Shelf

theorem ov_spr {a b : List Int} {j : Nat} (h1 : 1 ≤ j) (h2 : j ≤ mx a b) : ov (spr a b) j = gr (ov a j) (ov b j) := by
  have hl : (spr a b).length = mx a b := spl_len a b _
  unfold ov
  rw [hl, if_neg (by omega)]
  have g := spl_getD a b (mx a b) (mx a b - j) (by omega)
  rw [show mx a b - (mx a b - j) = j by omega] at g
  show (spl a b (mx a b)).getD _ 0 = _
  rw [g]
  rfl
/-- What spreads goes under what it is spread to. -/
theorem goes_spv {a b : List Int} (ha : may a = true) (h : spe a b = 0) : may (spv a b) = true ∧ goes a (spv a b) = true := by
  obtain ⟨f, m⟩ := spe_fit h
  have e : spv a b = spr a b := if_pos h
  rw [e]
  refine ⟨m, ?_⟩
  have hl : (spr a b).length = mx a b := spl_len a b _
  rw [goes_is ha m, hl]
  simp only [Bool.and_eq_true, decide_eq_true_eq, gN_iff]
  refine ⟨by unfold mx; omega, fun j h1 h2 => ?_⟩
  rw [ov_spr h1 h2]
  have := (fa_iff a b j).1 ((fitN_iff _ _ _).1 f j h1 h2)
  unfold gr
  split <;> omega
/-- The word under the n-th index. -/
def txa (sa da s : List Int) (n : Nat) : Int := da.getD (und sa (atl s (n : Nat))).toNat 0
theorem tnb_parts {sh ds : List Int} (h : tnb sh ds = true) : may sh = true ∧ (ds.length : Int) = prod sh ∧ wds ds = true := by
  unfold tnb at h
  simp only [Bool.and_eq_true, decide_eq_true_eq] at h
  exact ⟨h.1.1, h.1.2, h.2⟩
theorem und_in {sa s da : List Int} {n N : Nat} (ta : tnb sa da = true) (ms : may s = true) (g : goes sa s = true) (hN : (N : Int) = prod s) (hn : n < N) : inx s (atl s (n : Nat)) = true ∧ 0 ≤ und sa (atl s (n : Nat)) ∧ und sa (atl s (n : Nat)) < da.length := by
  obtain ⟨ma, hl, _⟩ := tnb_parts ta
  have hi := atl_inx s (n : Nat) (may_pos ms) (by omega) (by omega)
  have hb := ix_bd (under_inx ma ms g hi)
  refine ⟨hi, ?_⟩
  unfold und
  omega
theorem txa_wd {sa s da : List Int} {n N : Nat} (ta : tnb sa da = true) (ms : may s = true) (g : goes sa s = true) (hN : (N : Int) = prod s) (hn : n < N) : wd (txa sa da s n) = true := by
  obtain ⟨_, h0, h1⟩ := und_in ta ms g hN hn
  exact wds_wd (tnb_parts ta).2.2 (by omega)
/-- Two's answers: its error. -/
def twe (ef : Int → Int → Int) (sa da sb db : List Int) : Int := if spe sa sb = 0 then fer (fun n => ef (txa sa da (spv sa sb) n) (txa sb db (spv sa sb) n)) (prod (spv sa sb)).toNat else spe sa sb
/-- Its words. -/
def twv (vf : Int → Int → Int) (sa da sb db : List Int) : List Int := vls (fun n => vf (txa sa da (spv sa sb) n) (txa sb db (spv sa sb) n)) (prod (spv sa sb)).toNat
theorem own_two {X : World} {b base n : Nat} {e : TypeId} {v : Value} {xs : List Value} {cs : Array Value} (hO : X.ownsRow base e 1 v n xs) (hb : Blk X b 26 cs) (hne : e ≠ 26) (u1 u2 : Value) :
    ((X.setCell ⟨b, 0, none⟩ u1).setCell ⟨b, 1, none⟩ u2).ownsRow base e 1 v n xs := by
  have h1 := hO.kept (grown_set X ⟨b, 0, none⟩ u1) (.inr (tens_not_row hO hb hne))
  exact h1.kept (grown_set _ ⟨b, 1, none⟩ u2) (.inr (tens_not_row h1 (hb.set_ 0 u1) hne))

set_option maxRecDepth 100000 in
set_option maxHeartbeats 8000000 in
theorem two_gen (WF : FuncId) (op f : Int) (i0 : Nat) (vf ef : Int → Int → Int) (va vda vb vdb : Value) (sa da sb db : List Int) (w : World) (ha : Ld w va sa) (hda : Ld w vda da) (hb : Ld w vb sb) (hdb : Ld w vdb db) (ta : tnb sa da = true) (tb : tnb sb db = true) (hf : fb f = true)
    (LK : Instr.findNow (.int .i64) (.int .i64 op) tbl2.toList 0 = some (some (i0, .func (.func WF) #[] #[])))
    (eW : ∀ args (W : World), (callFunc WF args).run Try.prog W = .ok (.enter WF args) W)
    (HF : ∀ (a b : Int) (W : World), wd a = true → wd b = true → Calls Try.prog WF #[.agg #[.int .i64 a, .int .i64 b, .int .i64 f]] W fun e w' => e = .returned (.tuple #[.int .i64 (vf a b), .int .i64 (ef a b)]) ∧ Below W.heap.size W w') :
    Calls Try.prog 12 #[.int .i64 op, .agg #[va, vda], .agg #[vb, vdb], .int .i64 f] w (SomeT w (twe ef sa da sb db) (unl (twe ef sa da sb db) (spv sa sb)) (unl (twe ef sa da sb db) (twv vf sa da sb db))) := by
  have ma := (tnb_parts ta).1
  have mb := (tnb_parts tb).1
  have la := may_len ma
  have lb := may_len mb
  have lda := (tnb_parts ta).2.1
  have ldb := (tnb_parts tb).2.1
  have pa := may_prod ma
  have pb := may_prod mb
  obtain ⟨w4, hw4⟩ : ∃ w4, w4 = (((w.alloc (.cells #[va, vda] 26)).alloc (.cells #[vb, vdb] 26)).alloc (.cells #[.int .i64 f] 3)).alloc (.cells #[.slice none 0 0, .slice none 0 0] 26) := ⟨_, rfl⟩
  have hsz : w4.heap.size = w.heap.size + 4 := by rw [hw4]; simp
  have B4 : Below w.heap.size w w4 := by rw [hw4]; exact ((((Below.refl _ _).alloc (Nat.le_refl _) _).alloc (by simp) _).alloc (by simp; omega) _).alloc (by simp; omega) _
  have K0 : Hid (Blk w4 w.heap.size 26 #[va, vda]) := by rw [hw4]; exact (((Blk.new w _ _).alloc _).alloc _).alloc _
  have K1 : Hid (Blk w4 (w.heap.size + 1) 26 #[vb, vdb]) := by rw [hw4]; exact ((blk_new1 w _ _ _).alloc _).alloc _
  have K2 : Hid (Blk w4 (w.heap.size + 2) 3 #[.int .i64 f]) := by
    rw [hw4]
    have q := Blk.new ((w.alloc (.cells #[va, vda] 26)).alloc (.cells #[vb, vdb] 26)) 3 #[.int .i64 f]
    rw [World.size_alloc, World.size_alloc] at q
    exact q.alloc _
  have K3 : Hid (Blk w4 (w.heap.size + 3) 26 #[.slice none 0 0, .slice none 0 0]) := by
    rw [hw4]
    have q := Blk.new (((w.alloc (.cells #[va, vda] 26)).alloc (.cells #[vb, vdb] 26)).alloc (.cells #[.int .i64 f] 3)) 26 #[.slice none 0 0, .slice none 0 0]
    rwa [World.size_alloc, World.size_alloc, World.size_alloc] at q
  have KT := Lib.hid (oftwo_any w4)
  rw [hsz] at KT
  have KCA : Hid (∀ W, Below w.heap.size w W → Calls Try.prog 25 #[.agg #[va, vda]] W fun e w' => e = .returned (.int .i64 0) ∧ Below W.heap.size W w') := Lib.hid (fun W hW => by have := echeck_any va vda sa da W (ha.below hW) (hda.below hW) (by omega) (by omega); rwa [ta, if_pos rfl] at this)
  have KCB : Hid (∀ W, Below w.heap.size w W → Calls Try.prog 25 #[.agg #[vb, vdb]] W fun e w' => e = .returned (.int .i64 0) ∧ Below W.heap.size W w') := Lib.hid (fun W hW => by have := echeck_any vb vdb sb db W (hb.below hW) (hdb.below hW) (by omega) (by omega); rwa [tb, if_pos rfl] at this)
  have KF := fun W => checkf_any f W
  rw [hf, if_pos rfl] at KF
  have KF := Lib.hid KF
  have KS : Hid (∀ W, Below w.heap.size w W → Calls Try.prog 27 #[va, vb] W (SomeL W (spe sa sb) (spv sa sb))) := Lib.hid (fun W hW => spread_any va vb sa sb W (ha.below hW) (hb.below hW) ma mb)
  have HLD := Lib.hid (And.intro ha (And.intro hda (And.intro hb hdb)))
  have HTA := Lib.hid (And.intro ta (And.intro tb (And.intro ma mb)))
  have LKH := Lib.hid LK
  have EFW := Lib.hid (And.intro eW HF)
  have HW := Lib.hid hw4
  clear ha hda hb hdb ta tb ma mb LK eW HF pa pb lda ldb hf
  obtain ⟨k0, k1, _⟩ := blk2 K0.out
  obtain ⟨k2, k3, _⟩ := blk2 K1.out
  rw [hw4] at KT
  clear hw4 k0 k1 k2 k3
  go_enter Try.func12, Try.ntmps12
  go_upto_region 4 with (first
    | (go_at_call 24; (with_reducible refine KT.out.mono ?_); rintro e w5 ⟨rfl, hm5, hb5⟩; rw [← HW.out] at hb5; have lk := run_look (P := Try.prog) (t := 57) (kt := 3) (e := 55) op (.func (.func WF) #[] #[]) (by kernel_rfl) (by kernel_rfl) hm5 LKH.out; have s5 : w.heap.size + 4 ≤ w5.heap.size := Nat.le_trans (Nat.le_of_eq hsz.symm) (by have := hb5.size; omega); have b5 := Lib.hid (B4.trans (hb5.mono (by omega))); replace K0 := Lib.hid (K0.out.below hb5 (by omega)); replace K1 := Lib.hid (K1.out.below hb5 (by omega)); replace K2 := Lib.hid (K2.out.below hb5 (by omega)); replace K3 := Lib.hid (K3.out.below hb5 (by omega)); obtain ⟨c0, c1, _⟩ := blk2 K0.out; obtain ⟨c2, c3, _⟩ := blk2 K1.out; have c4 := K2.out.cell 0; clear hb5 hm5)
    | (go_at_call 25; (with_reducible refine (KCA.out _ b5.out).mono ?_); rintro e w6 ⟨rfl, hb6⟩; have b6 := Lib.hid (b5.out.trans (hb6.mono b5.out.size)); have s6 : w.heap.size + 4 ≤ w6.heap.size := Nat.le_trans s5 hb6.size; replace K0 := Lib.hid (K0.out.below hb6 K0.out.lt); replace K1 := Lib.hid (K1.out.below hb6 K1.out.lt); replace K2 := Lib.hid (K2.out.below hb6 K2.out.lt); replace K3 := Lib.hid (K3.out.below hb6 K3.out.lt); obtain ⟨c0, c1, _⟩ := blk2 K0.out; obtain ⟨c2, c3, _⟩ := blk2 K1.out; have c4 := K2.out.cell 0; clear hb6)
    | (go_at_call 25; (with_reducible refine (KCB.out _ b6.out).mono ?_); rintro e w7 ⟨rfl, hb7⟩; have b7 := Lib.hid (b6.out.trans (hb7.mono b6.out.size)); have s7 : w.heap.size + 4 ≤ w7.heap.size := Nat.le_trans s6 hb7.size; replace K0 := Lib.hid (K0.out.below hb7 K0.out.lt); replace K1 := Lib.hid (K1.out.below hb7 K1.out.lt); replace K2 := Lib.hid (K2.out.below hb7 K2.out.lt); replace K3 := Lib.hid (K3.out.below hb7 K3.out.lt); obtain ⟨c0, c1, _⟩ := blk2 K0.out; obtain ⟨c2, c3, _⟩ := blk2 K1.out; have c4 := K2.out.cell 0; clear hb7)
    | (go_at_call 26; (with_reducible refine (KF.out _).mono ?_); rintro e w' ⟨rfl, rfl⟩))
  by_cases hsp : spe sa sb = 0
  · obtain ⟨ms, ga⟩ := goes_spv HTA.out.2.2.1 hsp
    have gb : goes sb (spv sa sb) = true := by rw [spv_sym]; exact (goes_spv HTA.out.2.2.2 (by rw [spe_sym]; exact hsp)).2
    have E1 : Hid (twe ef sa da sb db = fer (fun n => ef (txa sa da (spv sa sb) n) (txa sb db (spv sa sb) n)) (prod (spv sa sb)).toNat) := Lib.hid (if_pos hsp)
    have E2 : Hid (twv vf sa da sb db = vls (fun n => vf (txa sa da (spv sa sb) n) (txa sb db (spv sa sb) n)) (prod (spv sa sb)).toNat) := Lib.hid rfl
    have ps := may_prod ms
    obtain ⟨N, hN⟩ : ∃ N : Nat, (N : Int) = prod (spv sa sb) := ⟨(prod (spv sa sb)).toNat, by omega⟩
    rw [show (prod (spv sa sb)).toNat = N by omega] at E1 E2
    rw [hsp] at KS
    have HG := Lib.hid (And.intro ms (And.intro ga (And.intro gb hN)))
    rw [E1.out, E2.out]
    generalize hS9 : spv sa sb = s at *
    replace hS9 := Lib.hid hS9
    clear ms ga gb hN ps hsp
    go_upto_region 7 with (go_at_call 27; (with_reducible refine (KS.out _ b7.out).mono ?_); rintro e w8 ⟨v8, rfl, hv8, hb8⟩; obtain ⟨o8, c8, rfl, _, _⟩ := id hv8; have b8 := Lib.hid (b7.out.trans (hb8.mono b7.out.size)); have s8 : w.heap.size + 4 ≤ w8.heap.size := Nat.le_trans s7 hb8.size; have L8 := Lib.hid hv8; replace K0 := Lib.hid (K0.out.below hb8 K0.out.lt); replace K1 := Lib.hid (K1.out.below hb8 K1.out.lt); replace K2 := Lib.hid (K2.out.below hb8 K2.out.lt); replace K3 := Lib.hid (K3.out.below hb8 K3.out.lt); clear hb8 hv8)
    have BA := Lib.hid ((Below.refl w8.heap.size w8).alloc (Nat.le_refl _) (.cells #[.slice o8 s.length c8] 23))
    have KV8 := Lib.hid (Blk.new w8 23 #[.slice o8 s.length c8])
    have L9 := Lib.hid (L8.out.below BA.out)
    obtain ⟨w9, hw9⟩ : ∃ w9, w9 = w8.alloc (.cells #[.slice o8 s.length c8] 23) := ⟨_, rfl⟩
    rw [← hw9] at BA KV8 L9
    rw [← hw9]
    clear hw9
    have b9 := Lib.hid (b8.out.trans (BA.out.mono b8.out.size))
    have J0 := Lib.hid (K0.out.below BA.out K0.out.lt)
    have J1 := Lib.hid (K1.out.below BA.out K1.out.lt)
    have J2 := Lib.hid (K2.out.below BA.out K2.out.lt)
    have J3 := Lib.hid (K3.out.below BA.out K3.out.lt)
    have s9 : w.heap.size + 4 ≤ w9.heap.size := Nat.le_trans s8 BA.out.size
    have KE := Lib.hid (each_any 29 WF #[.pointer (some ⟨w.heap.size, 0, none⟩), .pointer (some ⟨w8.heap.size, 0, none⟩), .pointer (some ⟨w.heap.size + 1, 0, none⟩), .pointer (some ⟨w.heap.size + 1 + 1, 0, none⟩)]
      (fun n => .agg #[.int .i64 (txa sa da s n), .int .i64 (txa sb db s n), .int .i64 f]) (fun n => vf (txa sa da s n) (txa sb db s n)) (fun n => ef (txa sa da s n) (txa sb db s n)) (.slice o8 s.length c8) s N w9 L9.out HG.out.1 HG.out.2.2.2
      (enters_of Try.func29 (by kernel_rfl) rfl) EFW.out.1
      (fun n W vi hn hW hi => by
        obtain ⟨hx, ka⟩ := und_in HTA.out.1 HG.out.1 HG.out.2.1 HG.out.2.2.2 hn
        obtain ⟨_, kb⟩ := und_in HTA.out.2.1 HG.out.1 HG.out.2.2.1 HG.out.2.2.2 hn
        have bW := b9.out.trans (hW.mono b9.out.size)
        exact two1_any w.heap.size w8.heap.size (w.heap.size + 1) (w.heap.size + 2) n va vda vb vdb (.slice o8 s.length c8) vi sa da sb db s (atl s (n : Nat)) f W (J0.out.below hW J0.out.lt) (KV8.out.below hW KV8.out.lt) (J1.out.below hW J1.out.lt) (J2.out.below hW J2.out.lt) (HLD.out.1.below bW) (HLD.out.2.1.below bW) (HLD.out.2.2.1.below bW) (HLD.out.2.2.2.below bW) (L9.out.below hW) hi HTA.out.2.2.1 HTA.out.2.2.2 HG.out.1 HG.out.2.1 HG.out.2.2.1 hx ka kb)
      (fun n W hn => EFW.out.2 _ _ W (txa_wd HTA.out.1 HG.out.1 HG.out.2.1 HG.out.2.2.2 hn) (txa_wd HTA.out.2.1 HG.out.1 HG.out.2.2.1 HG.out.2.2.2 hn)))
    generalize fer (fun n => ef (txa sa da s n) (txa sb db s n)) N = er at *
    generalize vls (fun n => vf (txa sa da s n) (txa sb db s n)) N = vls9 at *
    clear K0 K1 K2 K3 c0 c1 c2 c3 c4 lk KS KCA KCB KF KT
    have kv := KV8.out.cell 0
    go_wp2_with (go_at_call 28; (with_reducible refine KE.out.mono ?_); rintro e wa ⟨os, cs, od, cd, rfl, ho, hd, hba⟩; have Ba := Lib.hid hba; have HO := Lib.hid (And.intro ho hd); replace J3 := Lib.hid (J3.out.below hba J3.out.lt); obtain ⟨r0, r1, rf0, rf1⟩ := blk2 J3.out; clear ho hd hba)
    have Q := Lib.hid ((J3.out.set_ 0 (.slice os (unl er s).length cs)).set_ 1 (.slice od (unl er vls9).length cd))
    have O1 := Lib.hid (own_two HO.out.1 J3.out (by decide) (.slice os (unl er s).length cs) (.slice od (unl er vls9).length cd))
    have O2 := Lib.hid (own_two HO.out.2 J3.out (by decide) (.slice os (unl er s).length cs) (.slice od (unl er vls9).length cd))
    have BZ := Lib.hid (((b9.out.trans (Ba.out.mono b9.out.size)).setCell (p := ⟨w.heap.size + 3, 0, none⟩) (by show w.heap.size ≤ w.heap.size + 3; omega) (.slice os (unl er s).length cs)).setCell (p := ⟨w.heap.size + 3, 1, none⟩) (by show w.heap.size ≤ w.heap.size + 3; omega) (.slice od (unl er vls9).length cd))
    have d0 := Q.out.cell 0
    have d1 := Q.out.cell 1
    refine bodyPost_ret (v := .tuple #[.agg #[.slice os (unl er s).length cs, .slice od (unl er vls9).length cd], .int .i64 er]) (by simp [results, Try.results12, go_sem, d0, d1]) rfl ?_
    try rw [E1.out]
    try rw [E2.out]
    try rw [hS9.out]
    exact ⟨os, cs, od, cd, rfl, own_base O1.out (show w.heap.size ≤ w9.heap.size by omega), own_base O2.out (show w.heap.size ≤ w9.heap.size by omega), BZ.out⟩
  · have E1 : Hid (twe ef sa da sb db = spe sa sb) := Lib.hid (if_neg hsp)
    have b0 : (spe sa sb != 0) = true := bne_iff_ne.2 hsp
    have HSP := Lib.hid hsp
    rw [E1.out]
    generalize spe sa sb = er at *
    clear hsp
    go_wp2_with (go_at_call 27; (with_reducible refine (KS.out _ b7.out).mono ?_); rintro e w8 ⟨v8, rfl, hv8, hb8⟩; obtain ⟨o8, c8, rfl, _, _⟩ := id hv8; have b8 := Lib.hid (b7.out.trans (hb8.mono b7.out.size)); have s8 : w.heap.size + 4 ≤ w8.heap.size := Nat.le_trans s7 hb8.size; replace K3 := Lib.hid ((K3.out.below hb8 K3.out.lt).alloc (.cells #[.slice o8 (spv sa sb).length c8] 23)); obtain ⟨r0, r1, rf0, rf1⟩ := blk2 K3.out; clear hb8 hv8)
    have Q := Lib.hid ((K3.out.set_ 0 (.slice none 0 0)).set_ 1 (.slice none 0 0))
    have BZ := Lib.hid ((((b8.out.alloc b8.out.size (.cells #[.slice o8 (spv sa sb).length c8] 23))).setCell (p := ⟨w.heap.size + 3, 0, none⟩) (by show w.heap.size ≤ w.heap.size + 3; omega) (.slice none 0 0)).setCell (p := ⟨w.heap.size + 3, 1, none⟩) (by show w.heap.size ≤ w.heap.size + 3; omega) (.slice none 0 0))
    have d0 := Q.out.cell 0
    have d1 := Q.out.cell 1
    refine bodyPost_ret (v := .tuple #[.agg #[.slice none 0 0, .slice none 0 0], .int .i64 er]) (by simp [results, Try.results12, go_sem, d0, d1]) rfl ?_
    have u0 : ∀ l : List Int, unl er l = [] := fun l => by unfold unl; rw [if_neg HSP.out]
    try rw [E1.out]
    rw [u0, u0]
    exact ⟨none, 0, none, 0, rfl, World.ownsRow_nil _ _ _ _, World.ownsRow_nil _ _ _ _, BZ.out⟩
end Go.Proofs.Ytpfcjajmfadcbaa
