/-
  Quotients told as words.
  Sums and differences of words.
  The statements' lists of package fx: what an element's cells hold.
  The small functions of package fx's statements.
  Closing, ratios, and the operations of words.
  Quotients by a divisor above 0: the rounded one is the lower one, or 1 more; both are wide numbers.
  Rounded quotients of words: half of the divisor away at most.
  Roots of whole numbers: Newton's steps, and the nearest word to a root.
  The nearest whole number to the root of a rational number, by its half; odd numbers over 2 and 4.
  FxLaws' arithmetic: whole quotients; a quotient's half, a product's half over a power of 2, in lowest terms.
  Rounded quotients of words: they are words, but for one.
-/
import Derived.LoopTactic
import Derived.Test.YtlfijpcpfepfbaaM08
import Derived.Test.YtlfijpcpfepfbaaM09
import Derived.Test.YtlfijpcpfepfbaaM11
import Derived.Test.YtlfijpcpfepfbaaM12
namespace Go.Proofs.Ytlfijpcpfepfbaa
open Go.RowKit

theorem isS_no {a : Int} (h : isS a = false) : ¬ (-9223372036854775808 ≤ a ∧ a ≤ 9223372036854775807) := by unfold isS at h; exact of_decide_eq_false h
set_option maxHeartbeats 2000000 in
/-- fx.nearest, by 0 -/
theorem near_zero (n d : Int) (w : World) (h0 : d = 0) : Calls Try.prog 77 #[Wv n, Wv d] w fun e w' => e = .returned (.tuple #[.int .i64 0, .int .i64 4]) ∧ Below w.heap.size w w' := by
  have RC := Lib.hid (fun W : World => round_zero n d W h0)
  clear h0
  go_enter Try.func77, Try.ntmps77
  go_wp2_with (go_at_call 63; (with_reducible refine (RC.out _).mono ?_); rintro e w1 ⟨rfl, hb1⟩; have e10 : w1.cell? ⟨w.heap.size, 0, none⟩ = some (.int .i64 (hi n)) := cell_on hb1 (by first | (simp [go_sem, *]; done) | (simp [go_sem, World.cell?_alloc_some, *]; done) | fail); have e11 : w1.cell? ⟨w.heap.size, 1, none⟩ = some (.int .u64 (lo n)) := cell_on hb1 (by first | (simp [go_sem, *]; done) | (simp [go_sem, World.cell?_alloc_some, *]; done) | fail); have e12 : w1.cell? ⟨w.heap.size + 1, 0, none⟩ = some (.int .i64 (hi d)) := cell_on hb1 (by first | (simp [go_sem, *]; done) | (simp [go_sem, World.cell?_alloc_some, *]; done) | fail); have e13 : w1.cell? ⟨w.heap.size + 1, 1, none⟩ = some (.int .u64 (lo d)) := cell_on hb1 (by first | (simp [go_sem, *]; done) | (simp [go_sem, World.cell?_alloc_some, *]; done) | fail); have s10 : w.heap.size < w1.heap.size := World.block_lt_of_cell? _ _ e10; have t10 : w.heap.size < w1.heap.size + 1 := Nat.lt_succ_of_lt s10; have s12 : w.heap.size + 1 < w1.heap.size := World.block_lt_of_cell? _ _ e12; have t12 : w.heap.size + 1 < w1.heap.size + 1 := Nat.lt_succ_of_lt s12)
  go_ret2
  refine ⟨rfl, ?_⟩
  repeat (first | exact Below.refl _ _ | assumption | apply Below.drew | refine Below.setCell ?_ (by first | omega | (simp; done) | (simp; omega)) _ | refine Below.alloc ?_ (by first | omega | (simp; done) | (simp; omega)) _ | refine Below.trans ?_ (hb1.mono (by first | omega | (simp; done) | (simp; omega))))
set_option maxHeartbeats 2000000 in
/-- fx.nearest -/
theorem near_any (n d : Int) (w : World) (hn : R n) (hd : R d) (h0 : d ≠ 0) : Calls Try.prog 77 #[Wv n, Wv d] w fun e w' => e = .returned (.tuple #[.int .i64 (tw (rd n d)), .int .i64 (te (rd n d))]) ∧ Below w.heap.size w w' := by
  have RC := fun W : World => round_any n d W hn hd h0
  by_cases r : R (rd n d)
  · rw [told_in r, over_in r] at RC
    have RC := Lib.hid RC
    generalize rd n d = q at *
    clear hn hd h0 r
    cases g : isS q with
    | true =>
      have SC := fun W : World => small_any q W
      rw [g, show sm q = q from if_pos g] at SC
      have SC := Lib.hid SC
      have TC := Lib.hid (fun W : World => told_any q W)
      clear g
      go_enter Try.func77, Try.ntmps77
      go_wp2_with (first | (go_at_call 63; (with_reducible refine (RC.out _).mono ?_); rintro e w1 ⟨rfl, hb1⟩; have e10 : w1.cell? ⟨w.heap.size, 0, none⟩ = some (.int .i64 (hi n)) := cell_on hb1 (by first | (simp [go_sem, *]; done) | (simp [go_sem, World.cell?_alloc_some, *]; done) | fail); have e11 : w1.cell? ⟨w.heap.size, 1, none⟩ = some (.int .u64 (lo n)) := cell_on hb1 (by first | (simp [go_sem, *]; done) | (simp [go_sem, World.cell?_alloc_some, *]; done) | fail); have e12 : w1.cell? ⟨w.heap.size + 1, 0, none⟩ = some (.int .i64 (hi d)) := cell_on hb1 (by first | (simp [go_sem, *]; done) | (simp [go_sem, World.cell?_alloc_some, *]; done) | fail); have e13 : w1.cell? ⟨w.heap.size + 1, 1, none⟩ = some (.int .u64 (lo d)) := cell_on hb1 (by first | (simp [go_sem, *]; done) | (simp [go_sem, World.cell?_alloc_some, *]; done) | fail); have s10 : w.heap.size < w1.heap.size := World.block_lt_of_cell? _ _ e10; have t10 : w.heap.size < w1.heap.size + 1 := Nat.lt_succ_of_lt s10; have s12 : w.heap.size + 1 < w1.heap.size := World.block_lt_of_cell? _ _ e12; have t12 : w.heap.size + 1 < w1.heap.size + 1 := Nat.lt_succ_of_lt s12) | (go_at_call 100; (with_reducible refine (SC.out _).mono ?_); rintro e w2 ⟨rfl, hb2⟩; have e20 : w2.cell? ⟨w.heap.size, 0, none⟩ = some (.int .i64 (hi n)) := cell_on hb2 (by first | (simp [go_sem, *]; done) | (simp [go_sem, World.cell?_alloc_some, *]; done) | fail); have e21 : w2.cell? ⟨w.heap.size, 1, none⟩ = some (.int .u64 (lo n)) := cell_on hb2 (by first | (simp [go_sem, *]; done) | (simp [go_sem, World.cell?_alloc_some, *]; done) | fail); have e22 : w2.cell? ⟨w.heap.size + 1, 0, none⟩ = some (.int .i64 (hi d)) := cell_on hb2 (by first | (simp [go_sem, *]; done) | (simp [go_sem, World.cell?_alloc_some, *]; done) | fail); have e23 : w2.cell? ⟨w.heap.size + 1, 1, none⟩ = some (.int .u64 (lo d)) := cell_on hb2 (by first | (simp [go_sem, *]; done) | (simp [go_sem, World.cell?_alloc_some, *]; done) | fail); have s20 : w.heap.size < w2.heap.size := World.block_lt_of_cell? _ _ e20; have t20 : w.heap.size < w2.heap.size + 1 := Nat.lt_succ_of_lt s20; have s22 : w.heap.size + 1 < w2.heap.size := World.block_lt_of_cell? _ _ e22; have t22 : w.heap.size + 1 < w2.heap.size + 1 := Nat.lt_succ_of_lt s22) | (go_at_call 101; (with_reducible refine (TC.out _).mono ?_); rintro e w' ⟨rfl, rfl⟩))
      go_ret2
      refine ⟨rfl, ?_⟩
      repeat (first | exact Below.refl _ _ | assumption | apply Below.drew | refine Below.setCell ?_ (by first | omega | (simp; done) | (simp; omega)) _ | refine Below.alloc ?_ (by first | omega | (simp; done) | (simp; omega)) _ | refine Below.trans ?_ (hb2.mono (by first | omega | (simp; done) | (simp; omega))) | refine Below.trans ?_ (hb1.mono (by first | omega | (simp; done) | (simp; omega))))
    | false =>
      have SC := fun W : World => small_any q W
      rw [g, show sm q = 0 from if_neg (by simp [g])] at SC
      have SC := Lib.hid SC
      have gw : wd q = false := by
        have := isS_no g
        unfold wd; simp only [decide_eq_false_iff_not]; omega
      have H := Lib.hid (And.intro (tw_out gw) (te_out gw))
      clear g gw
      go_enter Try.func77, Try.ntmps77
      go_wp2_with (first | (go_at_call 63; (with_reducible refine (RC.out _).mono ?_); rintro e w1 ⟨rfl, hb1⟩; have e10 : w1.cell? ⟨w.heap.size, 0, none⟩ = some (.int .i64 (hi n)) := cell_on hb1 (by first | (simp [go_sem, *]; done) | (simp [go_sem, World.cell?_alloc_some, *]; done) | fail); have e11 : w1.cell? ⟨w.heap.size, 1, none⟩ = some (.int .u64 (lo n)) := cell_on hb1 (by first | (simp [go_sem, *]; done) | (simp [go_sem, World.cell?_alloc_some, *]; done) | fail); have e12 : w1.cell? ⟨w.heap.size + 1, 0, none⟩ = some (.int .i64 (hi d)) := cell_on hb1 (by first | (simp [go_sem, *]; done) | (simp [go_sem, World.cell?_alloc_some, *]; done) | fail); have e13 : w1.cell? ⟨w.heap.size + 1, 1, none⟩ = some (.int .u64 (lo d)) := cell_on hb1 (by first | (simp [go_sem, *]; done) | (simp [go_sem, World.cell?_alloc_some, *]; done) | fail); have s10 : w.heap.size < w1.heap.size := World.block_lt_of_cell? _ _ e10; have t10 : w.heap.size < w1.heap.size + 1 := Nat.lt_succ_of_lt s10; have s12 : w.heap.size + 1 < w1.heap.size := World.block_lt_of_cell? _ _ e12; have t12 : w.heap.size + 1 < w1.heap.size + 1 := Nat.lt_succ_of_lt s12) | (go_at_call 100; (with_reducible refine (SC.out _).mono ?_); rintro e w2 ⟨rfl, hb2⟩; have e20 : w2.cell? ⟨w.heap.size, 0, none⟩ = some (.int .i64 (hi n)) := cell_on hb2 (by first | (simp [go_sem, *]; done) | (simp [go_sem, World.cell?_alloc_some, *]; done) | fail); have e21 : w2.cell? ⟨w.heap.size, 1, none⟩ = some (.int .u64 (lo n)) := cell_on hb2 (by first | (simp [go_sem, *]; done) | (simp [go_sem, World.cell?_alloc_some, *]; done) | fail); have e22 : w2.cell? ⟨w.heap.size + 1, 0, none⟩ = some (.int .i64 (hi d)) := cell_on hb2 (by first | (simp [go_sem, *]; done) | (simp [go_sem, World.cell?_alloc_some, *]; done) | fail); have e23 : w2.cell? ⟨w.heap.size + 1, 1, none⟩ = some (.int .u64 (lo d)) := cell_on hb2 (by first | (simp [go_sem, *]; done) | (simp [go_sem, World.cell?_alloc_some, *]; done) | fail); have s20 : w.heap.size < w2.heap.size := World.block_lt_of_cell? _ _ e20; have t20 : w.heap.size < w2.heap.size + 1 := Nat.lt_succ_of_lt s20; have s22 : w.heap.size + 1 < w2.heap.size := World.block_lt_of_cell? _ _ e22; have t22 : w.heap.size + 1 < w2.heap.size + 1 := Nat.lt_succ_of_lt s22) | (go_at_call 101; (with_reducible refine (TC.out _).mono ?_); rintro e w' ⟨rfl, rfl⟩))
      go_ret2
      refine ⟨by rw [H.out.1, H.out.2] <;> rfl, ?_⟩
      repeat (first | exact Below.refl _ _ | assumption | apply Below.drew | refine Below.setCell ?_ (by first | omega | (simp; done) | (simp; omega)) _ | refine Below.alloc ?_ (by first | omega | (simp; done) | (simp; omega)) _ | refine Below.trans ?_ (hb2.mono (by first | omega | (simp; done) | (simp; omega))) | refine Below.trans ?_ (hb1.mono (by first | omega | (simp; done) | (simp; omega))))
  · have gw : wd (rd n d) = false := by
      rw [R_iff] at r
      unfold wd; simp only [decide_eq_false_iff_not]; omega
    have H := Lib.hid (And.intro (tw_out gw) (te_out gw))
    rw [told_out r, over_out r] at RC
    have RC := Lib.hid RC
    clear hn hd h0 r gw
    generalize rd n d = q at *
    go_enter Try.func77, Try.ntmps77
    go_wp2_with (first | (go_at_call 63; (with_reducible refine (RC.out _).mono ?_); rintro e w1 ⟨rfl, hb1⟩; have e10 : w1.cell? ⟨w.heap.size, 0, none⟩ = some (.int .i64 (hi n)) := cell_on hb1 (by first | (simp [go_sem, *]; done) | (simp [go_sem, World.cell?_alloc_some, *]; done) | fail); have e11 : w1.cell? ⟨w.heap.size, 1, none⟩ = some (.int .u64 (lo n)) := cell_on hb1 (by first | (simp [go_sem, *]; done) | (simp [go_sem, World.cell?_alloc_some, *]; done) | fail); have e12 : w1.cell? ⟨w.heap.size + 1, 0, none⟩ = some (.int .i64 (hi d)) := cell_on hb1 (by first | (simp [go_sem, *]; done) | (simp [go_sem, World.cell?_alloc_some, *]; done) | fail); have e13 : w1.cell? ⟨w.heap.size + 1, 1, none⟩ = some (.int .u64 (lo d)) := cell_on hb1 (by first | (simp [go_sem, *]; done) | (simp [go_sem, World.cell?_alloc_some, *]; done) | fail); have s10 : w.heap.size < w1.heap.size := World.block_lt_of_cell? _ _ e10; have t10 : w.heap.size < w1.heap.size + 1 := Nat.lt_succ_of_lt s10; have s12 : w.heap.size + 1 < w1.heap.size := World.block_lt_of_cell? _ _ e12; have t12 : w.heap.size + 1 < w1.heap.size + 1 := Nat.lt_succ_of_lt s12) | (go_at_call 100; (with_reducible refine (SC.out _).mono ?_); rintro e w2 ⟨rfl, hb2⟩; have e20 : w2.cell? ⟨w.heap.size, 0, none⟩ = some (.int .i64 (hi n)) := cell_on hb2 (by first | (simp [go_sem, *]; done) | (simp [go_sem, World.cell?_alloc_some, *]; done) | fail); have e21 : w2.cell? ⟨w.heap.size, 1, none⟩ = some (.int .u64 (lo n)) := cell_on hb2 (by first | (simp [go_sem, *]; done) | (simp [go_sem, World.cell?_alloc_some, *]; done) | fail); have e22 : w2.cell? ⟨w.heap.size + 1, 0, none⟩ = some (.int .i64 (hi d)) := cell_on hb2 (by first | (simp [go_sem, *]; done) | (simp [go_sem, World.cell?_alloc_some, *]; done) | fail); have e23 : w2.cell? ⟨w.heap.size + 1, 1, none⟩ = some (.int .u64 (lo d)) := cell_on hb2 (by first | (simp [go_sem, *]; done) | (simp [go_sem, World.cell?_alloc_some, *]; done) | fail); have s20 : w.heap.size < w2.heap.size := World.block_lt_of_cell? _ _ e20; have t20 : w.heap.size < w2.heap.size + 1 := Nat.lt_succ_of_lt s20; have s22 : w.heap.size + 1 < w2.heap.size := World.block_lt_of_cell? _ _ e22; have t22 : w.heap.size + 1 < w2.heap.size + 1 := Nat.lt_succ_of_lt s22) | (go_at_call 101; (with_reducible refine (TC.out _).mono ?_); rintro e w' ⟨rfl, rfl⟩))
    go_ret2
    refine ⟨by rw [H.out.1, H.out.2] <;> rfl, ?_⟩
    repeat (first | exact Below.refl _ _ | assumption | apply Below.drew | refine Below.setCell ?_ (by first | omega | (simp; done) | (simp; omega)) _ | refine Below.alloc ?_ (by first | omega | (simp; done) | (simp; omega)) _ | refine Below.trans ?_ (hb1.mono (by first | omega | (simp; done) | (simp; omega))))
end Go.Proofs.Ytlfijpcpfepfbaa
namespace Go.Proofs.Ytlfijpcpfepfbaa
open Go.RowKit










end Go.Proofs.Ytlfijpcpfepfbaa
namespace Go.Proofs.Ytlfijpcpfepfbaa
open Go.RowKit

/-- An element: two words (or not), fraction bits (or not), two numbers, a wide one, a count. -/
structure Fl where
  a : Int
  b : Int
  f : Int
  n : Int
  d : Int
  v : Int
  k : Int
def Fl.ok (e : Fl) : Prop := (-9223372036854775808 ≤ e.a ∧ e.a ≤ 9223372036854775807) ∧ (-9223372036854775808 ≤ e.b ∧ e.b ≤ 9223372036854775807) ∧ (-9223372036854775808 ≤ e.f ∧ e.f ≤ 9223372036854775807) ∧ (-9223372036854775808 ≤ e.n ∧ e.n ≤ 9223372036854775807) ∧ (-9223372036854775808 ≤ e.d ∧ e.d ≤ 9223372036854775807) ∧ R e.v ∧ (-9223372036854775808 ≤ e.k ∧ e.k ≤ 9223372036854775807)
/-- Its eight cells. -/
def FlAt (w : World) (b o : Nat) (e : Fl) : Prop :=
  w.cell? ⟨b, o, none⟩ = some (.int .i64 e.a) ∧ w.cell? ⟨b, o + 1, none⟩ = some (.int .i64 e.b) ∧ w.cell? ⟨b, o + 2, none⟩ = some (.int .i64 e.f) ∧ w.cell? ⟨b, o + 3, none⟩ = some (.int .i64 e.n) ∧ w.cell? ⟨b, o + 4, none⟩ = some (.int .i64 e.d) ∧ w.cell? ⟨b, o + 5, none⟩ = some (.int .i64 (hi e.v)) ∧ w.cell? ⟨b, o + 6, none⟩ = some (.int .u64 (lo e.v)) ∧ w.cell? ⟨b, o + 7, none⟩ = some (.int .i64 e.k)
theorem FlAt.below {w w' : World} {B b o : Nat} {e : Fl} (h : FlAt w b o e) (hb : Below B w w') (hB : b < B) : FlAt w' b o e := by
  obtain ⟨h1, h2, h3, h4, h5, h6, h7, h8⟩ := h
  exact ⟨(hb.cell (p := ⟨b, o, none⟩) hB).trans h1, (hb.cell (p := ⟨b, o + 1, none⟩) hB).trans h2, (hb.cell (p := ⟨b, o + 2, none⟩) hB).trans h3, (hb.cell (p := ⟨b, o + 3, none⟩) hB).trans h4, (hb.cell (p := ⟨b, o + 4, none⟩) hB).trans h5, (hb.cell (p := ⟨b, o + 5, none⟩) hB).trans h6, (hb.cell (p := ⟨b, o + 6, none⟩) hB).trans h7, (hb.cell (p := ⟨b, o + 7, none⟩) hB).trans h8⟩
end Go.Proofs.Ytlfijpcpfepfbaa
namespace Go.Proofs.Ytlfijpcpfepfbaa
open Go.RowKit

theorem may_any (v : Int) (w : World) : Calls Try.prog 55 #[.int .i64 v] w fun e w' => e = .returned (.bool (wd v)) ∧ w = w' := by
  cases g : wd v with
  | true =>
    obtain ⟨g1, g2⟩ := wd_bd g
    clear g
    go_enter Try.func55, Try.ntmps55
    go_wp2
    go_ret
    exact ⟨rfl, rfl⟩
  | false =>
    have h := wd_no g
    clear g
    by_cases g1 : v ≤ -140737488355328
    · clear h
      go_enter Try.func55, Try.ntmps55
      go_wp2
      go_ret
      exact ⟨rfl, rfl⟩
    · have g2 : ¬ v < 140737488355328 := by omega
      have g3 : -140737488355328 < v := by omega
      clear h g1
      go_enter Try.func55, Try.ntmps55
      go_wp2
      go_ret
      exact ⟨rfl, rfl⟩
end Go.Proofs.Ytlfijpcpfepfbaa
namespace Go.Proofs.Ytlfijpcpfepfbaa
open Go.RowKit

theorem R_pow {n : Nat} (h : n ≤ 126) : R (2 ^ n) := by
  have : (2 : Int) ^ n ≤ 2 ^ 126 := by have := Nat.pow_le_pow_right (show 0 < 2 by decide) h; exact_mod_cast this
  have : (0 : Int) < 2 ^ n := Int.pow_pos (by decide)
  rw [R_iff]
  omega
theorem R_prod {a b : Int} (a0 : -9223372036854775808 ≤ a) (a1 : a ≤ 9223372036854775807) (b0 : -9223372036854775808 ≤ b) (b1 : b ≤ 9223372036854775807) : R (a * b) := by
  have h : (a * b).natAbs ≤ 9223372036854775808 * 9223372036854775808 := by
    rw [Int.natAbs_mul]
    exact Nat.mul_le_mul (by omega) (by omega)
  generalize a * b = x at *
  rw [R_iff]
  omega
theorem pow_ne (n : Nat) : (2 : Int) ^ n ≠ 0 := by have : (0 : Int) < 2 ^ n := Int.pow_pos (by decide); omega
set_option maxRecDepth 100000 in
set_option maxHeartbeats 2000000 in
/-- fx.Close -/
theorem close_any (a : Int) (n : Nat) (w : World) (ha : R a) (h1 : n ≤ 126) : Calls Try.prog 54 #[Wv a, .int .i64 n] w fun e w' => e = .returned (.tuple #[.int .i64 (tw (rd a (2 ^ n))), .int .i64 (te (rd a (2 ^ n)))]) ∧ Below w.heap.size w w' := by
  have LC := fun W : World => shl_any 1 n W (by decide) h1
  have NC := Lib.hid (fun W : World => near_any a (2 ^ n) W ha (R_pow h1) (pow_ne n))
  rw [Int.one_mul, told_in (R_pow h1), over_in (R_pow h1)] at LC
  have LC := Lib.hid LC
  have F1 := Lib.hid (fun W : World => from_at 1 W (by decide) (by decide))
  clear ha h1
  generalize tw (rd a (2 ^ n)) = q at *
  generalize te (rd a (2 ^ n)) = g at *
  generalize (2 : Int) ^ n = t at *
  go_enter Try.func54, Try.ntmps54
  go_wp2_with (first | (go_at_call 64; (with_reducible refine (F1.out _).mono ?_); rintro e w' ⟨rfl, rfl⟩) | (go_at_call 76; (with_reducible refine (LC.out _).mono ?_); rintro e w1 ⟨rfl, hb1⟩; have e10 : w1.cell? ⟨w.heap.size, 0, none⟩ = some (.int .i64 (hi a)) := cell_on hb1 (by first | (simp [go_sem, *]; done) | (simp [go_sem, World.cell?_alloc_some, *]; done) | fail); have e11 : w1.cell? ⟨w.heap.size, 1, none⟩ = some (.int .u64 (lo a)) := cell_on hb1 (by first | (simp [go_sem, *]; done) | (simp [go_sem, World.cell?_alloc_some, *]; done) | fail); have s10 : w.heap.size < w1.heap.size := World.block_lt_of_cell? _ _ e10; have t10 : w.heap.size < w1.heap.size + 1 := Nat.lt_succ_of_lt s10) | (go_at_call 77; (with_reducible refine (NC.out _).mono ?_); rintro e w2 ⟨rfl, hb2⟩; have e20 : w2.cell? ⟨w.heap.size, 0, none⟩ = some (.int .i64 (hi a)) := cell_on hb2 (by first | (simp [go_sem, *]; done) | (simp [go_sem, World.cell?_alloc_some, *]; done) | fail); have e21 : w2.cell? ⟨w.heap.size, 1, none⟩ = some (.int .u64 (lo a)) := cell_on hb2 (by first | (simp [go_sem, *]; done) | (simp [go_sem, World.cell?_alloc_some, *]; done) | fail); have s20 : w.heap.size < w2.heap.size := World.block_lt_of_cell? _ _ e20; have t20 : w.heap.size < w2.heap.size + 1 := Nat.lt_succ_of_lt s20))
  go_ret2
  refine ⟨rfl, ?_⟩
  repeat (first | exact Below.refl _ _ | assumption | apply Below.drew | refine Below.setCell ?_ (by first | omega | (simp; done) | (simp; omega)) _ | refine Below.alloc ?_ (by first | omega | (simp; done) | (simp; omega)) _ | refine Below.trans ?_ (hb2.mono (by first | omega | (simp; done) | (simp; omega))) | refine Below.trans ?_ (hb1.mono (by first | omega | (simp; done) | (simp; omega))))
set_option maxRecDepth 100000 in
set_option maxHeartbeats 2000000 in
theorem close_form (a n : Int) (w : World) (h : n < 0 ∨ 126 < n) : Calls Try.prog 54 #[Wv a, .int .i64 n] w fun e w' => e = .returned (.tuple #[.int .i64 (0), .int .i64 (1)]) ∧ Below w.heap.size w w' := by
  have LC := Lib.hid (fun W : World => left_form 1 n W h)
  have F1 := Lib.hid (fun W : World => from_at 1 W (by decide) (by decide))
  clear h
  go_enter Try.func54, Try.ntmps54
  go_wp2_with (first | (go_at_call 64; (with_reducible refine (F1.out _).mono ?_); rintro e w' ⟨rfl, rfl⟩) | (go_at_call 76; (with_reducible refine (LC.out _).mono ?_); rintro e w1 ⟨rfl, hb1⟩; have e10 : w1.cell? ⟨w.heap.size, 0, none⟩ = some (.int .i64 (hi a)) := cell_on hb1 (by first | (simp [go_sem, *]; done) | (simp [go_sem, World.cell?_alloc_some, *]; done) | fail); have e11 : w1.cell? ⟨w.heap.size, 1, none⟩ = some (.int .u64 (lo a)) := cell_on hb1 (by first | (simp [go_sem, *]; done) | (simp [go_sem, World.cell?_alloc_some, *]; done) | fail); have s10 : w.heap.size < w1.heap.size := World.block_lt_of_cell? _ _ e10; have t10 : w.heap.size < w1.heap.size + 1 := Nat.lt_succ_of_lt s10))
  go_ret2
  refine ⟨rfl, ?_⟩
  repeat (first | exact Below.refl _ _ | assumption | apply Below.drew | refine Below.setCell ?_ (by first | omega | (simp; done) | (simp; omega)) _ | refine Below.alloc ?_ (by first | omega | (simp; done) | (simp; omega)) _ | refine Below.trans ?_ (hb1.mono (by first | omega | (simp; done) | (simp; omega))))
theorem rd384 : rd (384 * 384) (2 ^ 8) = 576 := by decide
end Go.Proofs.Ytlfijpcpfepfbaa
namespace Go.Proofs.Ytlfijpcpfepfbaa
open Go.RowKit

theorem up_rest {n d : Int} (hd : 0 < d) (h : up n d = true) : ab n % ab d ≠ 0 := by
  intro e
  have dp : 0 < ab d := by unfold ab; omega
  unfold up at h
  rw [e, Int.mul_zero, sg_lt dp] at h
  simp at h
theorem quo_small {n d : Int} (hd : 0 < d) : 0 ≤ ab n / ab d ∧ ab n / ab d ≤ ab n ∧ (ab n % ab d ≠ 0 → ab n / ab d + 1 ≤ ab n) := by
  have dp : 0 < ab d := by unfold ab; omega
  have n0 : 0 ≤ ab n := by unfold ab; omega
  have q0 : 0 ≤ ab n / ab d := Int.ediv_nonneg n0 (by omega)
  refine ⟨q0, Int.ediv_le_self _ n0, fun hr => ?_⟩
  have r0 := Int.emod_nonneg (ab n) (show ab d ≠ 0 by omega)
  have e := Int.mul_ediv_add_emod (ab n) (ab d)
  have : 1 * (ab n / ab d) ≤ ab d * (ab n / ab d) := Int.mul_le_mul_of_nonneg_right (by omega) q0
  omega
theorem downs_math {n d : Int} (hn : R n) (hd : 0 < d) : R (dn n d) ∧ R (rd n d) ∧ R (rd n d - dn n d) ∧ 0 ≤ rd n d - dn n d ∧ rd n d - dn n d ≤ 1 := by
  obtain ⟨q0, q1, q2⟩ := quo_small (n := n) hd
  have hb := ab_bd hn
  have hu := up_rest (n := n) hd
  have ed : ng d = false := by unfold ng; exact decide_eq_false (by omega)
  have en : ng n = decide (n < 0) := rfl
  rw [R_iff] at hn
  simp only [R_iff]
  unfold dn rd sd
  rw [ed, en]
  generalize up n d = u at *
  have ea : n < 0 → ab n = -n := by intro h; unfold ab; omega
  have eb : ¬ n < 0 → ab n = n := by intro h; unfold ab; omega
  generalize ab n / ab d = q at *
  generalize ab n % ab d = r at *
  by_cases h : n < 0 <;> by_cases hr : r = 0 <;> cases u <;> simp [h, hr] at hu ea eb q2 ⊢ <;> omega
end Go.Proofs.Ytlfijpcpfepfbaa
namespace Go.Proofs.Ytlfijpcpfepfbaa
open Go.RowKit

theorem sd_mul (n d k : Int) : n - sd (ng n != ng d) k * d = sd (ng n) (ab n - ab d * k) := by
  have en : n = sd (ng n) (ab n) := by unfold sd ng ab; by_cases h : n < 0 <;> simp [h] <;> omega
  have ed : d = sd (ng d) (ab d) := by unfold sd ng ab; by_cases h : d < 0 <;> simp [h] <;> omega
  generalize ng n = s at *
  generalize ng d = t at *
  generalize ab n = A at *
  generalize ab d = D at *
  subst en
  subst ed
  cases s <;> cases t <;> simp [sd, Int.mul_comm D k, Int.neg_mul, Int.mul_neg] <;> omega
theorem up_cases (n d : Int) : (up n d = true ∧ (ab d < 2 * (ab n % ab d) ∨ (2 * (ab n % ab d) = ab d ∧ ab n / ab d % 2 = 1))) ∨ (up n d = false ∧ (2 * (ab n % ab d) < ab d ∨ (2 * (ab n % ab d) = ab d ∧ ab n / ab d % 2 ≠ 1))) := by
  unfold up
  generalize 2 * (ab n % ab d) = r
  generalize ab n / ab d = q
  generalize ab d = D
  rcases Int.lt_trichotomy r D with h | h | h
  · rw [sg_lt h]; simp; omega
  · rw [h, sg_eq]
    by_cases hq : q % 2 = 1
    · simp [hq]
    · simp [hq]
  · have e : sg r D = 1 := by unfold sg; rw [if_neg (by omega), if_pos h]
    rw [e]; simp; omega
theorem half_math (n d : Int) (h0 : d ≠ 0) : 2 * ((n - rd n d * d).natAbs : Int) ≤ d.natAbs ∧ (2 * ((n - rd n d * d).natAbs : Int) = d.natAbs → rd n d % 2 = 0) := by
  have dp : 0 < ab d := by unfold ab; omega
  have ed : (d.natAbs : Int) = ab d := rfl
  rw [ed]
  have r0 := Int.emod_nonneg (ab n) (show ab d ≠ 0 by omega)
  have r1 := Int.emod_lt_of_pos (ab n) dp
  have e := Int.mul_ediv_add_emod (ab n) (ab d)
  have en : ∀ s x, (sd s x).natAbs = x.natAbs := fun s x => by cases s <;> simp [sd]
  have e2 : ∀ s x, (sd s x) % 2 = 0 ↔ x % 2 = 0 := fun s x => by cases s <;> simp [sd] <;> omega
  have U := up_cases n d
  unfold rd
  rw [sd_mul, en, e2]
  generalize ab n / ab d = q at *
  generalize ab n % ab d = r at *
  generalize ab n = A at *
  rcases U with ⟨u, h⟩ | ⟨u, h⟩ <;> rw [u] <;> simp only [if_true, if_false, Bool.false_eq_true] <;> (try rw [Int.mul_add, Int.mul_one]) <;> generalize ab d * q = m at * <;> omega
theorem rd_neg (n d : Int) (h0 : d ≠ 0) : rd (-n) d = -rd n d := by
  have ea : ab (-n) = ab n := by unfold ab; omega
  unfold rd up
  rw [ea]
  by_cases h : n = 0
  · subst h
    have z : ab 0 = 0 := rfl
    have dp : 0 < ab d := by unfold ab; omega
    rw [z, Int.zero_ediv, Int.zero_emod, Int.mul_zero, sg_lt dp]
    cases (ng d) <;> simp [sd]
  · have en : ng (-n) = !ng n := by unfold ng; by_cases k : n < 0 <;> simp [k] <;> omega
    rw [en]
    generalize ng n = s
    generalize ng d = t
    cases s <;> cases t <;> simp [sd]
end Go.Proofs.Ytlfijpcpfepfbaa
namespace Go.Proofs.Ytlfijpcpfepfbaa
open Go.RowKit

/-- s is the root of n, rounded down. -/
def Rt (n s : Int) : Prop := 0 ≤ s ∧ s * s ≤ n ∧ n < (s + 1) * (s + 1)
/-- r is the nearest whole number to half the root of x. -/
def Nr (x r : Int) : Prop := 0 ≤ r ∧ x ≤ (2 * r + 1) * (2 * r + 1) ∧ (r ≠ 0 → (2 * r - 1) * (2 * r - 1) < x)
/-- g is no guess below n's root. -/
def Gs (n g : Int) : Prop := 0 ≤ g ∧ g ≤ 1125899906842624 ∧ n < (g + 1) * (g + 1)
/-- The guess behind g. -/
def nx (n g : Int) : Int := (g + (if g = 0 then 0 else n / g)) / 2

theorem sq_mono {a b : Int} (h0 : 0 ≤ a) (h : a ≤ b) : a * a ≤ b * b := Int.mul_le_mul h h h0 (by omega)
theorem sq_lt {a b : Int} (h0 : 0 ≤ b) (h : a * a < b * b) : a < b := by
  rcases Int.lt_or_le a b with g | g
  · exact g
  · have := sq_mono h0 g; omega
theorem sq_succ (a : Int) : (a + 1) * (a + 1) = a * a + 2 * a + 1 := by rw [Int.add_mul, Int.mul_add]; omega
theorem am_gm {a b c : Int} (ha : 0 ≤ a) (h : a + b ≤ 2 * c) : a * b ≤ c * c := by
  have h1 : a * b ≤ a * (2 * c - a) := Int.mul_le_mul_of_nonneg_left (by omega) ha
  have h2 : 0 ≤ (c - a) * (c - a) := by
    rcases Int.le_total 0 (c - a) with g | g
    · exact Int.mul_nonneg g g
    · exact Int.mul_nonneg_of_nonpos_of_nonpos g g
  have e1 : a * (2 * c - a) = 2 * (a * c) - a * a := by rw [Int.mul_sub, Int.mul_left_comm]
  have e2 : (c - a) * (c - a) = c * c - 2 * (a * c) + a * a := by
    rw [Int.sub_mul, Int.mul_sub, Int.mul_sub, Int.mul_comm c a]; omega
  omega
theorem quo_le {n g : Int} (hn : 0 ≤ n) (h0 : 0 < g) (h : n < (g + 1) * (g + 1)) : 0 ≤ n / g ∧ n / g ≤ g + 2 := by
  refine ⟨Int.ediv_nonneg hn (by omega), ?_⟩
  rw [sq_succ] at h
  refine Int.le_of_lt_add_one ((Int.ediv_lt_iff_lt_mul h0).mpr ?_)
  have : (g + 2 + 1) * g = g * g + 3 * g := by rw [Int.add_mul, Int.add_mul]; omega
  omega
theorem nx_gs {n g : Int} (hn : 0 ≤ n) (h : Gs n g) (k : nx n g < g) : Gs n (nx n g) := by
  obtain ⟨g0, g1, g2⟩ := h
  have gp : g ≠ 0 := by
    rintro rfl
    unfold nx at k
    simp at k
  have q := quo_le hn (show 0 < g by omega) g2
  have e : nx n g = (g + n / g) / 2 := by unfold nx; rw [if_neg gp]
  rw [e] at k ⊢
  have d := Int.mul_ediv_add_emod n g
  have r1 := Int.emod_lt_of_pos n (show 0 < g by omega)
  have a := am_gm (a := g) (b := n / g + 1) (c := (g + n / g) / 2 + 1) g0 (by omega)
  rw [Int.mul_add] at a
  exact ⟨by omega, by omega, by omega⟩
theorem nx_end {n g : Int} (hn : 0 ≤ n) (h : Gs n g) (k : ¬ nx n g < g) : Rt n g := by
  obtain ⟨g0, g1, g2⟩ := h
  refine ⟨g0, ?_, g2⟩
  by_cases gp : g = 0
  · subst gp; omega
  · have e : nx n g = (g + n / g) / 2 := by unfold nx; rw [if_neg gp]
    rw [e] at k
    have d := Int.mul_ediv_add_emod n g
    have r0 := Int.emod_nonneg n gp
    have := Int.mul_le_mul_of_nonneg_left (show g ≤ n / g by omega) g0
    omega
theorem nx_bd {n g : Int} (hn : 0 ≤ n) (h : Gs n g) : 0 ≤ nx n g ∧ nx n g ≤ 1125899906842625 ∧ (g ≠ 0 → 0 ≤ n / g ∧ n / g ≤ 1125899906842626) := by
  obtain ⟨g0, g1, g2⟩ := h
  by_cases gp : g = 0
  · subst gp
    unfold nx
    rw [if_pos rfl]
    exact ⟨by decide, by decide, fun h => absurd rfl h⟩
  · have q := quo_le hn (show 0 < g by omega) g2
    unfold nx
    rw [if_neg gp]
    exact ⟨by omega, by omega, fun _ => ⟨q.1, by omega⟩⟩
theorem rt_same {n s t : Int} (h : Rt n s) (k : Rt n t) : s = t := by
  obtain ⟨a, b, c⟩ := h
  obtain ⟨d, e, f⟩ := k
  have := sq_lt (a := s) (b := t + 1) (by omega) (by omega)
  have := sq_lt (a := t) (b := s + 1) (by omega) (by omega)
  omega
/-- The first guess. -/
theorem gs_first {n : Int} (hn : 0 ≤ n) (h : n < 633825300114114700748351602688) : bl n ≤ 99 ∧ Gs n (2 ^ ((bl n + 1) / 2)) := by
  have hU : U n := by rw [U_iff]; omega
  have b : bl n ≤ 99 := by
    refine Lib.bitLenAux_le 128 n.toNat 99 ?_
    have : (2 : Nat) ^ 99 = 633825300114114700748351602688 := by decide
    omega
  refine ⟨b, ?_⟩
  have lt : n < 2 ^ bl n := by
    by_cases h0 : n = 0
    · subst h0; decide
    · exact (bl_bd hU h0).2.2
  have p : (2 : Int) ^ ((bl n + 1) / 2) ≤ 2 ^ 50 := by have := Nat.pow_le_pow_right (show 0 < 2 by decide) (show (bl n + 1) / 2 ≤ 50 by omega); exact_mod_cast this
  have p0 : (0 : Int) < 2 ^ ((bl n + 1) / 2) := Int.pow_pos (by decide)
  have m : (2 : Int) ^ bl n ≤ 2 ^ ((bl n + 1) / 2) * 2 ^ ((bl n + 1) / 2) := by
    rw [← Int.pow_add]
    have := Nat.pow_le_pow_right (show 0 < 2 by decide) (show bl n ≤ (bl n + 1) / 2 + (bl n + 1) / 2 by omega); exact_mod_cast this
  generalize (2 : Int) ^ ((bl n + 1) / 2) = g at *
  refine ⟨by omega, by omega, ?_⟩
  rw [sq_succ]
  omega
/-- The last bit. -/
theorem nr_last {x s : Int} (h : Rt x s) : Nr x (if (2 * (s / 2) + 1) * (2 * (s / 2) + 1) < x then s / 2 + 1 else s / 2) := by
  obtain ⟨s0, s1, s2⟩ := h
  split
  · rename_i g
    have l := sq_mono (a := s + 1) (b := 2 * (s / 2 + 1) + 1) (by omega) (by omega)
    refine ⟨by omega, by omega, fun _ => ?_⟩
    rw [show 2 * (s / 2 + 1) - 1 = 2 * (s / 2) + 1 by omega]
    exact g
  · rename_i g
    refine ⟨by omega, by omega, fun h => ?_⟩
    have a := sq_succ (2 * (s / 2) - 1)
    rw [show 2 * (s / 2) - 1 + 1 = 2 * (s / 2) by omega] at a
    have := sq_mono (a := 2 * (s / 2)) (b := s) (by omega) (by omega)
    omega
theorem nr_same {x r t : Int} (h : Nr x r) (k : Nr x t) : r = t := by
  obtain ⟨a, b, c⟩ := h
  obtain ⟨d, e, f⟩ := k
  rcases Int.lt_trichotomy r t with g | g | g
  · have := f (by omega)
    have := sq_lt (a := 2 * t - 1) (b := 2 * r + 1) (by omega) (by omega)
    omega
  · exact g
  · have := c (by omega)
    have := sq_lt (a := 2 * r - 1) (b := 2 * t + 1) (by omega) (by omega)
    omega
theorem nr_mono {x y r t : Int} (h : Nr x r) (k : Nr y t) (l : x ≤ y) : r ≤ t := by
  obtain ⟨a, b, c⟩ := h
  obtain ⟨d, e, f⟩ := k
  rcases Int.lt_or_le t r with g | g
  · have := c (by omega)
    have := sq_lt (a := 2 * r - 1) (b := 2 * t + 1) (by omega) (by omega)
    omega
  · exact g
theorem nr_top {x r B : Int} (h : Nr x r) (hB : 0 ≤ B) (k : x ≤ (2 * B + 1) * (2 * B + 1)) : r ≤ B := by
  obtain ⟨a, b, c⟩ := h
  rcases Int.lt_or_le B r with g | g
  · have := c (by omega)
    have := sq_lt (a := 2 * r - 1) (b := 2 * B + 1) (by omega) (by omega)
    omega
  · exact g
/-- The root of 4 m^2. -/
theorem nr_square {m : Int} (h : 0 ≤ m) : Nr (4 * (m * m)) m := by
  have a := sq_succ (2 * m)
  have e : (2 * m) * (2 * m) = 4 * (m * m) := by rw [Int.mul_assoc, Int.mul_left_comm m 2 m]; omega
  refine ⟨h, by omega, fun g => ?_⟩
  have b := sq_succ (2 * m - 1)
  rw [show 2 * m - 1 + 1 = 2 * m by omega] at b
  omega
theorem nr_twice {x r t : Int} (h : Nr x r) (k : Nr (4 * x) t) : t - 2 * r ≤ 1 ∧ 2 * r - t ≤ 1 := by
  obtain ⟨a, b, c⟩ := h
  obtain ⟨d, e, f⟩ := k
  have q : ∀ y : Int, (2 * y) * (2 * y) = 4 * (y * y) := fun y => by rw [Int.mul_assoc, Int.mul_left_comm y 2 y]; omega
  constructor
  · by_cases g : t = 0
    · omega
    · have := f g
      have := q (2 * r + 1)
      have := sq_lt (a := 2 * t - 1) (b := 2 * (2 * r + 1)) (by omega) (by omega)
      omega
  · by_cases g : r = 0
    · omega
    · have := c g
      have := q (2 * r - 1)
      have := sq_lt (a := 2 * (2 * r - 1)) (b := 2 * t + 1) (by omega) (by omega)
      omega
theorem floor_is {x D t r : Int} (hD : 0 < D) (h : x = t * D + r) (h0 : 0 ≤ r) (h1 : r < D) : x / D = t := by
  rw [h, Int.add_comm, Int.add_mul_ediv_right _ _ (by omega), Int.ediv_eq_zero_of_lt h0 h1, Int.zero_add]
theorem dn_floor {x D : Int} (hx : 0 ≤ x) (hD : 0 < D) : dn x D = x / D := by
  have eD : ab D = D := by unfold ab; omega
  have ex : ab x = x := by unfold ab; omega
  have nD : ng D = false := by unfold ng; exact decide_eq_false (by omega)
  have nx : ng x = false := by unfold ng; exact decide_eq_false (by omega)
  unfold dn
  rw [eD, ex, nD, nx]
  simp [sd]
/-- n over d, rounded up. -/
def cl (n d : Int) : Int := -dn (-n) d
theorem cl_is {n d : Int} (hn : 0 ≤ n) (hd : 0 < d) : n ≤ cl n d * d ∧ (cl n d - 1) * d < n ∧ 0 ≤ cl n d ∧ cl n d ≤ n := by
  have eD : ab d = d := by unfold ab; omega
  have ex : ab (-n) = n := by unfold ab; omega
  have nD : ng d = false := by unfold ng; exact decide_eq_false (by omega)
  have e := Int.mul_ediv_add_emod n d
  have r0 := Int.emod_nonneg n (show d ≠ 0 by omega)
  have r1 := Int.emod_lt_of_pos n hd
  have q0 : 0 ≤ n / d := Int.ediv_nonneg hn (by omega)
  have q1 : n / d ≤ n := Int.ediv_le_self _ hn
  have v : cl n d = if n % d = 0 then n / d else n / d + 1 := by
    unfold cl dn
    rw [eD, ex, nD]
    by_cases h : n = 0
    · subst h
      have : ng (-0) = false := rfl
      rw [this]
      simp [sd]
    · have : ng (-n) = true := by unfold ng; exact decide_eq_true (by omega)
      rw [this]
      by_cases g : n % d = 0
      · simp [sd, g]
      · simp [sd, g]
  rw [v]
  have m := Int.mul_comm d (n / d)
  split
  · rename_i g
    refine ⟨by omega, ?_, q0, q1⟩
    rw [Int.sub_mul]
    omega
  · rename_i g
    refine ⟨?_, ?_, by omega, ?_⟩
    · rw [Int.add_mul]; omega
    · rw [Int.add_sub_cancel]; omega
    · have : n / d < n ∨ n / d = n := by omega
      rcases this with t | t
      · omega
      · exfalso
        have k := Int.mul_le_mul_of_nonneg_left (show 1 ≤ d by omega) q0
        rw [t] at k m e
        omega
/-- A greater divisor has no greater quotient. -/
theorem cl_mono {n a b : Int} (hn : 0 ≤ n) (ha : 0 < a) (h : a ≤ b) : cl n b ≤ cl n a := by
  have A := cl_is hn ha
  have B := cl_is hn (show 0 < b by omega)
  rcases Int.lt_or_le (cl n a) (cl n b) with g | g
  · have k := Int.mul_le_mul_of_nonneg_right (show cl n a ≤ cl n b - 1 by omega) (show 0 ≤ b by omega)
    have l := Int.mul_le_mul_of_nonneg_left h A.2.2.1
    omega
  · exact g
end Go.Proofs.Ytlfijpcpfepfbaa
namespace Go.Proofs.Ytlfijpcpfepfbaa
open Go.RowKit

theorem lowest_g (m : Int) {d : Nat} (hd : d ≠ 0) : ∃ g : Nat, g = Nat.gcd m.natAbs d ∧ 0 < g ∧ m.tdiv (g : Int) * g = m ∧ d / g * g = d := by
  refine ⟨_, rfl, Nat.gcd_pos_of_pos_right _ (by omega), ?_, Nat.div_mul_cancel (Nat.gcd_dvd_right _ _)⟩
  exact Int.tdiv_mul_cancel (Int.ofNat_dvd_left.mpr (Nat.gcd_dvd_left _ _))
theorem half_low {m : Int} {d : Nat} {a : Int} {c : Nat} (hd : d ≠ 0) (h : 2 * (m.natAbs) ≤ d) (ha : a = m.tdiv (Nat.gcd m.natAbs d : Nat)) (hc : c = d / Nat.gcd m.natAbs d) : 2 * a.natAbs ≤ c ∧ c ≠ 0 ∧ a.natAbs ≤ m.natAbs ∧ c ≤ d := by
  obtain ⟨g, hg, g0, e1, e2⟩ := lowest_g m hd
  rw [← hg] at ha hc
  rw [← ha] at e1
  rw [← hc] at e2
  have e3 : a.natAbs * g = m.natAbs := by rw [← e1, Int.natAbs_mul]; simp
  have k : (2 * a.natAbs) * g ≤ c * g := by rw [Nat.mul_assoc]; omega
  refine ⟨Nat.le_of_mul_le_mul_right k g0, ?_, ?_, ?_⟩
  · rintro rfl; omega
  · rw [← e3]; exact Nat.le_mul_of_pos_right _ g0
  · rw [← e2]; exact Nat.le_mul_of_pos_right _ g0
theorem pow_odd : ∀ (n : Nat) (m : Nat), m % 2 = 1 → m ∣ 2 ^ n → m = 1
  | 0, m, _, h => by simpa using h
  | n + 1, m, hm, h => by
    rw [Nat.pow_succ] at h
    have c : Nat.Coprime m 2 := by unfold Nat.Coprime; rw [Nat.gcd_comm, Nat.gcd_rec, hm]; rfl
    exact pow_odd n m hm (Nat.Coprime.dvd_of_dvd_mul_right c h)
theorem odd_gcd2 {m : Int} (h : m % 2 = 1) : Nat.gcd m.natAbs 2 = 1 := by
  rw [Nat.gcd_comm, Nat.gcd_rec, show m.natAbs % 2 = 1 by omega]; rfl
theorem odd_gcd4 {m : Int} (h : m % 2 = 1) : Nat.gcd m.natAbs 4 = 1 := by
  rw [Nat.gcd_comm, Nat.gcd_rec]
  rcases (show m.natAbs % 4 = 1 ∨ m.natAbs % 4 = 3 by omega) with g | g <;> rw [g] <;> rfl
theorem odd_make {m : Int} (h : m % 2 = 1) : m = m.tdiv (Nat.gcd m.natAbs 2 : Nat) ∧ 2 = 2 / Nat.gcd m.natAbs 2 := by
  rw [odd_gcd2 h]
  exact ⟨by simp, rfl⟩
theorem odd_sq {m : Int} (h : m % 2 = 1) : (m * m) % 2 = 1 := by
  rw [Int.mul_emod, h]; rfl
theorem rsq_facts {a M N x : Int} {k : Nat} (ha : 0 < a) (hM : M = 2 ^ k) (hN : N = 4 * M) (c1 : N ≤ x * a) (c2 : (x - 1) * a < N) : ∃ (P : Int) (Q : Nat), P = M.tdiv (Nat.gcd M.natAbs a.natAbs : Nat) ∧ Q = a.natAbs / Nat.gcd M.natAbs a.natAbs ∧ 0 ≤ P ∧ Q ≠ 0 ∧ (x - 1) * Q < 4 * P ∧ 4 * P ≤ x * Q ∧ (∀ j : Int, 0 ≤ j → (2 * j + 1) * (2 * j + 1) * Q = P * 4 → j = 0) ∧ P.natAbs ≤ M.natAbs ∧ Q ≤ a.natAbs := by
  have p0 : 0 < M := by rw [hM]; exact Int.pow_pos (by decide)
  obtain ⟨g, hg, g0, e1, e2⟩ := lowest_g M (d := a.natAbs) (by omega)
  rw [← hg]
  generalize M.tdiv (g : Int) = P at *
  generalize a.natAbs / g = Q at *
  have e2 : (Q : Int) * g = a := by have : ((Q * g : Nat) : Int) = (a.natAbs : Int) := by rw [e2]
                                    rw [Int.natCast_mul] at this; omega
  have g1 : (0 : Int) < g := by omega
  have P0 : 0 ≤ P := by
    rcases Int.lt_or_le P 0 with h | h
    · have := Int.mul_neg_of_neg_of_pos h g1; omega
    · exact h
  have Q0 : Q ≠ 0 := by rintro rfl; simp at e2; omega
  refine ⟨P, Q, rfl, rfl, P0, Q0, ?_, ?_, ?_, ?_, ?_⟩
  · refine Int.lt_of_mul_lt_mul_right (a := g) ?_ (by omega)
    rw [Int.mul_assoc, e2, Int.mul_assoc, e1]; omega
  · refine Int.le_of_mul_le_mul_right (a := g) ?_ g1
    rw [Int.mul_assoc, e1, Int.mul_assoc, e2]; omega
  · intro j j0 h
    have h2 : (2 * j + 1) * (2 * j + 1) * a = 2 ^ (k + 2) := by
      rw [← e2, ← Int.mul_assoc, h, Int.mul_right_comm, e1, hM, Int.pow_add]; rfl
    have d : (2 * j + 1) ∣ (2 : Int) ^ (k + 2) := ⟨(2 * j + 1) * a, by rw [← h2, Int.mul_assoc]⟩
    have d2 : (2 * j + 1).natAbs ∣ 2 ^ (k + 2) := by have := Int.natAbs_dvd_natAbs.mpr d; rwa [Int.natAbs_pow] at this
    have := pow_odd _ _ (by omega) d2
    omega
  · have : M.natAbs = P.natAbs * g := by rw [← e1, Int.natAbs_mul]; simp
    rw [this]; exact Nat.le_mul_of_pos_right _ g0
  · have : a.natAbs = Q * g := by omega
    rw [this]; exact Nat.le_mul_of_pos_right _ g0
theorem odd_make4 {m : Int} (h : m % 2 = 1) : m = m.tdiv (Nat.gcd m.natAbs 4 : Nat) ∧ 4 = 4 / Nat.gcd m.natAbs 4 := by
  rw [odd_gcd4 h]
  exact ⟨by simp, rfl⟩
/-- P over Q's root, rounded down, lies where? -/
theorem rt_quo {P Q s : Int} (hQ : 0 < Q) (hs : Rt (P / Q) s) : s * s * Q ≤ P ∧ P < (s + 1) * (s + 1) * Q := by
  obtain ⟨s0, s1, s2⟩ := hs
  have e := Int.mul_ediv_add_emod P Q
  have r0 := Int.emod_nonneg P (show Q ≠ 0 by omega)
  have r1 := Int.emod_lt_of_pos P hQ
  have a := Int.mul_le_mul_of_nonneg_right s1 (show 0 ≤ Q by omega)
  have b := Int.mul_le_mul_of_nonneg_right (show P / Q + 1 ≤ (s + 1) * (s + 1) by omega) (show 0 ≤ Q by omega)
  rw [Int.add_mul, Int.one_mul, Int.mul_comm (P / Q) Q] at b
  rw [Int.mul_comm (P / Q) Q] at a
  exact ⟨by omega, by omega⟩
/-- The half below the root: one more. -/
theorem near_up {P Q x s : Int} (hQ : 0 < Q) (h1 : (x - 1) * Q < 4 * P) (h2 : 4 * P ≤ x * Q) (hs : Rt (P / Q) s) (g : (2 * s + 1) * (2 * s + 1) * Q < P * 4) : Nr x (s + 1) := by
  obtain ⟨a, b⟩ := rt_quo hQ hs
  obtain ⟨s0, _, _⟩ := hs
  refine ⟨by omega, ?_, fun _ => ?_⟩
  · have k : (x - 1) * Q < (2 * (s + 1)) * (2 * (s + 1)) * Q := by
      have e : (2 * (s + 1)) * (2 * (s + 1)) * Q = 4 * ((s + 1) * (s + 1) * Q) := by
        generalize s + 1 = t
        rw [Int.mul_assoc 2 t, Int.mul_left_comm t 2 t, ← Int.mul_assoc, Int.mul_assoc]; omega
      omega
    have k2 := Int.lt_of_mul_lt_mul_right k (show 0 ≤ Q by omega)
    have := sq_mono (a := 2 * (s + 1)) (b := 2 * (s + 1) + 1) (by omega) (by omega)
    omega
  · have k : (2 * s + 1) * (2 * s + 1) * Q < x * Q := by omega
    have k2 := Int.lt_of_mul_lt_mul_right k (show 0 ≤ Q by omega)
    rw [show 2 * (s + 1) - 1 = 2 * s + 1 by omega]
    exact k2
/-- The half not below the root: it stays. -/
theorem near_stay {P Q x s : Int} (hQ : 0 < Q) (h1 : (x - 1) * Q < 4 * P) (h2 : 4 * P ≤ x * Q) (hs : Rt (P / Q) s) (g : P * 4 ≤ (2 * s + 1) * (2 * s + 1) * Q) : Nr x s := by
  obtain ⟨a, b⟩ := rt_quo hQ hs
  obtain ⟨s0, _, _⟩ := hs
  refine ⟨s0, ?_, fun g0 => ?_⟩
  · have k : (x - 1) * Q < (2 * s + 1) * (2 * s + 1) * Q := by omega
    have k2 := Int.lt_of_mul_lt_mul_right k (show 0 ≤ Q by omega)
    omega
  · have e : (2 * s) * (2 * s) * Q = 4 * (s * s * Q) := by
      rw [Int.mul_assoc 2 s, Int.mul_left_comm s 2 s, ← Int.mul_assoc, Int.mul_assoc]; omega
    have k : (2 * s) * (2 * s) * Q ≤ x * Q := by omega
    have k2 := Int.le_of_mul_le_mul_right k hQ
    have := sq_succ (2 * s - 1)
    rw [show 2 * s - 1 + 1 = 2 * s by omega] at this
    omega
/-- No half is a whole number's root. -/
theorem no_tie {P k : Int} : ¬ (2 * k + 1) * (2 * k + 1) * 1 = P * 4 := by
  intro h
  rw [Int.mul_one] at h
  have : ((2 * k + 1) * (2 * k + 1)) % 2 = 1 := odd_sq (by omega)
  omega
end Go.Proofs.Ytlfijpcpfepfbaa
namespace Go.Proofs.Ytlfijpcpfepfbaa
open Go.RowKit

theorem rd_whole (a : Int) {d : Int} (h : d ≠ 0) : rd (a * d) d = a := by
  have H := (half_math (a * d) d h).1
  generalize rd (a * d) d = q at *
  rw [← Int.sub_mul, Int.natAbs_mul] at H
  have H : 2 * ((a - q).natAbs * d.natAbs) ≤ 1 * d.natAbs := by omega
  rw [← Nat.mul_assoc] at H
  have := Nat.le_of_mul_le_mul_right H (show 0 < d.natAbs by omega)
  omega
theorem sg_at {a b : Int} (h : a ≤ b) : ¬ 0 < sg a b := by
  rcases Int.lt_or_eq_of_le h with g | g
  · rw [sg_lt g]; decide
  · rw [g, sg_eq]; decide
/-- A quotient's half. -/
theorem law_quo {a N b d : Int} (hb : b ≠ 0) (h : d = rd (a * N) b) : ¬ 0 < sg (((d * b - a * N).natAbs : Int) * 2 ^ 1) (b.natAbs : Int) := by
  refine sg_at ?_
  have H := (half_math (a * N) b hb).1
  rw [← h] at H
  omega
/-- What is left between a rounded quotient and the quotient in lowest terms. -/
theorem last_half {M X : Int} {D : Nat} (hD : D ≠ 0) (h : 2 * (M - X * D).natAbs ≤ D) : ∃ (P : Int) (Q : Nat) (m : Int), P = M.tdiv (Nat.gcd M.natAbs D : Nat) ∧ Q = D / Nat.gcd M.natAbs D ∧ m = X * ((Q : Nat) : Int) + (-P) * ((1 : Nat) : Int) ∧ Q ≠ 0 ∧ P.natAbs ≤ M.natAbs ∧ Q ≤ D ∧ 2 * m.natAbs ≤ Q := by
  obtain ⟨g, hg, g0, e1, e2⟩ := lowest_g M hD
  rw [← hg]
  generalize M.tdiv (g : Int) = P at *
  generalize D / g = Q at *
  have Q0 : Q ≠ 0 := by rintro rfl; simp at e2; omega
  refine ⟨P, Q, _, rfl, rfl, rfl, Q0, ?_, ?_, ?_⟩
  · have : M.natAbs = P.natAbs * g := by rw [← e1, Int.natAbs_mul]; simp
    rw [this]; exact Nat.le_mul_of_pos_right _ g0
  · rw [← e2]; exact Nat.le_mul_of_pos_right _ g0
  · have e3 : M - X * D = (P - X * Q) * g := by
      rw [Int.sub_mul, e1, Int.mul_assoc, ← e2, Int.natCast_mul]
    have e4 : (M - X * D).natAbs = (P - X * Q).natAbs * g := by rw [e3, Int.natAbs_mul]; simp
    rw [e4, ← e2, ← Nat.mul_assoc] at h
    have := Nat.le_of_mul_le_mul_right h g0
    have e5 : X * ((Q : Nat) : Int) + (-P) * ((1 : Nat) : Int) = -(P - X * Q) := by simp; omega
    rw [e5, Int.natAbs_neg]
    exact this
/-- A product's half, over a power of 2, in lowest terms. -/
theorem law_prod {M X : Int} {D : Nat} (hD : D ≠ 0) (h : X = rd M D) : ∃ (P : Int) (Q : Nat) (m : Int) (A : Int) (C : Nat), P = M.tdiv (Nat.gcd M.natAbs D : Nat) ∧ Q = D / Nat.gcd M.natAbs D ∧ m = X * ((Q : Nat) : Int) + (-P) * ((1 : Nat) : Int) ∧ Q ≠ 0 ∧ P.natAbs ≤ M.natAbs ∧ Q ≤ D ∧ m.natAbs ≤ D ∧ A = m.tdiv (Nat.gcd m.natAbs Q : Nat) ∧ C = Q / Nat.gcd m.natAbs Q ∧ A.natAbs ≤ D ∧ C ≤ D ∧ ¬ 0 < sg (((A.natAbs : Nat) : Int) * (2 : Nat)) (1 * ((C : Nat) : Int)) := by
  have H := (half_math M D (by omega)).1
  rw [← h] at H
  obtain ⟨P, Q, m, h1, h2, h3, h4, h5, h6, h7⟩ := last_half (M := M) (X := X) hD (by omega)
  have K := half_low h4 h7 rfl rfl
  exact ⟨P, Q, m, _, _, h1, h2, h3, h4, h5, h6, by omega, rfl, rfl, by omega, by omega, sg_at (by omega)⟩
end Go.Proofs.Ytlfijpcpfepfbaa
namespace Go.Proofs.Ytlfijpcpfepfbaa
open Go.RowKit

theorem sd_abs (s : Bool) (x : Int) : (sd s x).natAbs = x.natAbs := by cases s <;> simp [sd]
theorem ab_ab (d : Int) : ab (ab d) = ab d := by unfold ab; omega
theorem up_ab (n d : Int) : up n d = up n (ab d) := by unfold up; rw [ab_ab]
theorem rd_small {n d : Int} (hd : d ≠ 0) : (rd n d).natAbs ≤ n.natAbs := by
  have dp : 0 < ab d := by unfold ab; omega
  obtain ⟨q0, q1, q2⟩ := quo_small (n := n) dp
  have hu := up_rest (n := n) dp
  rw [← up_ab] at hu
  rw [ab_ab] at q0 q1 q2 hu
  unfold rd
  rw [sd_abs]
  have en : ab n = n.natAbs := rfl
  generalize ab n / ab d = q at *
  generalize ab n % ab d = r at *
  generalize ab n = A at *
  cases h : up n d with
  | true => have := q2 (hu h); simp only [if_true]; omega
  | false => simp only [Bool.false_eq_true, if_false]; omega
theorem rd_top {n d : Int} (h0 : -9223372036854775808 ≤ n) (h1 : n ≤ 9223372036854775807) (hd : d ≠ 0) (hs : isS (rd n d) = false) : n = -9223372036854775808 ∧ d = -1 := by
  have hs2 : ¬ (-9223372036854775808 ≤ rd n d ∧ rd n d ≤ 9223372036854775807) := by unfold isS at hs; exact of_decide_eq_false hs
  have sm := rd_small (n := n) hd
  have top : rd n d = 9223372036854775808 := by omega
  have hn : n = -9223372036854775808 := by omega
  refine ⟨hn, ?_⟩
  subst hn
  have dp : 0 < ab d := by unfold ab; omega
  have hu := up_rest (n := -9223372036854775808) dp
  rw [← up_ab, ab_ab] at hu
  have ea : ab (-9223372036854775808) = 9223372036854775808 := by decide
  unfold rd at top
  rw [ea] at top hu
  have nn : ng (-9223372036854775808) = true := by decide
  rw [nn] at top
  rcases (by omega : ab d = 1 ∨ 2 ≤ ab d) with h | h
  · rw [h, Int.ediv_one] at top
    rw [h, Int.emod_one] at hu
    cases hd2 : ng d with
    | true =>
      unfold ng at hd2
      have := of_decide_eq_true hd2
      unfold ab at h
      omega
    | false =>
      rw [hd2] at top
      cases hup : up (-9223372036854775808) d with
      | true => exact absurd rfl (hu hup)
      | false => rw [hup] at top; simp [sd] at top
  · have q1 : 9223372036854775808 / ab d ≤ 9223372036854775808 / 2 := by
      have r0 := Int.emod_nonneg 9223372036854775808 (show ab d ≠ 0 by omega)
      have e := Int.mul_ediv_add_emod 9223372036854775808 (ab d)
      have q0 : 0 ≤ 9223372036854775808 / ab d := Int.ediv_nonneg (by decide) (by omega)
      have : 2 * (9223372036854775808 / ab d) ≤ ab d * (9223372036854775808 / ab d) := Int.mul_le_mul_of_nonneg_right h q0
      omega
    have q0 : 0 ≤ 9223372036854775808 / ab d := Int.ediv_nonneg (by decide) (by omega)
    generalize 9223372036854775808 / ab d = q at *
    generalize (true != ng d) = s at *
    generalize up (-9223372036854775808) d = u at *
    cases s <;> cases u <;> simp [sd] at top <;> omega
end Go.Proofs.Ytlfijpcpfepfbaa
