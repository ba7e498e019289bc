/-
  Quotients told as words.
  Sums and differences of words.
  The statements' lists of package fx: what an element's cells hold.
  The small functions of package fx's statements.
  Closing, ratios, and the operations of words.
  Quotients by a divisor above 0: the rounded one is the lower one, or 1 more; both are wide numbers.
  Rounded quotients of words: half of the divisor away at most.
  Roots of whole numbers: Newton's steps, and the nearest word to a root.
  The nearest whole number to the root of a rational number, by its half; odd numbers over 2 and 4.
  FxLaws' arithmetic: whole quotients; a quotient's half, a product's half over a power of 2, in lowest terms.
  Rounded quotients of words: they are words, but for one.
  package reduce: sums, closed.
  package reduce: Sum, Mean.
  package reduce: Max.
  What ReduceTwice says, in numbers: sums by two axes, by none; greatest words.
  Products of matrices, in numbers: shapes, blocks, sums.
  package matmul: do two shapes fit, and what do they tell.
  package matmul: what two shapes tell.
  package matmul: the sums of one row with each column of a matrix.
  slices.Chunk over whole numbers, in as many chunks as go into the list: the iterator's contract.
  Products of matrices, row by row: what has been told when some rows are done.
  package matmul: Mul of two factors that fit.
  package matmul: Mul of what are no factors.
  package matmul: the axes of a turn.
  Words laid where indexes stand; which places are taken; plain mathematics.
  slices.Clone of words.
  The reference's views: which may be, axes, the plain one.
  view.Reshape; the reference's plain view.
  The view laws' own helpers: views held against one another, copied, written over, asked.
  Of the references that the laws of package view call: words copied and spoilt, where an index stands.
  The reference's Copy.
  What ReduceTurned says, in numbers: a table by columns, and turned by rows.
  Turns in numbers: what a turned tensor's words are, and turned twice.
  A told tensor's box is written: a row of another kind stands.
  The reference's copy of a tensor; words' signs; a tensor told by its words.
  Mul, whole: what it tells of any two tensors; and what the laws say, in numbers.
  Tensors: alike? spoilt; may they be?
  What each law of package matmul ends with: a product.
  package matmul: Turn of what cannot be turned.
  package matmul: Turn, of what can be turned.
  What MatmulTurns and MatmulBatches say, in numbers.
  The statements' counts of fraction bits.
  What the matmul laws' rounds want: told tensors by their lengths, cells of lists, powers of two.
  packages window and conv: what a convolution's numbers may be; one line of places.
  package window: a line and how many places it has.
-/
import Derived.LoopTactic
import Derived.BigQuiet
import Derived.Deep.QuietTactic
import Derived.RangeFuncNested
import Derived.RangeFuncBound
import Derived.RangeFuncCalls
import Derived.RangeFuncLeaves
import Derived.RangeFuncBox
import Derived.Shelf.Abstract
import Derived.Shelf.RegionOpen
import Derived.WalkKit
import Derived.OwnWalkIn
import Derived.TacticsInMore
import Derived.LoopNIn
import Derived.LoopIn
import Derived.Maps.AppendAt
import Derived.Deep.DeepBigQuietO
import Derived.Deep.RegionHeld3
import Derived.Test.YtnlfljekbknaaaaM01
import Derived.Test.YtnlfljekbknaaaaM02
import Derived.Test.YtnlfljekbknaaaaM03
import Derived.Test.YtnlfljekbknaaaaM04
namespace Go.Proofs.Ytnlfljekbknaaaa
open Go.RowKit

theorem isS_no {a : Int} (h : isS a = false) : ¬ (-9223372036854775808 ≤ a ∧ a ≤ 9223372036854775807) := by unfold isS at h; exact of_decide_eq_false h
set_option maxHeartbeats 2000000 in
/-- fx.nearest -/
theorem near_any (n d : Int) (w : World) (hn : R n) (hd : R d) (h0 : d ≠ 0) : Calls Try.prog 101 #[Wv n, Wv d] w fun e w' => e = .returned (.tuple #[.int .i64 (tw (rd n d)), .int .i64 (te (rd n d))]) ∧ Below w.heap.size w w' := by
  have RC := fun W : World => round_any n d W hn hd h0
  by_cases r : R (rd n d)
  · rw [told_in r, over_in r] at RC
    have RC := Lib.hid RC
    generalize rd n d = q at *
    clear hn hd h0 r
    cases g : isS q with
    | true =>
      have SC := fun W : World => small_any q W
      rw [g, show sm q = q from if_pos g] at SC
      have SC := Lib.hid SC
      have TC := Lib.hid (fun W : World => told_any q W)
      clear g
      go_enter Try.func101, Try.ntmps101
      go_wp2_with (first | (go_at_call 87; (with_reducible refine (RC.out _).mono ?_); rintro e w1 ⟨rfl, hb1⟩; have e10 : w1.cell? ⟨w.heap.size, 0, none⟩ = some (.int .i64 (hi n)) := cell_on hb1 (by first | (simp [go_sem, *]; done) | (simp [go_sem, World.cell?_alloc_some, *]; done) | fail); have e11 : w1.cell? ⟨w.heap.size, 1, none⟩ = some (.int .u64 (lo n)) := cell_on hb1 (by first | (simp [go_sem, *]; done) | (simp [go_sem, World.cell?_alloc_some, *]; done) | fail); have e12 : w1.cell? ⟨w.heap.size + 1, 0, none⟩ = some (.int .i64 (hi d)) := cell_on hb1 (by first | (simp [go_sem, *]; done) | (simp [go_sem, World.cell?_alloc_some, *]; done) | fail); have e13 : w1.cell? ⟨w.heap.size + 1, 1, none⟩ = some (.int .u64 (lo d)) := cell_on hb1 (by first | (simp [go_sem, *]; done) | (simp [go_sem, World.cell?_alloc_some, *]; done) | fail); have s10 : w.heap.size < w1.heap.size := World.block_lt_of_cell? _ _ e10; have t10 : w.heap.size < w1.heap.size + 1 := Nat.lt_succ_of_lt s10; have s12 : w.heap.size + 1 < w1.heap.size := World.block_lt_of_cell? _ _ e12; have t12 : w.heap.size + 1 < w1.heap.size + 1 := Nat.lt_succ_of_lt s12) | (go_at_call 88; (with_reducible refine (SC.out _).mono ?_); rintro e w2 ⟨rfl, hb2⟩; have e20 : w2.cell? ⟨w.heap.size, 0, none⟩ = some (.int .i64 (hi n)) := cell_on hb2 (by first | (simp [go_sem, *]; done) | (simp [go_sem, World.cell?_alloc_some, *]; done) | fail); have e21 : w2.cell? ⟨w.heap.size, 1, none⟩ = some (.int .u64 (lo n)) := cell_on hb2 (by first | (simp [go_sem, *]; done) | (simp [go_sem, World.cell?_alloc_some, *]; done) | fail); have e22 : w2.cell? ⟨w.heap.size + 1, 0, none⟩ = some (.int .i64 (hi d)) := cell_on hb2 (by first | (simp [go_sem, *]; done) | (simp [go_sem, World.cell?_alloc_some, *]; done) | fail); have e23 : w2.cell? ⟨w.heap.size + 1, 1, none⟩ = some (.int .u64 (lo d)) := cell_on hb2 (by first | (simp [go_sem, *]; done) | (simp [go_sem, World.cell?_alloc_some, *]; done) | fail); have s20 : w.heap.size < w2.heap.size := World.block_lt_of_cell? _ _ e20; have t20 : w.heap.size < w2.heap.size + 1 := Nat.lt_succ_of_lt s20; have s22 : w.heap.size + 1 < w2.heap.size := World.block_lt_of_cell? _ _ e22; have t22 : w.heap.size + 1 < w2.heap.size + 1 := Nat.lt_succ_of_lt s22) | (go_at_call 138; (with_reducible refine (TC.out _).mono ?_); rintro e w' ⟨rfl, rfl⟩))
      go_ret2
      refine ⟨rfl, ?_⟩
      repeat (first | exact Below.refl _ _ | assumption | apply Below.drew | refine Below.setCell ?_ (by first | omega | (simp; done) | (simp; omega)) _ | refine Below.alloc ?_ (by first | omega | (simp; done) | (simp; omega)) _ | refine Below.trans ?_ (hb2.mono (by first | omega | (simp; done) | (simp; omega))) | refine Below.trans ?_ (hb1.mono (by first | omega | (simp; done) | (simp; omega))))
    | false =>
      have SC := fun W : World => small_any q W
      rw [g, show sm q = 0 from if_neg (by simp [g])] at SC
      have SC := Lib.hid SC
      have gw : wd q = false := by
        have := isS_no g
        unfold wd; simp only [decide_eq_false_iff_not]; omega
      have H := Lib.hid (And.intro (tw_out gw) (te_out gw))
      clear g gw
      go_enter Try.func101, Try.ntmps101
      go_wp2_with (first | (go_at_call 87; (with_reducible refine (RC.out _).mono ?_); rintro e w1 ⟨rfl, hb1⟩; have e10 : w1.cell? ⟨w.heap.size, 0, none⟩ = some (.int .i64 (hi n)) := cell_on hb1 (by first | (simp [go_sem, *]; done) | (simp [go_sem, World.cell?_alloc_some, *]; done) | fail); have e11 : w1.cell? ⟨w.heap.size, 1, none⟩ = some (.int .u64 (lo n)) := cell_on hb1 (by first | (simp [go_sem, *]; done) | (simp [go_sem, World.cell?_alloc_some, *]; done) | fail); have e12 : w1.cell? ⟨w.heap.size + 1, 0, none⟩ = some (.int .i64 (hi d)) := cell_on hb1 (by first | (simp [go_sem, *]; done) | (simp [go_sem, World.cell?_alloc_some, *]; done) | fail); have e13 : w1.cell? ⟨w.heap.size + 1, 1, none⟩ = some (.int .u64 (lo d)) := cell_on hb1 (by first | (simp [go_sem, *]; done) | (simp [go_sem, World.cell?_alloc_some, *]; done) | fail); have s10 : w.heap.size < w1.heap.size := World.block_lt_of_cell? _ _ e10; have t10 : w.heap.size < w1.heap.size + 1 := Nat.lt_succ_of_lt s10; have s12 : w.heap.size + 1 < w1.heap.size := World.block_lt_of_cell? _ _ e12; have t12 : w.heap.size + 1 < w1.heap.size + 1 := Nat.lt_succ_of_lt s12) | (go_at_call 88; (with_reducible refine (SC.out _).mono ?_); rintro e w2 ⟨rfl, hb2⟩; have e20 : w2.cell? ⟨w.heap.size, 0, none⟩ = some (.int .i64 (hi n)) := cell_on hb2 (by first | (simp [go_sem, *]; done) | (simp [go_sem, World.cell?_alloc_some, *]; done) | fail); have e21 : w2.cell? ⟨w.heap.size, 1, none⟩ = some (.int .u64 (lo n)) := cell_on hb2 (by first | (simp [go_sem, *]; done) | (simp [go_sem, World.cell?_alloc_some, *]; done) | fail); have e22 : w2.cell? ⟨w.heap.size + 1, 0, none⟩ = some (.int .i64 (hi d)) := cell_on hb2 (by first | (simp [go_sem, *]; done) | (simp [go_sem, World.cell?_alloc_some, *]; done) | fail); have e23 : w2.cell? ⟨w.heap.size + 1, 1, none⟩ = some (.int .u64 (lo d)) := cell_on hb2 (by first | (simp [go_sem, *]; done) | (simp [go_sem, World.cell?_alloc_some, *]; done) | fail); have s20 : w.heap.size < w2.heap.size := World.block_lt_of_cell? _ _ e20; have t20 : w.heap.size < w2.heap.size + 1 := Nat.lt_succ_of_lt s20; have s22 : w.heap.size + 1 < w2.heap.size := World.block_lt_of_cell? _ _ e22; have t22 : w.heap.size + 1 < w2.heap.size + 1 := Nat.lt_succ_of_lt s22) | (go_at_call 138; (with_reducible refine (TC.out _).mono ?_); rintro e w' ⟨rfl, rfl⟩))
      go_ret2
      refine ⟨by rw [H.out.1, H.out.2] <;> rfl, ?_⟩
      repeat (first | exact Below.refl _ _ | assumption | apply Below.drew | refine Below.setCell ?_ (by first | omega | (simp; done) | (simp; omega)) _ | refine Below.alloc ?_ (by first | omega | (simp; done) | (simp; omega)) _ | refine Below.trans ?_ (hb2.mono (by first | omega | (simp; done) | (simp; omega))) | refine Below.trans ?_ (hb1.mono (by first | omega | (simp; done) | (simp; omega))))
  · have gw : wd (rd n d) = false := by
      rw [R_iff] at r
      unfold wd; simp only [decide_eq_false_iff_not]; omega
    have H := Lib.hid (And.intro (tw_out gw) (te_out gw))
    rw [told_out r, over_out r] at RC
    have RC := Lib.hid RC
    clear hn hd h0 r gw
    generalize rd n d = q at *
    go_enter Try.func101, Try.ntmps101
    go_wp2_with (first | (go_at_call 87; (with_reducible refine (RC.out _).mono ?_); rintro e w1 ⟨rfl, hb1⟩; have e10 : w1.cell? ⟨w.heap.size, 0, none⟩ = some (.int .i64 (hi n)) := cell_on hb1 (by first | (simp [go_sem, *]; done) | (simp [go_sem, World.cell?_alloc_some, *]; done) | fail); have e11 : w1.cell? ⟨w.heap.size, 1, none⟩ = some (.int .u64 (lo n)) := cell_on hb1 (by first | (simp [go_sem, *]; done) | (simp [go_sem, World.cell?_alloc_some, *]; done) | fail); have e12 : w1.cell? ⟨w.heap.size + 1, 0, none⟩ = some (.int .i64 (hi d)) := cell_on hb1 (by first | (simp [go_sem, *]; done) | (simp [go_sem, World.cell?_alloc_some, *]; done) | fail); have e13 : w1.cell? ⟨w.heap.size + 1, 1, none⟩ = some (.int .u64 (lo d)) := cell_on hb1 (by first | (simp [go_sem, *]; done) | (simp [go_sem, World.cell?_alloc_some, *]; done) | fail); have s10 : w.heap.size < w1.heap.size := World.block_lt_of_cell? _ _ e10; have t10 : w.heap.size < w1.heap.size + 1 := Nat.lt_succ_of_lt s10; have s12 : w.heap.size + 1 < w1.heap.size := World.block_lt_of_cell? _ _ e12; have t12 : w.heap.size + 1 < w1.heap.size + 1 := Nat.lt_succ_of_lt s12) | (go_at_call 88; (with_reducible refine (SC.out _).mono ?_); rintro e w2 ⟨rfl, hb2⟩; have e20 : w2.cell? ⟨w.heap.size, 0, none⟩ = some (.int .i64 (hi n)) := cell_on hb2 (by first | (simp [go_sem, *]; done) | (simp [go_sem, World.cell?_alloc_some, *]; done) | fail); have e21 : w2.cell? ⟨w.heap.size, 1, none⟩ = some (.int .u64 (lo n)) := cell_on hb2 (by first | (simp [go_sem, *]; done) | (simp [go_sem, World.cell?_alloc_some, *]; done) | fail); have e22 : w2.cell? ⟨w.heap.size + 1, 0, none⟩ = some (.int .i64 (hi d)) := cell_on hb2 (by first | (simp [go_sem, *]; done) | (simp [go_sem, World.cell?_alloc_some, *]; done) | fail); have e23 : w2.cell? ⟨w.heap.size + 1, 1, none⟩ = some (.int .u64 (lo d)) := cell_on hb2 (by first | (simp [go_sem, *]; done) | (simp [go_sem, World.cell?_alloc_some, *]; done) | fail); have s20 : w.heap.size < w2.heap.size := World.block_lt_of_cell? _ _ e20; have t20 : w.heap.size < w2.heap.size + 1 := Nat.lt_succ_of_lt s20; have s22 : w.heap.size + 1 < w2.heap.size := World.block_lt_of_cell? _ _ e22; have t22 : w.heap.size + 1 < w2.heap.size + 1 := Nat.lt_succ_of_lt s22) | (go_at_call 138; (with_reducible refine (TC.out _).mono ?_); rintro e w' ⟨rfl, rfl⟩))
    go_ret2
    refine ⟨by rw [H.out.1, H.out.2] <;> rfl, ?_⟩
    repeat (first | exact Below.refl _ _ | assumption | apply Below.drew | refine Below.setCell ?_ (by first | omega | (simp; done) | (simp; omega)) _ | refine Below.alloc ?_ (by first | omega | (simp; done) | (simp; omega)) _ | refine Below.trans ?_ (hb1.mono (by first | omega | (simp; done) | (simp; omega))))
end Go.Proofs.Ytnlfljekbknaaaa
namespace Go.Proofs.Ytnlfljekbknaaaa
open Go.RowKit










end Go.Proofs.Ytnlfljekbknaaaa
namespace Go.Proofs.Ytnlfljekbknaaaa
open Go.RowKit

/-- An element: two words (or not), fraction bits (or not), two numbers, a wide one, a count. -/
structure Fl where
  a : Int
  b : Int
  f : Int
  n : Int
  d : Int
  v : Int
  k : Int
def Fl.ok (e : Fl) : Prop := (-9223372036854775808 ≤ e.a ∧ e.a ≤ 9223372036854775807) ∧ (-9223372036854775808 ≤ e.b ∧ e.b ≤ 9223372036854775807) ∧ (-9223372036854775808 ≤ e.f ∧ e.f ≤ 9223372036854775807) ∧ (-9223372036854775808 ≤ e.n ∧ e.n ≤ 9223372036854775807) ∧ (-9223372036854775808 ≤ e.d ∧ e.d ≤ 9223372036854775807) ∧ R e.v ∧ (-9223372036854775808 ≤ e.k ∧ e.k ≤ 9223372036854775807)
/-- Its eight cells. -/
def FlAt (w : World) (b o : Nat) (e : Fl) : Prop :=
  w.cell? ⟨b, o, none⟩ = some (.int .i64 e.a) ∧ w.cell? ⟨b, o + 1, none⟩ = some (.int .i64 e.b) ∧ w.cell? ⟨b, o + 2, none⟩ = some (.int .i64 e.f) ∧ w.cell? ⟨b, o + 3, none⟩ = some (.int .i64 e.n) ∧ w.cell? ⟨b, o + 4, none⟩ = some (.int .i64 e.d) ∧ w.cell? ⟨b, o + 5, none⟩ = some (.int .i64 (hi e.v)) ∧ w.cell? ⟨b, o + 6, none⟩ = some (.int .u64 (lo e.v)) ∧ w.cell? ⟨b, o + 7, none⟩ = some (.int .i64 e.k)
theorem FlAt.below {w w' : World} {B b o : Nat} {e : Fl} (h : FlAt w b o e) (hb : Below B w w') (hB : b < B) : FlAt w' b o e := by
  obtain ⟨h1, h2, h3, h4, h5, h6, h7, h8⟩ := h
  exact ⟨(hb.cell (p := ⟨b, o, none⟩) hB).trans h1, (hb.cell (p := ⟨b, o + 1, none⟩) hB).trans h2, (hb.cell (p := ⟨b, o + 2, none⟩) hB).trans h3, (hb.cell (p := ⟨b, o + 3, none⟩) hB).trans h4, (hb.cell (p := ⟨b, o + 4, none⟩) hB).trans h5, (hb.cell (p := ⟨b, o + 5, none⟩) hB).trans h6, (hb.cell (p := ⟨b, o + 6, none⟩) hB).trans h7, (hb.cell (p := ⟨b, o + 7, none⟩) hB).trans h8⟩
end Go.Proofs.Ytnlfljekbknaaaa
namespace Go.Proofs.Ytnlfljekbknaaaa
open Go.RowKit

end Go.Proofs.Ytnlfljekbknaaaa
namespace Go.Proofs.Ytnlfljekbknaaaa
open Go.RowKit

theorem R_pow {n : Nat} (h : n ≤ 126) : R (2 ^ n) := by
  have : (2 : Int) ^ n ≤ 2 ^ 126 := by have := Nat.pow_le_pow_right (show 0 < 2 by decide) h; exact_mod_cast this
  have : (0 : Int) < 2 ^ n := Int.pow_pos (by decide)
  rw [R_iff]
  omega
theorem pow_ne (n : Nat) : (2 : Int) ^ n ≠ 0 := by have : (0 : Int) < 2 ^ n := Int.pow_pos (by decide); omega
set_option maxRecDepth 100000 in
set_option maxHeartbeats 2000000 in
/-- fx.Close -/
theorem close_any (a : Int) (n : Nat) (w : World) (ha : R a) (h1 : n ≤ 126) : Calls Try.prog 58 #[Wv a, .int .i64 n] w fun e w' => e = .returned (.tuple #[.int .i64 (tw (rd a (2 ^ n))), .int .i64 (te (rd a (2 ^ n)))]) ∧ Below w.heap.size w w' := by
  have LC := fun W : World => shl_any 1 n W (by decide) h1
  have NC := Lib.hid (fun W : World => near_any a (2 ^ n) W ha (R_pow h1) (pow_ne n))
  rw [Int.one_mul, told_in (R_pow h1), over_in (R_pow h1)] at LC
  have LC := Lib.hid LC
  have F1 := Lib.hid (fun W : World => from_at 1 W (by decide) (by decide))
  clear ha h1
  generalize tw (rd a (2 ^ n)) = q at *
  generalize te (rd a (2 ^ n)) = g at *
  generalize (2 : Int) ^ n = t at *
  go_enter Try.func58, Try.ntmps58
  go_wp2_with (first | (go_at_call 67; (with_reducible refine (F1.out _).mono ?_); rintro e w' ⟨rfl, rfl⟩) | (go_at_call 100; (with_reducible refine (LC.out _).mono ?_); rintro e w1 ⟨rfl, hb1⟩; have e10 : w1.cell? ⟨w.heap.size, 0, none⟩ = some (.int .i64 (hi a)) := cell_on hb1 (by first | (simp [go_sem, *]; done) | (simp [go_sem, World.cell?_alloc_some, *]; done) | fail); have e11 : w1.cell? ⟨w.heap.size, 1, none⟩ = some (.int .u64 (lo a)) := cell_on hb1 (by first | (simp [go_sem, *]; done) | (simp [go_sem, World.cell?_alloc_some, *]; done) | fail); have s10 : w.heap.size < w1.heap.size := World.block_lt_of_cell? _ _ e10; have t10 : w.heap.size < w1.heap.size + 1 := Nat.lt_succ_of_lt s10) | (go_at_call 101; (with_reducible refine (NC.out _).mono ?_); rintro e w2 ⟨rfl, hb2⟩; have e20 : w2.cell? ⟨w.heap.size, 0, none⟩ = some (.int .i64 (hi a)) := cell_on hb2 (by first | (simp [go_sem, *]; done) | (simp [go_sem, World.cell?_alloc_some, *]; done) | fail); have e21 : w2.cell? ⟨w.heap.size, 1, none⟩ = some (.int .u64 (lo a)) := cell_on hb2 (by first | (simp [go_sem, *]; done) | (simp [go_sem, World.cell?_alloc_some, *]; done) | fail); have s20 : w.heap.size < w2.heap.size := World.block_lt_of_cell? _ _ e20; have t20 : w.heap.size < w2.heap.size + 1 := Nat.lt_succ_of_lt s20))
  go_ret2
  refine ⟨rfl, ?_⟩
  repeat (first | exact Below.refl _ _ | assumption | apply Below.drew | refine Below.setCell ?_ (by first | omega | (simp; done) | (simp; omega)) _ | refine Below.alloc ?_ (by first | omega | (simp; done) | (simp; omega)) _ | refine Below.trans ?_ (hb2.mono (by first | omega | (simp; done) | (simp; omega))) | refine Below.trans ?_ (hb1.mono (by first | omega | (simp; done) | (simp; omega))))
end Go.Proofs.Ytnlfljekbknaaaa
namespace Go.Proofs.Ytnlfljekbknaaaa
open Go.RowKit

end Go.Proofs.Ytnlfljekbknaaaa
namespace Go.Proofs.Ytnlfljekbknaaaa
open Go.RowKit

end Go.Proofs.Ytnlfljekbknaaaa
namespace Go.Proofs.Ytnlfljekbknaaaa
open Go.RowKit

/-- n over d, rounded up. -/
def cl (n d : Int) : Int := -dn (-n) d
end Go.Proofs.Ytnlfljekbknaaaa
namespace Go.Proofs.Ytnlfljekbknaaaa
open Go.RowKit

end Go.Proofs.Ytnlfljekbknaaaa
namespace Go.Proofs.Ytnlfljekbknaaaa
open Go.RowKit

end Go.Proofs.Ytnlfljekbknaaaa
namespace Go.Proofs.Ytnlfljekbknaaaa
open Go.RowKit

end Go.Proofs.Ytnlfljekbknaaaa
namespace Go.Proofs.Ytnlfljekbknaaaa
open Go Go.RowKit Go.Shelf

end Go.Proofs.Ytnlfljekbknaaaa
namespace Go.Proofs.Ytnlfljekbknaaaa
open Go Go.RowKit Go.Shelf

end Go.Proofs.Ytnlfljekbknaaaa
namespace Go.Proofs.Ytnlfljekbknaaaa
open Go Go.RowKit Go.Shelf
attribute [local go_sem] Oper.semAt_some

end Go.Proofs.Ytnlfljekbknaaaa
namespace Go.Proofs.Ytnlfljekbknaaaa

end Go.Proofs.Ytnlfljekbknaaaa
namespace Go.Proofs.Ytnlfljekbknaaaa

theorem take_getD {a : List Int} {k n : Nat} (h : k < n) : (a.take n).getD k 0 = a.getD k 0 := by
  simp only [List.getD, List.getElem?_take_of_lt h]
/-- One word's exact sum: row r of all rows, column j of matrix x. -/
def mS (da db : List Int) (D C x r j : Nat) : Int := smA (fun k => da.getD (r * D + k) 0 * db.getD (x * (D * C) + (k * C + j)) 0) D
/-- That of the n-th word. -/
def mN (da db : List Int) (D C Rb n : Nat) : Int := mS da db D C (n / C / Rb) (n / C) (n % C)
theorem smA_bd {d : Nat → Int} {B : Int} (h0 : 0 ≤ B) : ∀ {n : Nat}, (∀ k, k < n → -B ≤ d k ∧ d k ≤ B) → -(B * n) ≤ smA d n ∧ smA d n ≤ B * n
  | 0, _ => by show -(B * (0 : Nat)) ≤ (0 : Int) ∧ (0 : Int) ≤ B * (0 : Nat); simp
  | n + 1, h => by
    have ih := smA_bd h0 (n := n) (fun k hk => h k (by omega))
    have hn := h n (by omega)
    have e : B * ((n + 1 : Nat) : Int) = B * n + B := by push_cast; rw [Int.mul_add, Int.mul_one]
    show -(B * ((n + 1 : Nat) : Int)) ≤ smA d n + d n ∧ smA d n + d n ≤ B * ((n + 1 : Nat) : Int)
    rw [e]; omega
/-- A product of two words. -/
theorem word_mul {x y : Int} (hx : wd x = true) (hy : wd y = true) : -19807040628566084398385987584 ≤ x * y ∧ x * y ≤ 19807040628566084398385987584 := by
  have h1 := wd_bd hx
  have h2 := wd_bd hy
  have h3 : (x * y).natAbs ≤ 140737488355328 * 140737488355328 := by
    rw [Int.natAbs_mul]; exact Nat.mul_le_mul (by omega) (by omega)
  omega
end Go.Proofs.Ytnlfljekbknaaaa
namespace Go.Proofs.Ytnlfljekbknaaaa
open Go Go.RowKit Go.Shelf

theorem run_to {P : Program} {t e : TypeId} {i : TypeInfo} (hu : P.underlying t = some (.slice e)) (hi : P.info? e = some i) (o : Option Addr) (L c n : Nat) (h : n ≤ c) (wx : World) :
    (Instr.slice t (.slice o L c) none (some (.int .i64 (n : Int))) none).run P wx = .ok (.slice o n c) wx := by
  have a1 : (0 : Int) ≤ (n : Int) ∧ (n : Int) ≤ (c : Int) := by omega
  have hm : (o.map fun x : Addr => x.add 0) = o := by
    cases o with
    | none => rfl
    | some x => simp [Addr.add]
  simp [Instr.slice, run_underlying hu, Instr.sliceBounds, Instr.sliceBound, asIntOf, sizeOf, typeInfo, hi, a1.1, hm]
  intro q; omega
theorem run_on {P : Program} {t e : TypeId} {i : TypeInfo} (hu : P.underlying t = some (.slice e)) (hi : P.info? e = some i) (hs : i.size = 1) (g f L c n : Nat) (h : n ≤ L) (hc : n < c) (wx : World) :
    (Instr.slice t (.slice (some ⟨g, f, none⟩) L c) (some (.int .i64 (n : Int))) none none).run P wx = .ok (.slice (some ⟨g, f + n, none⟩) (L - n) (c - n)) wx := by
  have a1 : (0 : Int) ≤ (n : Int) ∧ (n : Int) ≤ (L : Int) := by omega
  have a2 : ¬ c = n := by omega
  simp [Instr.slice, run_underlying hu, Instr.sliceBounds, Instr.sliceBound, asIntOf, sizeOf, typeInfo, hi, hs, a1.1, a2, Addr.add]
  rw [if_pos h]
  by_cases q : n = 0
  · subst q; simp
  · rw [if_neg q]
end Go.Proofs.Ytnlfljekbknaaaa
namespace Go.Proofs.Ytnlfljekbknaaaa
open Go Go.RowKit Go.Shelf

end Go.Proofs.Ytnlfljekbknaaaa
namespace Go.Proofs.Ytnlfljekbknaaaa
open Go Go.RowKit Go.Shelf

/-- Column j's sum when k words of the row are counted. -/
def cS (rl ml : List Int) (C k j : Nat) : Int := smA (fun i => rl.getD i 0 * ml.getD (i * C + j) 0) k
theorem mulb_any (x y : Int) (w : World) (hx : wd x = true) (hy : wd y = true) : Calls Try.prog 103 #[.int .i64 x, .int .i64 y] w fun e w' => e = .returned (Wv (x * y)) ∧ Below w.heap.size w w' := by
  have h1 := wd_bd hx
  have h2 := wd_bd hy
  refine (mul_any x y w (by omega) (by omega) (by omega) (by omega)).mono fun e w' hh => ?_
  obtain ⟨rfl, rfl⟩ := hh
  exact ⟨rfl, (Below.refl _ _).alloc (Nat.le_refl _) _⟩

end Go.Proofs.Ytnlfljekbknaaaa
namespace Go.Proofs.Ytnlfljekbknaaaa
open Go Go.RowKit Go.Shelf
attribute [local go_sem] Oper.semAt_some

/-- The first j places. -/
def cks {N : Nat} : (j : Nat) → j ≤ N → List (Fin N)
  | 0, _ => []
  | j + 1, h => cks j (by omega) ++ [⟨j, h⟩]
theorem cks_len {N : Nat} : ∀ (j : Nat) (h : j ≤ N), (cks j h).length = j
  | 0, _ => rfl
  | j + 1, h => by simp [cks, cks_len j]
/-- What a round must keep: the two boxes. -/
def Kp2 (B1 B2 : Nat) (W W' : World) : Prop := W'.heap[B1]? = W.heap[B1]? ∧ W'.heap[B2]? = W.heap[B2]?
theorem Kp2.refl (B1 B2 : Nat) (W : World) : Kp2 B1 B2 W W := ⟨rfl, rfl⟩
theorem Kp2.trans {B1 B2 : Nat} {a b c : World} (h : Kp2 B1 B2 a b) (k : Kp2 B1 B2 b c) : Kp2 B1 B2 a c := ⟨k.1.trans h.1, k.2.trans h.2⟩
theorem Kp2.put {B1 B2 : Nat} {w : World} (h1 : B1 < w.heap.size) (h2 : B2 < w.heap.size) (W : World) (l : Nat) (o o' : Obj) (hl : w.heap.size ≤ l) (_ : W.heap[l]? = some o) (_ : o.isCells = false) (_ : o.isWalk = false) : Kp2 B1 B2 W (W.putObj l o') :=
  ⟨World.putObj_heap_other (by omega), World.putObj_heap_other (by omega)⟩
theorem Kp2.c1 {B1 B2 : Nat} {W W' : World} (h : Kp2 B1 B2 W W') : W'.cell? ⟨B1, 0, none⟩ = W.cell? ⟨B1, 0, none⟩ := by simp [World.cell?, h.1]
theorem Kp2.c2 {B1 B2 : Nat} {W W' : World} (h : Kp2 B1 B2 W W') : W'.cell? ⟨B2, 0, none⟩ = W.cell? ⟨B2, 0, none⟩ := by simp [World.cell?, h.2]
theorem run_mid {P : Program} {t e : TypeId} {i : TypeInfo} (hu : P.underlying t = some (.slice e)) (hi : P.info? e = some i) (hs : i.size = 1) (g f L c a m : Nat) (h : a + m ≤ c) (hm : 1 ≤ m) (wx : World) :
    (Instr.slice t (.slice (some ⟨g, f, none⟩) L c) (some (.int .i64 (a : Int))) (some (.int .i64 ((a : Int) + (m : Int)))) (some (.int .i64 ((a : Int) + (m : Int))))).run P wx = .ok (.slice (some ⟨g, f + a, none⟩) m m) wx := by
  have a1 : (0 : Int) ≤ (a : Int) + (m : Int) ∧ (a : Int) + (m : Int) ≤ (c : Int) := by omega
  have a2 : (a : Int) ≤ (a : Int) + (m : Int) := by omega
  have a3 : (0 : Int) ≤ (a : Int) := by omega
  have a4 : ((a : Int) + (m : Int)).toNat = a + m := by omega
  have a5 : ¬ a + m = a := by omega
  simp [Instr.slice, run_underlying hu, Instr.sliceBounds, Instr.sliceBound, asIntOf, sizeOf, typeInfo, hi, hs, a1.1, a1.2, Addr.add]
  have a6 : (a : Int) + (m : Int) ≤ max ((a : Int) + (m : Int)) 0 := by omega
  simp only [a4, a5, if_false]
  rw [if_pos a6, if_pos a2, Nat.add_sub_cancel_left]
  by_cases q : a = 0
  · subst q; simp
  · rw [if_neg q]
/-- A drawn region outside all rounds, at the wide fence: one frame is left. -/
theorem reg_wide {P : Program} {n id : Nat} {ops : Array Oper} {a F : Act} {W : World} {K : Exit → Act → World → Prop} {T : World → Prop} (h : (Code.region id ops true).wp P (fun e a2 W2 => e = .normal ∧ a2 = F ∧ T W2) a W) (hk : ∀ W2, T W2 → K .normal F W2) : (Code.region id ops true).wpIn Fence.wide n P K a W := by
  refine wpIn_mono (wpIn_wide.2 h) ?_
  rintro e a3 W3 ⟨rfl, rfl, h3⟩
  exact hk _ h3
/-- The chunk that the body is told. -/
def pck {N : Nat} (b f m : Nat) (x : Fin N) : Array Value := #[.slice (some ⟨b, f + x.1 * m, none⟩) m m]

set_option maxRecDepth 100000 in
set_option maxHeartbeats 4000000 in
theorem chunk1_in (n : Nat) (hn : 1 ≤ n) (l B1 B2 b f m N c : Nat) (hm : 1 ≤ m) (hNm : N * m ≤ 65536) (hc : N * m ≤ c) (J Jx : List (Fin N) → World → Prop)
    (hY : ∀ pre x W, J pre W → pre.length < N → YieldAt Fence.wide (n - 1) Try.prog l (pck b f m x) W fun e W' =>
      (e = .returned (.bool true) ∧ J (pre ++ [x]) W' ∧ Kp2 B1 B2 W W') ∨ (e = .returned (.bool false) ∧ Jx (pre ++ [x]) W'))
    (W : World) (hJa : AbidesFrom W.heap.size J) (h1 : W.cell? ⟨B1, 0, none⟩ = some (.slice (some ⟨b, f, none⟩) (N * m) c)) (h2 : W.cell? ⟨B2, 0, none⟩ = some (.int .i64 (m : Nat))) (h0 : J [] W) :
    CallsIn Fence.wide n Try.prog 99 #[.func (.yield l) #[] #[], .pointer (some ⟨B1, 0, none⟩), .pointer (some ⟨B2, 0, none⟩)] W fun e W' => (∃ v, e = .returned v) ∧
      ((∃ ys, ys = cks N (Nat.le_refl N) ∧ J ys W') ∨ (∃ pre, (∃ (j : Nat) (hj : j ≤ N), pre = cks j hj) ∧ Jx pre W')) := by
  obtain ⟨i1, hi1, hy0, hy1, hy2⟩ := info_parts infoW
  obtain ⟨NM, hNM⟩ : ∃ NM, NM = N * m := ⟨_, rfl⟩
  rw [← hNM] at hNm hc h1
  have HNM := Lib.hid hNM
  clear hNM
  refine callsIn_of_wp Try.func99 rfl trivial ?_ rfl
  simp only [Try.ntmps99, List.size_toArray, List.length_cons, List.length_nil, Nat.reduceAdd, Nat.reduceSub, Array.replicate_succ, Array.replicate_zero, List.push_toArray, List.append_toArray, List.nil_append, List.cons_append]
  have HC := Lib.hid (And.intro h1 h2)
  clear h1 h2
  gi_wp2
  gi_loopw [4] (fun s4 wQ => ∃ (j JM : Nat) (hj : j ≤ N), s4 = .int .i64 (JM : Nat) ∧ JM ≤ NM ∧ Hid (JM = j * m) ∧ J (cks j hj) wQ ∧ Hid (wQ.cell? ⟨B1, 0, none⟩ = some (.slice (some ⟨b, f, none⟩) NM c) ∧ wQ.cell? ⟨B2, 0, none⟩ = some (.int .i64 (m : Nat)))) (fun s4 _ => NM - (intOf s4).toNat)
  case atStart => exact ⟨0, 0, Nat.zero_le _, rfl, Nat.zero_le _, Lib.hid (by simp), h0, HC⟩
  case round =>
    obtain ⟨j, JM, hj, rfl, hJN, HJ, hJs, hK⟩ := hrel
    obtain ⟨k1, k2⟩ := hK.out
    by_cases hlt : j < N
    · have hJ1 : JM + m ≤ NM := by
        rw [HJ.out, HNM.out]
        have : (j + 1) * m ≤ N * m := Nat.mul_le_mul_right m hlt
        rwa [Nat.add_mul, Nat.one_mul] at this
      have HY : Hid (∀ w2, J (cks j hj) w2 → YieldAt Fence.wide (n - 1) Try.prog l #[.slice (some ⟨b, f + JM, none⟩) m m] w2 fun e W' => (e = .returned (.bool true) ∧ J (cks (j + 1) hlt) W' ∧ Kp2 B1 B2 w2 W') ∨ (e = .returned (.bool false) ∧ Jx (cks (j + 1) hlt) W')) := Lib.hid (fun w2 h => by
        have h2 := hY (cks j hj) ⟨j, hlt⟩ w2 h (by rw [cks_len]; exact hlt)
        rwa [show pck b f m (⟨j, hlt⟩ : Fin N) = #[.slice (some ⟨b, f + JM, none⟩) m m] by unfold pck; rw [HJ.out]] at h2)
      have HD : Hid (∀ q, J (cks j hj) (wr.drewN q)) := Lib.hid (fun q => by
        have hB := below_drw (Below.refl wr.heap.size wr) q
        exact hJa _ wr _ none hJs ⟨hB.os, hB.tape, hB.output, hB.size, fun k hk _ => hB.block k hk⟩ (fun r e => by cases e))
      have HJ1 : Hid (JM + m = (j + 1) * m) := Lib.hid (by rw [HJ.out, Nat.add_mul, Nat.one_mul])
      have hs1 := fun wx : World => run_on (P := Try.prog) (t := 24) Try.underlying24 hi1 hy1 b f NM c JM (by omega) (by omega) wx
      have hs2 := fun wx : World => run_mid (P := Try.prog) (t := 24) Try.underlying24 hi1 hy1 b f NM c JM m (by omega) hm wx
      have g1 : (JM : Int) < (NM : Int) := by omega
      have g2 : ¬ ((NM - JM : Nat) : Int) < (m : Int) := by omega
      have g3 : (m : Int) ≤ ((NM - JM : Nat) : Int) := by omega
      have hmin : min (m : Int) ((NM - JM : Nat) : Int) = (m : Int) := by omega
      gi_wp2
      refine' reg_wide (T := fun W2 => ∃ q, W2 = wr.drewN q) ?_ ?_
      rotate_left
      · go_quiet (fail)
        exact ⟨rfl, rfl, _, rfl⟩
      rintro W2 ⟨nq, rfl⟩
      have hJq := HD.out nq
      obtain ⟨wd, hwd⟩ : ∃ wd, wd = wr.drewN nq := ⟨_, rfl⟩
      have k3 : wd.cell? ⟨B1, 0, none⟩ = some (.slice (some ⟨b, f, none⟩) NM c) := by rw [hwd]; exact k1
      have k4 : wd.cell? ⟨B2, 0, none⟩ = some (.int .i64 (m : Nat)) := by rw [hwd]; exact k2
      rw [← hwd] at hJq ⊢
      obtain ⟨fn, tmps, assign, body, hy, hR⟩ := HY.out wd hJq
      have hK3 := Lib.hid (And.intro k3 k4)
      clear hwd k1 k2 hs1 g2 g3 HD hK HY
      gi_wp2
      refine hR.mono ?_
      rintro e W3 (⟨rfl, hJ3, hk3⟩ | ⟨rfl, hJx3⟩)
      · have c1 := (hk3.c1).trans hK3.out.1
        have c2 := (hk3.c2).trans hK3.out.2
        have HC3 := Lib.hid (And.intro c1 c2)
        gi_wp2
        go_roundw
        case rel => exact ⟨j + 1, JM + m, hlt, by go_num, hJ1, HJ1, hJ3, HC3⟩
        case measure => simp [intOf]; omega
      · gi_wp2
        refine bodyPost_ret (results_none rfl _ _ _) rfl ?_
        exact ⟨⟨_, rfl⟩, .inr ⟨cks (j + 1) hlt, ⟨_, _, rfl⟩, hJx3⟩⟩
    · obtain rfl : j = N := by omega
      have hJN2 : JM = NM := by rw [HJ.out, HNM.out]
      subst hJN2
      gi_wp2
      go_end0
      exact ⟨⟨_, rfl⟩, .inl ⟨_, rfl, hJs⟩⟩
/-- The iterator's contract. -/
theorem chunk_stops (n : Nat) (hn : 1 ≤ n) (B1 B2 b f m N c : Nat) (hm : 1 ≤ m) (hNm : N * m ≤ 65536) (hc : N * m ≤ c) (w : World) (h1 : Boxed w B1 24 (.slice (some ⟨b, f, none⟩) (N * m) c)) (h2 : Boxed w B2 3 (.int .i64 (m : Nat))) :
    SeqStopsK Fence.wide n Try.prog 99 #[.pointer (some ⟨B1, 0, none⟩), .pointer (some ⟨B2, 0, none⟩)] (pck (N := N) b f m) (Kp2 B1 B2) (fun ys => ys = cks N (Nat.le_refl N)) (fun pre => ∃ (j : Nat) (hj : j ≤ N), pre = cks j hj) N w := fun l J Jx W hW hJ _ hY h0 =>
  chunk1_in n hn l B1 B2 b f m N c hm hNm hc J Jx hY W hJ (box_on h1 hW).cell (box_on h2 hW).cell h0
set_option maxRecDepth 100000 in
set_option maxHeartbeats 2000000 in
/-- slices.Chunk. -/
theorem chunk_any (b f L c m : Nat) (hm : 1 ≤ m) (w : World) : Calls Try.prog 57 #[.slice (some ⟨b, f, none⟩) L c, .int .i64 (m : Nat)] w fun e w' =>
    e = .returned (.func (.func 99) #[] #[.pointer (some ⟨w.heap.size, 0, none⟩), .pointer (some ⟨w.heap.size + 1, 0, none⟩)]) ∧ w' = (w.alloc (.cells #[.slice (some ⟨b, f, none⟩) L c] 24)).alloc (.cells #[.int .i64 (m : Nat)] 3) := by
  have g1 : ¬ (m : Int) < 1 := by omega
  go_enter Try.func57, Try.ntmps57
  go_wp2
  go_ret
  exact ⟨rfl, rfl⟩
end Go.Proofs.Ytnlfljekbknaaaa
namespace Go.Proofs.Ytnlfljekbknaaaa

section
variable (da db : List Int) (D C Rb f : Nat)
/-- The first n rows, the blocks being L. -/
def rows (L : List Nat) (n : Nat) : List (Nat × Nat) := (List.range n).map fun r => (L.getD (r / Rb) 0, r)
end
theorem cks_map {N : Nat} : ∀ (j : Nat) (h : j ≤ N), (cks j h).map (fun x : Fin N => x.1) = List.range j
  | 0, _ => rfl
  | j + 1, h => by
    unfold cks
    rw [List.map_append, cks_map j, List.range_succ]; rfl
end Go.Proofs.Ytnlfljekbknaaaa
namespace Go.Proofs.Ytnlfljekbknaaaa
open Go Go.RowKit Go.Shelf
attribute [local go_sem] Oper.semAt_some

/-- All that lies but the block T and words' cells from B on lies on. -/
def Sm (B T : Nat) (X Y : World) : Prop := X.heap.size ≤ Y.heap.size ∧ ∀ k o, X.heap[k]? = some o → k ≠ T → (k < B ∨ ∀ cs r, o ≠ .cells cs 2 r) → Y.heap[k]? = some o
theorem Sm.refl (B T : Nat) (X : World) : Sm B T X X := ⟨Nat.le_refl _, fun _ _ h _ _ => h⟩
theorem Sm.trans {B T : Nat} {X Y Z : World} (h : Sm B T X Y) (k : Sm B T Y Z) : Sm B T X Z := ⟨Nat.le_trans h.1 k.1, fun i o h1 h2 h3 => k.2 i o (h.2 i o h1 h2 h3) h2 h3⟩
theorem Sm.of {B T : Nat} {X Y : World} (h : Below X.heap.size X Y) : Sm B T X Y := ⟨h.size, fun k _o h1 _ _ => (h.block k (Array.getElem?_eq_some_iff.1 h1).1).trans h1⟩
theorem Sm.blk {B T b : Nat} {X Y : World} {u : TypeId} {cs : Array Value} (h : Sm B T X Y) (hb : Blk X b u cs) (hn : b ≠ T) (hu : u ≠ 2) : Blk Y b u cs := h.2 b _ hb hn (.inr (fun c r e => by cases e; exact hu rfl))
theorem Sm.keeps {B T Q : Nat} {X Y : World} (h : Sm B T X Y) (hT : T < Q) : KeepsFrom Q X Y := ⟨h.1, fun k o hk ho hc => h.2 k o ho (by omega) (.inr (fun cs r e => by subst e; cases hc))⟩
theorem Sm.low {B T k : Nat} {X Y : World} (h : Sm B T X Y) (hk : k < B) (hl : k < X.heap.size) (hn : k ≠ T) : Y.heap[k]? = X.heap[k]? := by
  obtain ⟨o, ho⟩ : ∃ o, X.heap[k]? = some o := ⟨_, Array.getElem?_eq_getElem hl⟩
  rw [ho]; exact h.2 k o ho hn (.inl hk)
theorem ld_mid {W : World} {g f L c lo n : Nat} {ls : List Int} (h : Ld W (.slice (some ⟨g, f, none⟩) L c) ls) (hn : lo + n ≤ L) : Ld W (.slice (some ⟨g, f + lo, none⟩) n n) ((ls.drop lo).take n) := by
  obtain ⟨o2, c2, e, h1, h2⟩ := h
  simp only [Value.slice.injEq] at e
  obtain ⟨rfl, rfl, rfl⟩ := e
  have hl : ((ls.drop lo).take n).length = n := by simp; omega
  refine ⟨_, _, by rw [hl], by omega, fun k hk => ?_⟩
  obtain ⟨b, f', e1, e2, e3⟩ := h2 (lo + k) (by omega)
  simp only [Option.some.injEq, Addr.mk.injEq, and_true] at e1
  obtain ⟨rfl, rfl⟩ := e1
  refine ⟨g, f + lo, rfl, e2, ?_⟩
  rw [show f + lo + k = f + (lo + k) by omega, e3, take_getD (by omega)]
  simp [List.getD, List.getElem?_drop]
theorem mid_getD {ls : List Int} {lo n k : Nat} (h : k < n) : ((ls.drop lo).take n).getD k 0 = ls.getD (lo + k) 0 := by
  rw [take_getD h]; simp [List.getD, List.getElem?_drop]
theorem wds_mid {ls : List Int} {lo n : Nat} (h : wds ls = true) (hn : lo + n ≤ ls.length) : wds ((ls.drop lo).take n) = true := wds_yes (fun k hk => by
  have hl : ((ls.drop lo).take n).length = n := by simp; omega
  rw [hl] at hk
  rw [mid_getD hk]
  exact wds_at h (by omega))

end Go.Proofs.Ytnlfljekbknaaaa
namespace Go.Proofs.Ytnlfljekbknaaaa
open Go Go.RowKit Go.Shelf

end Go.Proofs.Ytnlfljekbknaaaa
namespace Go.Proofs.Ytnlfljekbknaaaa
open Go Go.RowKit Go.Shelf

end Go.Proofs.Ytnlfljekbknaaaa
namespace Go.Proofs.Ytnlfljekbknaaaa

end Go.Proofs.Ytnlfljekbknaaaa
namespace Go.Proofs.Ytnlfljekbknaaaa
open Go.RowKit

end Go.Proofs.Ytnlfljekbknaaaa
namespace Go.Proofs.Ytnlfljekbknaaaa
open Go.RowKit


end Go.Proofs.Ytnlfljekbknaaaa
namespace Go.Proofs.Ytnlfljekbknaaaa
open Go.RowKit



end Go.Proofs.Ytnlfljekbknaaaa
namespace Go.Proofs.Ytnlfljekbknaaaa
open Go.RowKit


end Go.Proofs.Ytnlfljekbknaaaa
namespace Go.Proofs.Ytnlfljekbknaaaa
open Go.RowKit


end Go.Proofs.Ytnlfljekbknaaaa
namespace Go.Proofs.Ytnlfljekbknaaaa
open Go.RowKit Go.Shelf

end Go.Proofs.Ytnlfljekbknaaaa
namespace Go.Proofs.Ytnlfljekbknaaaa

/-- The words turned. -/
def tds (A B : Nat) (ds : List Int) : List Int := cps [(B : Int), (A : Int)] [1, (B : Int)] 0 ds (B * A)
end Go.Proofs.Ytnlfljekbknaaaa
namespace Go.Proofs.Ytnlfljekbknaaaa
open Go Go.RowKit Go.Shelf

end Go.Proofs.Ytnlfljekbknaaaa
namespace Go.Proofs.Ytnlfljekbknaaaa
open Go Go.RowKit Go.Shelf

theorem own_two {X : World} {b base n : Nat} {e : TypeId} {v : Value} {xs : List Value} {cs : Array Value} (hO : X.ownsRow base e 1 v n xs) (hb : Blk X b 26 cs) (hne : e ≠ 26) (u1 u2 : Value) :
    ((X.setCell ⟨b, 0, none⟩ u1).setCell ⟨b, 1, none⟩ u2).ownsRow base e 1 v n xs := by
  have h1 := hO.kept (grown_set X ⟨b, 0, none⟩ u1) (.inr (tens_not_row hO hb hne))
  exact h1.kept (grown_set _ ⟨b, 1, none⟩ u2) (.inr (tens_not_row h1 (hb.set_ 0 u1) hne))
end Go.Proofs.Ytnlfljekbknaaaa
namespace Go.Proofs.Ytnlfljekbknaaaa
open Go Go.RowKit Go.Shelf

end Go.Proofs.Ytnlfljekbknaaaa
namespace Go.Proofs.Ytnlfljekbknaaaa
open Go Go.RowKit Go.Shelf

/- Signs, and noughts. -/
end Go.Proofs.Ytnlfljekbknaaaa
namespace Go.Proofs.Ytnlfljekbknaaaa
open Go.RowKit Go.Shelf

end Go.Proofs.Ytnlfljekbknaaaa
namespace Go.Proofs.Ytnlfljekbknaaaa
open Go.RowKit Go.Shelf

end Go.Proofs.Ytnlfljekbknaaaa
namespace Go.Proofs.Ytnlfljekbknaaaa
open Go Go.RowKit Go.Shelf

end Go.Proofs.Ytnlfljekbknaaaa
namespace Go.Proofs.Ytnlfljekbknaaaa
open Go Go.RowKit Go.Shelf

end Go.Proofs.Ytnlfljekbknaaaa
namespace Go.Proofs.Ytnlfljekbknaaaa

section
variable {r n c : Nat}
end
section
variable {K r n c : Nat}
end
end Go.Proofs.Ytnlfljekbknaaaa
namespace Go.Proofs.Ytnlfljekbknaaaa
open Go.RowKit
theorem ff_any (i : Int) (w : World) : Calls Try.prog 13 #[.int .i64 i] w fun e w' => e = .returned (.int .i64 (8 + i % 18446744073709551616 % 25)) ∧ w = w' := by
  have C := Lib.hid (fun W : World => within_any i 25 W (by decide) (by decide))
  have e1 : wrap64 (8 + i % 18446744073709551616 % 25) = 8 + i % 18446744073709551616 % 25 := IntWalk.wrap64_in _ ⟨by omega, by omega⟩
  have E := Lib.hid e1
  clear e1
  generalize i % 18446744073709551616 % 25 = r at *
  go_enter Try.func13, Try.ntmps13
  go_wp2_with (go_at_call 50; (with_reducible refine (C.out _).mono ?_); rintro e w' ⟨rfl, rfl⟩)
  go_ret
  exact ⟨by show Ending.returned (.int .i64 (wrap64 (8 + r))) = _; rw [E.out], rfl⟩
end Go.Proofs.Ytnlfljekbknaaaa
namespace Go.Proofs.Ytnlfljekbknaaaa
open Go.RowKit Go.Shelf

end Go.Proofs.Ytnlfljekbknaaaa
namespace Go.Proofs.Ytnlfljekbknaaaa
open Go Go.RowKit Go.Shelf

/-- Is each number from lo to MaxDim? -/
def afr (lo : Int) (l : List Int) : Bool := l.all fun x => decide (lo ≤ x) && decide (x ≤ 4096)
theorem afr_at {lo : Int} {l : List Int} {k : Nat} (h : afr lo l = true) (hk : k < l.length) : lo ≤ l.getD k 0 ∧ l.getD k 0 ≤ 4096 := by
  unfold afr at h
  rw [List.all_eq_true] at h
  have := h _ (getD_mem hk)
  simp only [Bool.and_eq_true, decide_eq_true_eq] at this
  exact this
theorem afr_yes {lo : Int} {l : List Int} (h : ∀ k, k < l.length → lo ≤ l.getD k 0 ∧ l.getD k 0 ≤ 4096) : afr lo l = true := by
  unfold afr
  rw [List.all_eq_true]
  intro x hx
  obtain ⟨k, hk, rfl⟩ := List.mem_iff_getElem.1 hx
  have e : l.getD k 0 = l[k] := by simp [List.getD, List.getElem?_eq_getElem hk]
  have := h k hk
  rw [e] at this
  simp only [Bool.and_eq_true, decide_eq_true_eq]
  exact this
theorem afr_no {lo : Int} {l : List Int} {k : Nat} (hk : k < l.length) (h : ¬ (lo ≤ l.getD k 0 ∧ l.getD k 0 ≤ 4096)) : afr lo l = false := by
  cases e : afr lo l with
  | false => rfl
  | true => exact absurd (afr_at e hk) h
set_option maxRecDepth 100000 in
set_option maxHeartbeats 2000000 in
theorem arefrom_any (lo : Int) (v : Value) (l : List Int) (w : World) (h : Ld w v l) (hl : l.length ≤ 9223372036854775807) :
    Calls Try.prog 104 #[.int .i64 lo, v] w fun e w' => e = .returned (.bool (afr lo l)) ∧ w = w' := by
  obtain ⟨o, c, rfl, _, hx⟩ := h
  have HX := Lib.hid hx
  clear hx
  obtain ⟨Q, hQ⟩ : ∃ Q, Q = afr lo l := ⟨_, rfl⟩
  rw [← hQ]
  have HQ := Lib.hid hQ
  clear hQ
  go_enter Try.func104, Try.ntmps104
  go_wp2
  go_loop [9] (fun s9 => ∃ k : Nat, k ≤ l.length ∧ s9 = .int .i64 k ∧ Hid (∀ j, j < k → lo ≤ l.getD j 0 ∧ l.getD j 0 ≤ 4096)) (fun s9 => l.length - (intOf s9).toNat)
  case atStart => exact ⟨0, Nat.zero_le _, rfl, fun j hj => absurd hj (Nat.not_lt_zero _)⟩
  case round =>
    obtain ⟨k, hk, rfl, HK⟩ := hrel
    by_cases hlt : k < l.length
    · obtain ⟨b, f, rfl, _, hc⟩ := HX.out k hlt
      by_cases g : lo ≤ l.getD k 0 ∧ l.getD k 0 ≤ 4096
      · have HY : Hid (∀ j, j < k + 1 → lo ≤ l.getD j 0 ∧ l.getD j 0 ≤ 4096) := Lib.hid (fun j hj => by
          by_cases e : j = k
          · subst e; exact g
          · exact HK.out j (by omega))
        generalize l.getD k 0 = x at *
        have g1 : decide (x < lo) = false := by simp; omega
        have g2 : decide ((4096 : Int) < x) = false := by simp; omega
        have g3 : ¬ x < lo := by omega
        have g4 : ¬ (4096 : Int) < x := by omega
        go_wp2
        exact ⟨⟨k + 1, by omega, by go_num, HY⟩, by simp [intOf]; omega⟩
      · have R : Hid (Q = false) := by rw [HQ.out]; exact Lib.hid (afr_no hlt g)
        generalize l.getD k 0 = x at *
        by_cases g3 : x < lo
        · clear g
          go_wp2
          go_ret
          exact ⟨by rw [R.out]; rfl, rfl⟩
        · have g4 : (4096 : Int) < x := by omega
          clear g
          go_wp2
          go_ret
          exact ⟨by rw [R.out]; rfl, rfl⟩
    · obtain rfl : k = l.length := by omega
      have R : Hid (Q = true) := by rw [HQ.out]; exact Lib.hid (afr_yes HK.out)
      clear hlt
      go_wp2
      go_ret
      exact ⟨by rw [R.out]; rfl, rfl⟩
theorem aresizes_any (v : Value) (l : List Int) (w : World) (h : Ld w v l) (hl : l.length ≤ 9223372036854775807) :
    Calls Try.prog 60 #[v] w fun e w' => e = .returned (.bool (afr 1 l)) ∧ w = w' := by
  have C := Lib.hid (arefrom_any 1 v l w h hl)
  clear h
  go_enter Try.func60, Try.ntmps60
  go_wp2_with (go_at_call 104; (with_reducible refine C.out.mono ?_); rintro e w' ⟨rfl, rfl⟩)
  go_ret
  exact ⟨rfl, rfl⟩
/-- May these be a convolution's numbers (but for Kernel)? -/
def cnm (s p d : List Int) : Bool := (decide (s.length = 1) || decide (s.length = 2)) && decide (p.length = s.length) && decide (d.length = s.length) && afr 1 s && afr 0 p && afr 1 d
theorem cnm_parts {s p d : List Int} (h : cnm s p d = true) : (s.length = 1 ∨ s.length = 2) ∧ p.length = s.length ∧ d.length = s.length ∧ afr 1 s = true ∧ afr 0 p = true ∧ afr 1 d = true := by
  simp only [cnm, Bool.and_eq_true, Bool.or_eq_true, decide_eq_true_eq] at h
  obtain ⟨⟨⟨⟨⟨a, b⟩, c⟩, e⟩, f⟩, g⟩ := h
  exact ⟨a, b, c, e, f, g⟩
/-- How many places a line has. -/
def lpl (l k s p d : Int) : Int := if 0 ≤ l + 2 * p - d * (k - 1) - 1 then (l + 2 * p - d * (k - 1) - 1) / s + 1 else 0
theorem lpl_bd {l k s p d : Int} (hl : 1 ≤ l ∧ l ≤ 4096) (hk : 1 ≤ k) (hs : 1 ≤ s) (hp : 0 ≤ p ∧ p ≤ 4096) (hd : 1 ≤ d) : 0 ≤ lpl l k s p d ∧ lpl l k s p d ≤ 12288 := by
  have h1 : 0 ≤ d * (k - 1) := Int.mul_nonneg (by omega) (by omega)
  unfold lpl
  split
  · next h =>
    have h4 : l + 2 * p - d * (k - 1) - 1 ≤ 12287 := by omega
    generalize l + 2 * p - d * (k - 1) - 1 = r at *
    have h2 : 0 ≤ r / s := Int.ediv_nonneg h (by omega)
    have h3 : r / s ≤ r := Int.ediv_le_self s h
    generalize r / s = q at *
    omega
  · omega
theorem blk4c {W : World} {b : Nat} {v0 v1 v2 v3 : Value} (h : Blk W b 28 #[v0, v1, v2, v3]) : W.cell? ⟨b, 0, none⟩ = some v0 ∧ W.cell? ⟨b, 1, none⟩ = some v1 ∧ W.cell? ⟨b, 2, none⟩ = some v2 ∧ W.cell? ⟨b, 3, none⟩ = some v3 := ⟨h.cell 0, h.cell 1, h.cell 2, h.cell 3⟩
set_option maxRecDepth 100000 in
set_option maxHeartbeats 4000000 in
theorem arenumbers_any (vk vs vp vd : Value) (ks s p d : List Int) (w : World) (hk : Ld w vk ks) (hs : Ld w vs s) (hp : Ld w vp p) (hd : Ld w vd d) (_l0 : ks.length ≤ 17592186044416) (l1 : s.length ≤ 17592186044416) (l2 : p.length ≤ 17592186044416) (l3 : d.length ≤ 17592186044416) :
    Calls Try.prog 96 #[.agg #[vk, vs, vp, vd]] w fun e w' => e = .returned (.bool (cnm s p d)) ∧ w' = w.alloc (.cells #[vk, vs, vp, vd] 28) := by
  have B1 := Lib.hid ((Below.refl w.heap.size w).alloc (Nat.le_refl _) (.cells #[vk, vs, vp, vd] 28))
  have CS := Lib.hid (aresizes_any vs s (w.alloc (.cells #[vk, vs, vp, vd] 28)) (hs.below B1.out) (by omega))
  have CP := Lib.hid (arefrom_any 0 vp p (w.alloc (.cells #[vk, vs, vp, vd] 28)) (hp.below B1.out) (by omega))
  have CD := Lib.hid (aresizes_any vd d (w.alloc (.cells #[vk, vs, vp, vd] 28)) (hd.below B1.out) (by omega))
  obtain ⟨x0, x1, x2, x3⟩ := blk4c (Blk.new w 28 #[vk, vs, vp, vd])
  obtain ⟨ok, ck, rfl, _, _⟩ := hk
  obtain ⟨os, cs, rfl, _, _⟩ := hs
  obtain ⟨op, cp, rfl, _, _⟩ := hp
  obtain ⟨od, cd, rfl, _, _⟩ := hd
  obtain ⟨Q, hQ⟩ : ∃ Q, Q = cnm s p d := ⟨_, rfl⟩
  rw [← hQ]
  unfold cnm at hQ
  by_cases g0 : s.length = 1 ∨ s.length = 2
  · have e0 : (decide (s.length = 1) || decide (s.length = 2)) = true := by simpa using g0
    by_cases g1 : p.length = s.length
    · by_cases g2 : d.length = s.length
      · have b1 : ((p.length : Int) != (s.length : Int)) = false := by simp [g1]
        have b2 : ((d.length : Int) != (s.length : Int)) = false := by simp [g2]
        rw [e0, decide_eq_true g1, decide_eq_true g2] at hQ
        have HQ : Hid (Q = (afr 1 s && afr 0 p && afr 1 d)) := Lib.hid (by rw [hQ]; simp)
        clear hQ e0 g1 g2
        have b0 : ((s.length : Int) != 1) = false ∨ (((s.length : Int) != 1) = true ∧ ((s.length : Int) != 2) = false) := by
          rcases g0 with h | h
          · exact .inl (by simp [h])
          · exact .inr (by simp [h])
        clear g0
        rcases b0 with b0 | ⟨b0, b0'⟩
        all_goals
          cases q0 : afr 1 s <;> cases q1 : afr 0 p <;> cases q2 : afr 1 d
        all_goals
          rw [q0] at CS
          rw [q1] at CP
          rw [q2] at CD
          rw [q0, q1, q2] at HQ
          clear q0 q1 q2
          go_enter Try.func96, Try.ntmps96
          go_wp2_with (first | (go_at_call 60; (with_reducible refine CS.out.mono ?_); rintro e w' ⟨rfl, rfl⟩) | (go_at_call 104; (with_reducible refine CP.out.mono ?_); rintro e w' ⟨rfl, rfl⟩) | (go_at_call 60; (with_reducible refine CD.out.mono ?_); rintro e w' ⟨rfl, rfl⟩))
          go_ret
          exact ⟨by rw [HQ.out]; rfl, rfl⟩
      · have b1 : ((p.length : Int) != (s.length : Int)) = false := by simp [g1]
        have b2 : ((d.length : Int) != (s.length : Int)) = true := by rw [bne_iff_ne]; omega
        have HQ : Hid (Q = false) := Lib.hid (by rw [hQ, decide_eq_false g2]; simp)
        clear hQ e0 g1 g2 CS CP CD
        have b0 : ((s.length : Int) != 1) = false ∨ (((s.length : Int) != 1) = true ∧ ((s.length : Int) != 2) = false) := by
          rcases g0 with h | h
          · exact .inl (by simp [h])
          · exact .inr (by simp [h])
        clear g0
        rcases b0 with b0 | ⟨b0, b0'⟩
        all_goals
          go_enter Try.func96, Try.ntmps96
          go_wp2
          go_ret
          exact ⟨by rw [HQ.out]; rfl, rfl⟩
    · have b1 : ((p.length : Int) != (s.length : Int)) = true := by rw [bne_iff_ne]; omega
      have HQ : Hid (Q = false) := Lib.hid (by rw [hQ, decide_eq_false g1]; simp)
      clear hQ e0 g1 CS CP CD
      have b0 : ((s.length : Int) != 1) = false ∨ (((s.length : Int) != 1) = true ∧ ((s.length : Int) != 2) = false) := by
        rcases g0 with h | h
        · exact .inl (by simp [h])
        · exact .inr (by simp [h])
      clear g0
      rcases b0 with b0 | ⟨b0, b0'⟩
      all_goals
        go_enter Try.func96, Try.ntmps96
        go_wp2
        go_ret
        exact ⟨by rw [HQ.out]; rfl, rfl⟩
  · have b0 : ((s.length : Int) != 1) = true := by rw [bne_iff_ne]; omega
    have b1 : ((s.length : Int) != 2) = true := by rw [bne_iff_ne]; omega
    have HQ : Hid (Q = false) := Lib.hid (by
      rw [hQ, show (decide (s.length = 1) || decide (s.length = 2)) = false by rw [Bool.or_eq_false_iff, decide_eq_false_iff_not, decide_eq_false_iff_not]; omega]; simp)
    clear hQ g0 CS CP CD
    go_enter Try.func96, Try.ntmps96
    go_wp2
    go_ret
    exact ⟨by rw [HQ.out]; rfl, rfl⟩
set_option maxRecDepth 100000 in
set_option maxHeartbeats 4000000 in
theorem cnumbers_any (vk vs vp vd : Value) (ks s p d : List Int) (w : World) (hk : Ld w vk ks) (hs : Ld w vs s) (hp : Ld w vp p) (hd : Ld w vd d) (l0 : ks.length ≤ 17592186044416) (l1 : s.length ≤ 17592186044416) (l2 : p.length ≤ 17592186044416) (l3 : d.length ≤ 17592186044416) :
    Calls Try.prog 53 #[.agg #[vk, vs, vp, vd]] w fun e w' => e = .returned (.bool (decide (ks.length = 0) && cnm s p d)) ∧ Below w.heap.size w w' := by
  have B1 := Lib.hid ((Below.refl w.heap.size w).alloc (Nat.le_refl _) (.cells #[vk, vs, vp, vd] 28))
  have C1 := Lib.hid (arenumbers_any vk vs vp vd ks s p d (w.alloc (.cells #[vk, vs, vp, vd] 28)) (hk.below B1.out) (hs.below B1.out) (hp.below B1.out) (hd.below B1.out) l0 l1 l2 l3)
  obtain ⟨x0, x1, x2, x3⟩ := blk4c (Blk.new w 28 #[vk, vs, vp, vd])
  obtain ⟨ok, ck, rfl, _, _⟩ := hk
  obtain ⟨os, cs, rfl, _, _⟩ := hs
  obtain ⟨op, cp, rfl, _, _⟩ := hp
  obtain ⟨od, cd, rfl, _, _⟩ := hd
  by_cases g : ks.length = 0
  · have b1 : ((ks.length : Int) == 0) = true := by simp [g]
    have HQ : Hid ((decide (ks.length = 0) && cnm s p d) = cnm s p d) := Lib.hid (by rw [decide_eq_true g]; simp)
    clear g
    go_enter Try.func53, Try.ntmps53
    go_wp2_with (go_at_call 96; (with_reducible refine C1.out.mono ?_); rintro e w' ⟨rfl, rfl⟩)
    go_ret
    exact ⟨by rw [HQ.out]; rfl, B1.out.alloc B1.out.size _⟩
  · have b1 : ((ks.length : Int) == 0) = false := by rw [beq_eq_false_iff_ne]; omega
    have HQ : Hid ((decide (ks.length = 0) && cnm s p d) = false) := Lib.hid (by rw [decide_eq_false g]; simp)
    clear g
    go_enter Try.func53, Try.ntmps53
    go_wp2
    go_ret
    exact ⟨by rw [HQ.out]; rfl, B1.out⟩
end Go.Proofs.Ytnlfljekbknaaaa
namespace Go.Proofs.Ytnlfljekbknaaaa
open Go Go.RowKit Go.Shelf

/-- A line's value. -/
def Lnv (l k s p d n : Int) : Value := .agg #[.int .i64 l, .int .i64 n, .int .i64 k, .int .i64 s, .int .i64 p, .int .i64 d]
theorem line_facts {l k s p d : Int} (hl : 1 ≤ l ∧ l ≤ 4096) (hk : 1 ≤ k ∧ k ≤ 4096) (_hs : 1 ≤ s) (hp : 0 ≤ p ∧ p ≤ 4096) (hd : 1 ≤ d ∧ d ≤ 4096) :
    ∃ a1 a2 a3 a4 a5 a6 a7 a8 : Int, wrap64 (2 * p) = a1 ∧ wrap64 (l + a1) = a2 ∧ wrap64 (k - 1) = a3 ∧ wrap64 (d * a3) = a4 ∧ wrap64 (a2 - a4) = a5 ∧ wrap64 (a5 - 1) = a6 ∧ a6.tdiv s = a7 ∧ wrap64 a7 = a7 ∧ IntKind.i64.wrap a7 = a7 ∧ wrap64 (a7 + 1) = a8 ∧ IntKind.i64.wrap (a7 + 1) = a8 ∧
      Hid ((0 ≤ a6 → a8 = lpl l k s p d) ∧ (¬ 0 ≤ a6 → lpl l k s p d = 0)) := by
  have h1 : 0 ≤ d * (k - 1) := Int.mul_nonneg (by omega) (by omega)
  have h2 : d * (k - 1) ≤ 4096 * 4096 := by
    have := Int.mul_le_mul hd.2 (show k - 1 ≤ 4096 by omega) (by omega) (by decide); omega
  refine ⟨2 * p, l + 2 * p, k - 1, d * (k - 1), l + 2 * p - d * (k - 1), l + 2 * p - d * (k - 1) - 1, (l + 2 * p - d * (k - 1) - 1).tdiv s, (l + 2 * p - d * (k - 1) - 1).tdiv s + 1, IntWalk.wrap64_in _ (by omega), IntWalk.wrap64_in _ (by omega), IntWalk.wrap64_in _ (by omega), IntWalk.wrap64_in _ (by omega), IntWalk.wrap64_in _ (by omega), IntWalk.wrap64_in _ (by omega), rfl, ?_⟩
  have hb : -20000000 ≤ l + 2 * p - d * (k - 1) - 1 ∧ l + 2 * p - d * (k - 1) - 1 ≤ 20000000 := by omega
  unfold lpl
  generalize l + 2 * p - d * (k - 1) - 1 = r at *
  have ht : -20000000 ≤ r.tdiv s ∧ r.tdiv s ≤ 20000000 := by
    have h := Int.natAbs_tdiv_le_natAbs r s
    omega
  refine ⟨IntWalk.wrap64_in _ (by omega), IntWalk.i64_in _ (by omega), IntWalk.wrap64_in _ (by omega), IntWalk.i64_in _ (by omega), Lib.hid ⟨fun h => ?_, fun h => if_neg h⟩⟩
  rw [if_pos h, Int.tdiv_eq_ediv_of_nonneg h]
theorem blk6l {W : World} {b : Nat} {v0 v1 v2 v3 v4 v5 : Value} (h : Blk W b 84 #[v0, v1, v2, v3, v4, v5]) : (W.cell? ⟨b, 0, none⟩ = some v0 ∧ W.cell? ⟨b, 1, none⟩ = some v1 ∧ W.cell? ⟨b, 2, none⟩ = some v2 ∧ W.cell? ⟨b, 3, none⟩ = some v3 ∧ W.cell? ⟨b, 4, none⟩ = some v4 ∧ W.cell? ⟨b, 5, none⟩ = some v5) ∧ W.frozen? ⟨b, 0, none⟩ = false ∧ W.frozen? ⟨b, 1, none⟩ = false ∧ W.frozen? ⟨b, 2, none⟩ = false ∧ W.frozen? ⟨b, 3, none⟩ = false ∧ W.frozen? ⟨b, 4, none⟩ = false ∧ W.frozen? ⟨b, 5, none⟩ = false :=
  ⟨⟨h.cell 0, h.cell 1, h.cell 2, h.cell 3, h.cell 4, h.cell 5⟩, h.frozen 0, h.frozen 1, h.frozen 2, h.frozen 3, h.frozen 4, h.frozen 5⟩
set_option maxRecDepth 100000 in
set_option maxHeartbeats 4000000 in
theorem newline_any (l k s p d : Int) (w : World) (hl : 1 ≤ l ∧ l ≤ 4096) (hk : 1 ≤ k ∧ k ≤ 4096) (hs : 1 ≤ s) (hp : 0 ≤ p ∧ p ≤ 4096) (hd : 1 ≤ d ∧ d ≤ 4096) :
    Calls Try.prog 97 #[.int .i64 l, .int .i64 k, .int .i64 s, .int .i64 p, .int .i64 d] w fun e w' => e = .returned (Lnv l k s p d (lpl l k s p d)) ∧ Below w.heap.size w w' := by
  have F := Lib.hid (line_facts hl hk hs hp hd)
  have s0 : ¬ s = 0 := by omega
  have s1 : (s == 0) = false := by rw [beq_eq_false_iff_ne]; omega
  clear hl hk hs hp hd
  obtain ⟨a1, a2, a3, a4, a5, a6, a7, a8, e1, e2, e3, e4, e5, e6, e7, e8, e9, e10, e11, HP⟩ := F.out
  clear F
  generalize lpl l k s p d = n at *
  by_cases g : 0 ≤ a6
  · have R : Hid (a8 = n) := Lib.hid (HP.out.1 g)
    clear HP
    go_enter Try.func97, Try.ntmps97
    go_wp2
    obtain ⟨⟨c0, c1, c2, c3, c4, c5⟩, _⟩ := blk6l ((Blk.new w 84 #[.int .i64 l, .int .i64 a8, .int .i64 k, .int .i64 s, .int .i64 p, .int .i64 d]).alloc (.cells #[.int .i64 l, .int .i64 a8, .int .i64 k, .int .i64 s, .int .i64 p, .int .i64 d] 84))
    refine bodyPost_ret (v := Lnv l k s p d a8) (by simp [results, Try.results97, go_sem, Lnv, c0, c1, c2, c3, c4, c5]) rfl ?_
    exact ⟨by rw [R.out], ((Below.refl _ _).alloc (Nat.le_refl _) _).alloc (by simp) _⟩
  · have R : Hid (n = 0) := Lib.hid (HP.out.2 g)
    clear HP
    go_enter Try.func97, Try.ntmps97
    go_wp2
    obtain ⟨⟨c0, c1, c2, c3, c4, c5⟩, _⟩ := blk6l ((Blk.new w 84 #[.int .i64 l, .int .i64 0, .int .i64 k, .int .i64 s, .int .i64 p, .int .i64 d]).alloc (.cells #[.int .i64 l, .int .i64 0, .int .i64 k, .int .i64 s, .int .i64 p, .int .i64 d] 84))
    refine bodyPost_ret (v := Lnv l k s p d 0) (by simp [results, Try.results97, go_sem, Lnv, c0, c1, c2, c3, c4, c5]) rfl ?_
    exact ⟨by rw [R.out], ((Below.refl _ _).alloc (Nat.le_refl _) _).alloc (by simp) _⟩
end Go.Proofs.Ytnlfljekbknaaaa
