/-
  Newton's steps: the root of a wide number, rounded down.
  Words: what the calls of package fx do, said of whole numbers.
  Quotients told as words.
  Sums and differences of words.
  The statements' lists of package fx: what an element's cells hold.
  The small functions of package fx's statements.
  Closing, ratios, and the operations of words.
  Package root: roots and reciprocal roots, said of whole numbers.
  The statements' lists of package root: what an element's cells hold; the small functions beside.
  The statements' counts of fraction bits.
  The roots' example.
  Lists of limbs: their trailing noughts, their value; what a slice of limbs reads as.
-/
import Derived.LoopTactic
import Derived.WalkKit
import Derived.WalkSpells
import Derived.Lib.Hide
import Derived.Test.YtdbgooobbemklaaM01
import Derived.Test.YtdbgooobbemklaaM02
namespace Go.Proofs.Ytdbgooobbemklaa
open Go.RowKit

theorem wlen_any (n : Int) (w : World) (h0 : 0 ≤ n) (h1 : R n) : Calls Try.prog 158 #[Wv n] w fun e w' => e = .returned (.int .i64 (bl n)) ∧ w.alloc (.cells #[.int .i64 (hi n), .int .u64 (lo n)] 25) = w' := by
  have hU : U n := by rw [R_iff] at h1; rw [U_iff]; omega
  have hn : 0 ≤ hi n := by unfold hi; omega
  obtain ⟨a0, a1⟩ := lo_bd n
  by_cases g : hi n = 0
  · have H := Lib.hid (bl_low g)
    have g' : ¬ (0 < hi n) := by omega
    clear g hU h0 h1 hn
    go_enter Try.func158, Try.ntmps158
    go_wp2_with (go_at_call 119; refine (Try.bits_Len64 (lo n) _ a0 a1).mono ?_; rintro e w' ⟨rfl, rfl⟩)
    go_ret
    exact ⟨by rw [← H.out]; rfl, rfl⟩
  · have H := Lib.hid (bl_high hU g)
    have g' : 0 < hi n := by omega
    obtain ⟨c0, c1⟩ := hU
    have uw : IntKind.u64.wrap (hi n) = hi n := by rw [IntKind.wrap_u64]; omega
    have l := bitLen_64 (hi n) c0 c1
    clear g h0 h1 hn
    go_enter Try.func158, Try.ntmps158
    go_wp2_with (go_at_call 119; refine (Try.bits_Len64 (hi n) _ c0 c1).mono ?_; rintro e w' ⟨rfl, rfl⟩)
    go_ret
    exact ⟨by rw [← H.out]; rfl, rfl⟩
set_option maxHeartbeats 2000000 in
/-- step -/
theorem step_any (n g : Int) (w : World) (h0 : 0 ≤ n) (h1 : R n) (hg : Gs n g) : Calls Try.prog 159 #[Wv n, .int .i64 g] w fun e w' => e = .returned (.int .i64 (nx n g)) ∧ Below w.heap.size w w' := by
  have b := nx_bd h0 hg
  have g0 := hg.1
  have g1 := hg.2.1
  have FC := Lib.hid (fun W : World => from_at g W (by omega) (by omega))
  obtain ⟨q, hq⟩ : ∃ q, q = if g = 0 then 0 else n / g := ⟨_, rfl⟩
  have e : nx n g = (g + q) / 2 := by rw [hq]; rfl
  have qb : 0 ≤ q ∧ q ≤ 1125899906842626 := by
    rw [hq]
    split
    · omega
    · rename_i k; exact b.2.2 k
  have DC : ∃ c : Int, ∀ W : World, Calls Try.prog 115 #[Wv n, Wv g] W fun e w' => e = .returned (.tuple #[Wv q, .int .i64 c]) ∧ Below W.heap.size W w' := by
    by_cases k : g = 0
    · rw [if_pos k] at hq
      exact ⟨4, fun W => by rw [hq]; exact down_zero n g W k⟩
    · rw [if_neg k] at hq
      refine ⟨0, fun W => ?_⟩
      have := down_any n g W h1 (R_small (by omega) (by omega)) k
      rw [dn_floor h0 (by omega), ← hq, told_in (R_small (by omega) (by omega)), over_in (R_small (by omega) (by omega))] at this
      exact this
  obtain ⟨c, DC⟩ := DC
  have DC := Lib.hid DC
  have SC := fun W : World => small_any q W
  rw [show isS q = true from isS_mk (by omega), show sm q = q from if_pos (isS_mk (by omega))] at SC
  have SC := Lib.hid SC
  have ew : wrap64 (g + q) = g + q := IntWalk.wrap64_in _ ⟨by omega, by omega⟩
  have et : (g + q).tdiv 2 = (g + q) / 2 := Int.tdiv_eq_ediv_of_nonneg (by omega)
  have ex : wrap64 ((g + q) / 2) = (g + q) / 2 := IntWalk.wrap64_in _ ⟨by omega, by omega⟩
  rw [e]
  clear b hg h0 h1 hq qb e g0 g1
  go_enter Try.func159, Try.ntmps159
  go_wp2
  go_region_held3 (fun w' => w'.cell? ⟨w.heap.size, 0, none⟩ = some (.int .i64 (hi n)) ∧ w'.cell? ⟨w.heap.size, 1, none⟩ = some (.int .u64 (lo n))) (first | (simp [go_sem, *]; done) | (simp [go_sem, World.cell?_alloc_some, *]; done)) (first | (go_at_call 64; (with_reducible refine (FC.out _).mono ?_); rintro e w' ⟨rfl, rfl⟩) | (go_at_call 115; (with_reducible refine (DC.out _).mono ?_); rintro e w1 ⟨rfl, hb1⟩; have e10 : w1.cell? ⟨w.heap.size, 0, none⟩ = some (.int .i64 (hi n)) := cell_on hb1 (by first | (simp [go_sem, *]; done) | (simp [go_sem, World.cell?_alloc_some, *]; done) | fail); have e11 : w1.cell? ⟨w.heap.size, 1, none⟩ = some (.int .u64 (lo n)) := cell_on hb1 (by first | (simp [go_sem, *]; done) | (simp [go_sem, World.cell?_alloc_some, *]; done) | fail); have s10 : w.heap.size < w1.heap.size := World.block_lt_of_cell? _ _ e10; have t10 : w.heap.size < w1.heap.size + 1 := Nat.lt_succ_of_lt s10; (first | (have oa10 : w1.cell? ⟨w.heap.size + 1, 0, none⟩ = some (.int .i64 0) := cell_on hb1 (by first | (simp [go_sem, *]; done) | (simp [go_sem, World.cell?_alloc_some, *]; done) | fail); have ob10 : w1.cell? ⟨w.heap.size + 1, 1, none⟩ = some (.int .u64 0) := cell_on hb1 (by first | (simp [go_sem, *]; done) | (simp [go_sem, World.cell?_alloc_some, *]; done) | fail); have oc10 : w1.frozen? ⟨w.heap.size + 1, 0, none⟩ = false := frozen_on hb1 (v := .int .i64 0) (by first | (simp [go_sem, *]; done) | (simp [go_sem, World.cell?_alloc_some, *]; done) | fail) (by first | (simp [go_sem, *]; done) | (simp [go_sem, frozen?_alloc_cells, *]; done) | fail); have od10 : w1.frozen? ⟨w.heap.size + 1, 1, none⟩ = false := frozen_on hb1 (v := .int .u64 0) (by first | (simp [go_sem, *]; done) | (simp [go_sem, World.cell?_alloc_some, *]; done) | fail) (by first | (simp [go_sem, *]; done) | (simp [go_sem, frozen?_alloc_cells, *]; done) | fail); have oe10 : w.heap.size + 1 < w1.heap.size := World.block_lt_of_cell? _ _ oa10) | skip); (first | (have oa11 : w1.cell? ⟨w.heap.size + 1 + 1, 0, none⟩ = some (.int .i64 0) := cell_on hb1 (by first | (simp [go_sem, *]; done) | (simp [go_sem, *]; done) | fail); have ob11 : w1.cell? ⟨w.heap.size + 1 + 1, 1, none⟩ = some (.int .u64 0) := cell_on hb1 (by first | (simp [go_sem, *]; done) | (simp [go_sem, World.cell?_alloc_some, *]; done) | fail); have oc11 : w1.frozen? ⟨w.heap.size + 1 + 1, 0, none⟩ = false := frozen_on hb1 (v := .int .i64 0) (by first | (simp [go_sem, *]; done) | (simp [go_sem, World.cell?_alloc_some, *]; done) | fail) (by first | (simp [go_sem, *]; done) | (simp [go_sem, frozen?_alloc_cells, *]; done) | fail); have od11 : w1.frozen? ⟨w.heap.size + 1 + 1, 1, none⟩ = false := frozen_on hb1 (v := .int .u64 0) (by first | (simp [go_sem, *]; done) | (simp [go_sem, World.cell?_alloc_some, *]; done) | fail) (by first | (simp [go_sem, *]; done) | (simp [go_sem, frozen?_alloc_cells, *]; done) | fail); have oe11 : w.heap.size + 1 + 1 < w1.heap.size := World.block_lt_of_cell? _ _ oa11) | skip)))
  all_goals
    go_wp2_with (go_at_call 96; (with_reducible refine (SC.out _).mono ?_); rintro e w2 ⟨rfl, hb2⟩; have e20 : w2.cell? ⟨w.heap.size, 0, none⟩ = some (.int .i64 (hi n)) := cell_on hb2 (by first | (simp [go_sem, *]; done) | (simp [go_sem, World.cell?_alloc_some, *]; done) | fail); have e21 : w2.cell? ⟨w.heap.size, 1, none⟩ = some (.int .u64 (lo n)) := cell_on hb2 (by first | (simp [go_sem, *]; done) | (simp [go_sem, World.cell?_alloc_some, *]; done) | fail); have s20 : w.heap.size < w2.heap.size := World.block_lt_of_cell? _ _ e20; have t20 : w.heap.size < w2.heap.size + 1 := Nat.lt_succ_of_lt s20)
    go_ret
    refine ⟨by rw [ex]; rfl, ?_⟩
    repeat (first | exact Below.refl _ _ | assumption | apply Below.drew | refine Below.setCell ?_ (by first | omega | (simp; done) | (simp; omega)) _ | refine Below.alloc ?_ (by first | omega | (simp; done) | (simp; omega)) _ | refine Below.trans ?_ (hb2.mono (by first | omega | (simp; done) | (simp; omega))) | refine Below.trans ?_ (hb1.mono (by first | omega | (simp; done) | (simp; omega))))
set_option maxHeartbeats 4000000 in
/-- root -/
theorem root_any (n : Int) (w : World) (h0 : 0 ≤ n) (h : n < 633825300114114700748351602688) : Calls Try.prog 144 #[Wv n] w fun e w' => (∃ s : Int, e = .returned (.int .i64 s) ∧ Rt n s) ∧ Below w.heap.size w w' := by
  have h1 : R n := by rw [R_iff]; omega
  obtain ⟨b, G0⟩ := gs_first h0 h
  have LC := Lib.hid (fun W : World => wlen_any n W h0 h1)
  obtain ⟨k, hk⟩ : ∃ k : Nat, k = bl n := ⟨_, rfl⟩
  rw [← hk] at LC G0 b
  have SC := Lib.hid (fun (W : World) (g : Int) (hg : Gs n g) => step_any n g W h0 h1 hg)
  have ek : wrap64 ((k : Int) + 1) = (k : Int) + 1 := IntWalk.wrap64_in _ ⟨by omega, by omega⟩
  have et : ((k : Int) + 1).tdiv 2 = ((k : Int) + 1) / 2 := Int.tdiv_eq_ediv_of_nonneg (by omega)
  have ej : wrap64 (((k : Int) + 1) / 2) = ((k : Int) + 1) / 2 := IntWalk.wrap64_in _ ⟨by omega, by omega⟩
  have p1 : wrap64 ((2 : Int) ^ ((k + 1) / 2)) = 2 ^ ((k + 1) / 2) := IntWalk.wrap64_in _ ⟨by have := G0.1; omega, by have := G0.2.1; omega⟩
  have G0 := Lib.hid G0
  have H := Lib.hid (And.intro h0 h1)
  clear h0 h1 h hk
  go_enter Try.func144, Try.ntmps144
  go_wp2
  go_step3
  go_wp2_with (go_at_call 158; (with_reducible refine (LC.out _).mono ?_); rintro e w' ⟨rfl, rfl⟩)
  go_step3
  simp only [p1]
  all_goals
    go_upto_block 0 with fail
    go_cut [3] (fun s3 wx => ∃ s, s3 = .int .i64 s ∧ Rt n s ∧ Below w.heap.size w wx)
    case rest =>
      obtain ⟨s, rfl, hs, hB⟩ := hcut
      go_wp2
      try rw [Exit.noGoto_ret]
      go_ret
      exact ⟨⟨s, rfl, hs⟩, hB⟩
    case first =>
    go_wp2_with fail
    go_loopw [3] (fun s3 wr => ∃ g, s3 = .int .i64 g ∧ Gs n g ∧ wr.cell? ⟨w.heap.size, 0, none⟩ = some (.int .i64 (hi n)) ∧ wr.cell? ⟨w.heap.size, 1, none⟩ = some (.int .u64 (lo n)) ∧ Below w.heap.size w wr) (fun s3 _ => (intOf s3).toNat)
    case atStart => exact ⟨_, rfl, G0.out, by simp [go_sem], by simp [go_sem], by repeat (first | exact Below.refl _ _ | assumption | apply Below.drew | refine Below.setCell ?_ (by first | omega | (simp; done) | (simp; omega)) _ | refine Below.alloc ?_ (by first | omega | (simp; done) | (simp; omega)) _)⟩
    case round =>
      obtain ⟨g, rfl, hG, c0, c1, hB⟩ := hrel
      have hBs := hB.size
      have hz : w.heap.size < wr.heap.size := World.block_lt_of_cell? _ _ c0
      have SG := Lib.hid (fun W : World => SC.out W g hG)
      have hb := nx_bd H.out.1 hG
      by_cases k : nx n g < g
      · have K := Lib.hid (And.intro (nx_gs H.out.1 hG k) (And.intro hG.1 k))
        generalize nx n g = x at *
        clear hG hb
        go_wp2_with (go_at_call 159; (with_reducible refine (SG.out _).mono ?_); rintro e w1 ⟨rfl, hb1⟩; have e10 : w1.cell? ⟨w.heap.size, 0, none⟩ = some (.int .i64 (hi n)) := cell_on hb1 (by first | (simp [go_sem, *]; done) | (simp [go_sem, World.cell?_alloc_some, *]; done) | fail); have e11 : w1.cell? ⟨w.heap.size, 1, none⟩ = some (.int .u64 (lo n)) := cell_on hb1 (by first | (simp [go_sem, *]; done) | (simp [go_sem, World.cell?_alloc_some, *]; done) | fail); have s10 : w.heap.size < w1.heap.size := World.block_lt_of_cell? _ _ e10; have t10 : w.heap.size < w1.heap.size + 1 := Nat.lt_succ_of_lt s10)
        exact ⟨⟨x, rfl, K.out.1, e10, e11, hB.trans (hb1.mono hBs)⟩, by have h1 := K.out.1.1; have h2 := K.out.2; simp [intOf]; omega⟩
      · have K := Lib.hid (nx_end H.out.1 hG k)
        generalize nx n g = x at *
        clear hG hb
        go_wp2_with (go_at_call 159; (with_reducible refine (SG.out _).mono ?_); rintro e w1 ⟨rfl, hb1⟩; have e10 : w1.cell? ⟨w.heap.size, 0, none⟩ = some (.int .i64 (hi n)) := cell_on hb1 (by first | (simp [go_sem, *]; done) | (simp [go_sem, World.cell?_alloc_some, *]; done) | fail); have e11 : w1.cell? ⟨w.heap.size, 1, none⟩ = some (.int .u64 (lo n)) := cell_on hb1 (by first | (simp [go_sem, *]; done) | (simp [go_sem, World.cell?_alloc_some, *]; done) | fail); have s10 : w.heap.size < w1.heap.size := World.block_lt_of_cell? _ _ e10; have t10 : w.heap.size < w1.heap.size + 1 := Nat.lt_succ_of_lt s10)
        go_meet
        exact ⟨g, rfl, K.out, hB.trans (hb1.mono hBs)⟩
end Go.Proofs.Ytdbgooobbemklaa
namespace Go.Proofs.Ytdbgooobbemklaa
open Go.RowKit

/-- Is v a word? -/
def wd (v : Int) : Bool := decide (-140737488355328 < v ∧ v < 140737488355328)
/-- Are these counts of fraction bits? -/
def fb (f : Int) : Bool := decide (8 ≤ f ∧ f ≤ 32)
/-- A number told as a word; and the error beside it. -/
def tw (v : Int) : Int := if wd v = true then v else 0
def te (v : Int) : Int := if wd v = true then 0 else 3
theorem wd_bd {v : Int} (h : wd v = true) : -140737488355328 < v ∧ v < 140737488355328 := of_decide_eq_true h
theorem wd_mk {v : Int} (h : -140737488355328 < v ∧ v < 140737488355328) : wd v = true := decide_eq_true h
theorem wd_no {v : Int} (h : wd v = false) : v ≤ -140737488355328 ∨ 140737488355328 ≤ v := by have := of_decide_eq_false h; omega
theorem fb_bd {f : Int} (h : fb f = true) : 8 ≤ f ∧ f ≤ 32 := of_decide_eq_true h
theorem fb_mk {f : Int} (h : 8 ≤ f ∧ f ≤ 32) : fb f = true := decide_eq_true h
theorem fb_no {f : Int} (h : fb f = false) : f < 8 ∨ 32 < f := by have := of_decide_eq_false h; omega
theorem tw_in {v : Int} (h : wd v = true) : tw v = v := if_pos h
theorem te_in {v : Int} (h : wd v = true) : te v = 0 := if_pos h
theorem tw_out {v : Int} (h : wd v = false) : tw v = 0 := if_neg (by simp [h])
theorem te_out {v : Int} (h : wd v = false) : te v = 3 := if_neg (by simp [h])
theorem wd_tw (v : Int) : wd (tw v) = true := by unfold tw; split; assumption; rfl

/-- fx.Check -/
theorem check_any (v : Int) (w : World) : Calls Try.prog 13 #[.int .i64 v] w fun e w' => e = .returned (.int .i64 (if wd v = true then 0 else 1)) ∧ w = w' := by
  cases g : wd v with
  | true =>
    obtain ⟨g1, g2⟩ := wd_bd g
    clear g
    go_enter Try.func13, Try.ntmps13
    go_wp2
    go_ret
    exact ⟨rfl, rfl⟩
  | false =>
    have h := wd_no g
    clear g
    by_cases g1 : v ≤ -140737488355328
    · clear h
      go_enter Try.func13, Try.ntmps13
      go_wp2
      go_ret
      exact ⟨rfl, rfl⟩
    · have g2 : 140737488355328 ≤ v := by omega
      clear h
      go_enter Try.func13, Try.ntmps13
      go_wp2
      go_ret
      exact ⟨rfl, rfl⟩
/-- fx.CheckF -/
theorem checkf_any (v : Int) (w : World) : Calls Try.prog 14 #[.int .i64 v] w fun e w' => e = .returned (.int .i64 (if fb v = true then 0 else 1)) ∧ w = w' := by
  cases g : fb v with
  | true =>
    obtain ⟨g1, g2⟩ := fb_bd g
    clear g
    go_enter Try.func14, Try.ntmps14
    go_wp2
    go_ret
    exact ⟨rfl, rfl⟩
  | false =>
    have h := fb_no g
    clear g
    by_cases g1 : v < 8
    · clear h
      go_enter Try.func14, Try.ntmps14
      go_wp2
      go_ret
      exact ⟨rfl, rfl⟩
    · have g2 : 32 < v := by omega
      clear h
      go_enter Try.func14, Try.ntmps14
      go_wp2
      go_ret
      exact ⟨rfl, rfl⟩
/-- fx.told -/
theorem told_any (v : Int) (w : World) : Calls Try.prog 97 #[.int .i64 v] w fun e w' => e = .returned (.tuple #[.int .i64 (tw v), .int .i64 (te v)]) ∧ w = w' := by
  have C := Lib.hid (fun W : World => check_any v W)
  cases g : wd v with
  | true =>
    rw [g] at C
    have H := Lib.hid (And.intro (tw_in g) (te_in g))
    clear g
    go_enter Try.func97, Try.ntmps97
    go_wp2_with (go_at_call 13; (with_reducible refine (C.out _).mono ?_); rintro e w' ⟨rfl, rfl⟩)
    go_ret2
    exact ⟨by rw [H.out.1, H.out.2] <;> rfl, rfl⟩
  | false =>
    rw [g] at C
    have H := Lib.hid (And.intro (tw_out g) (te_out g))
    clear g
    go_enter Try.func97, Try.ntmps97
    go_wp2_with (go_at_call 13; (with_reducible refine (C.out _).mono ?_); rintro e w' ⟨rfl, rfl⟩)
    go_ret2
    exact ⟨by rw [H.out.1, H.out.2] <;> rfl, rfl⟩
/-- a word plus a word -/
theorem wordplus_any (a b f : Int) (w : World) (ha : wd a = true) (hb : wd b = true) : Calls Try.prog 130 #[.int .i64 a, .int .i64 b, .int .i64 f] w fun e w' => e = .returned (.tuple #[.int .i64 (tw (a + b)), .int .i64 (te (a + b))]) ∧ w = w' := by
  have A := wd_bd ha
  have B := wd_bd hb
  have e0 : wrap64 (a + b) = a + b := IntWalk.wrap64_in _ ⟨by omega, by omega⟩
  have C := Lib.hid (fun W : World => told_any (a + b) W)
  clear A B ha hb
  go_enter Try.func130, Try.ntmps130
  go_wp2_with (go_at_call 97; (with_reducible refine (C.out _).mono ?_); rintro e w' ⟨rfl, rfl⟩)
  go_ret2
  exact ⟨rfl, rfl⟩
/-- a word less a word -/
theorem wordless_any (a b f : Int) (w : World) (ha : wd a = true) (hb : wd b = true) : Calls Try.prog 131 #[.int .i64 a, .int .i64 b, .int .i64 f] w fun e w' => e = .returned (.tuple #[.int .i64 (tw (a - b)), .int .i64 (te (a - b))]) ∧ w = w' := by
  have A := wd_bd ha
  have B := wd_bd hb
  have e0 : wrap64 (a - b) = a - b := IntWalk.wrap64_in _ ⟨by omega, by omega⟩
  have C := Lib.hid (fun W : World => told_any (a - b) W)
  clear A B ha hb
  go_enter Try.func131, Try.ntmps131
  go_wp2_with (go_at_call 97; (with_reducible refine (C.out _).mono ?_); rintro e w' ⟨rfl, rfl⟩)
  go_ret2
  exact ⟨rfl, rfl⟩
end Go.Proofs.Ytdbgooobbemklaa
namespace Go.Proofs.Ytdbgooobbemklaa
open Go.RowKit

theorem isS_no {a : Int} (h : isS a = false) : ¬ (-9223372036854775808 ≤ a ∧ a ≤ 9223372036854775807) := by unfold isS at h; exact of_decide_eq_false h
set_option maxHeartbeats 2000000 in
/-- fx.nearest, by 0 -/
theorem near_zero (n d : Int) (w : World) (h0 : d = 0) : Calls Try.prog 62 #[Wv n, Wv d] w fun e w' => e = .returned (.tuple #[.int .i64 0, .int .i64 4]) ∧ Below w.heap.size w w' := by
  have RC := Lib.hid (fun W : World => round_zero n d W h0)
  clear h0
  go_enter Try.func62, Try.ntmps62
  go_wp2_with (go_at_call 95; (with_reducible refine (RC.out _).mono ?_); rintro e w1 ⟨rfl, hb1⟩; have e10 : w1.cell? ⟨w.heap.size, 0, none⟩ = some (.int .i64 (hi n)) := cell_on hb1 (by first | (simp [go_sem, *]; done) | (simp [go_sem, World.cell?_alloc_some, *]; done) | fail); have e11 : w1.cell? ⟨w.heap.size, 1, none⟩ = some (.int .u64 (lo n)) := cell_on hb1 (by first | (simp [go_sem, *]; done) | (simp [go_sem, World.cell?_alloc_some, *]; done) | fail); have e12 : w1.cell? ⟨w.heap.size + 1, 0, none⟩ = some (.int .i64 (hi d)) := cell_on hb1 (by first | (simp [go_sem, *]; done) | (simp [go_sem, World.cell?_alloc_some, *]; done) | fail); have e13 : w1.cell? ⟨w.heap.size + 1, 1, none⟩ = some (.int .u64 (lo d)) := cell_on hb1 (by first | (simp [go_sem, *]; done) | (simp [go_sem, World.cell?_alloc_some, *]; done) | fail); have s10 : w.heap.size < w1.heap.size := World.block_lt_of_cell? _ _ e10; have t10 : w.heap.size < w1.heap.size + 1 := Nat.lt_succ_of_lt s10; have s12 : w.heap.size + 1 < w1.heap.size := World.block_lt_of_cell? _ _ e12; have t12 : w.heap.size + 1 < w1.heap.size + 1 := Nat.lt_succ_of_lt s12)
  go_ret2
  refine ⟨rfl, ?_⟩
  repeat (first | exact Below.refl _ _ | assumption | apply Below.drew | refine Below.setCell ?_ (by first | omega | (simp; done) | (simp; omega)) _ | refine Below.alloc ?_ (by first | omega | (simp; done) | (simp; omega)) _ | refine Below.trans ?_ (hb1.mono (by first | omega | (simp; done) | (simp; omega))))
set_option maxHeartbeats 2000000 in
/-- fx.nearest -/
theorem near_any (n d : Int) (w : World) (hn : R n) (hd : R d) (h0 : d ≠ 0) : Calls Try.prog 62 #[Wv n, Wv d] w fun e w' => e = .returned (.tuple #[.int .i64 (tw (rd n d)), .int .i64 (te (rd n d))]) ∧ Below w.heap.size w w' := by
  have RC := fun W : World => round_any n d W hn hd h0
  by_cases r : R (rd n d)
  · rw [told_in r, over_in r] at RC
    have RC := Lib.hid RC
    generalize rd n d = q at *
    clear hn hd h0 r
    cases g : isS q with
    | true =>
      have SC := fun W : World => small_any q W
      rw [g, show sm q = q from if_pos g] at SC
      have SC := Lib.hid SC
      have TC := Lib.hid (fun W : World => told_any q W)
      clear g
      go_enter Try.func62, Try.ntmps62
      go_wp2_with (first | (go_at_call 95; (with_reducible refine (RC.out _).mono ?_); rintro e w1 ⟨rfl, hb1⟩; have e10 : w1.cell? ⟨w.heap.size, 0, none⟩ = some (.int .i64 (hi n)) := cell_on hb1 (by first | (simp [go_sem, *]; done) | (simp [go_sem, World.cell?_alloc_some, *]; done) | fail); have e11 : w1.cell? ⟨w.heap.size, 1, none⟩ = some (.int .u64 (lo n)) := cell_on hb1 (by first | (simp [go_sem, *]; done) | (simp [go_sem, World.cell?_alloc_some, *]; done) | fail); have e12 : w1.cell? ⟨w.heap.size + 1, 0, none⟩ = some (.int .i64 (hi d)) := cell_on hb1 (by first | (simp [go_sem, *]; done) | (simp [go_sem, World.cell?_alloc_some, *]; done) | fail); have e13 : w1.cell? ⟨w.heap.size + 1, 1, none⟩ = some (.int .u64 (lo d)) := cell_on hb1 (by first | (simp [go_sem, *]; done) | (simp [go_sem, World.cell?_alloc_some, *]; done) | fail); have s10 : w.heap.size < w1.heap.size := World.block_lt_of_cell? _ _ e10; have t10 : w.heap.size < w1.heap.size + 1 := Nat.lt_succ_of_lt s10; have s12 : w.heap.size + 1 < w1.heap.size := World.block_lt_of_cell? _ _ e12; have t12 : w.heap.size + 1 < w1.heap.size + 1 := Nat.lt_succ_of_lt s12) | (go_at_call 96; (with_reducible refine (SC.out _).mono ?_); rintro e w2 ⟨rfl, hb2⟩; have e20 : w2.cell? ⟨w.heap.size, 0, none⟩ = some (.int .i64 (hi n)) := cell_on hb2 (by first | (simp [go_sem, *]; done) | (simp [go_sem, World.cell?_alloc_some, *]; done) | fail); have e21 : w2.cell? ⟨w.heap.size, 1, none⟩ = some (.int .u64 (lo n)) := cell_on hb2 (by first | (simp [go_sem, *]; done) | (simp [go_sem, World.cell?_alloc_some, *]; done) | fail); have e22 : w2.cell? ⟨w.heap.size + 1, 0, none⟩ = some (.int .i64 (hi d)) := cell_on hb2 (by first | (simp [go_sem, *]; done) | (simp [go_sem, World.cell?_alloc_some, *]; done) | fail); have e23 : w2.cell? ⟨w.heap.size + 1, 1, none⟩ = some (.int .u64 (lo d)) := cell_on hb2 (by first | (simp [go_sem, *]; done) | (simp [go_sem, World.cell?_alloc_some, *]; done) | fail); have s20 : w.heap.size < w2.heap.size := World.block_lt_of_cell? _ _ e20; have t20 : w.heap.size < w2.heap.size + 1 := Nat.lt_succ_of_lt s20; have s22 : w.heap.size + 1 < w2.heap.size := World.block_lt_of_cell? _ _ e22; have t22 : w.heap.size + 1 < w2.heap.size + 1 := Nat.lt_succ_of_lt s22) | (go_at_call 97; (with_reducible refine (TC.out _).mono ?_); rintro e w' ⟨rfl, rfl⟩))
      go_ret2
      refine ⟨rfl, ?_⟩
      repeat (first | exact Below.refl _ _ | assumption | apply Below.drew | refine Below.setCell ?_ (by first | omega | (simp; done) | (simp; omega)) _ | refine Below.alloc ?_ (by first | omega | (simp; done) | (simp; omega)) _ | refine Below.trans ?_ (hb2.mono (by first | omega | (simp; done) | (simp; omega))) | refine Below.trans ?_ (hb1.mono (by first | omega | (simp; done) | (simp; omega))))
    | false =>
      have SC := fun W : World => small_any q W
      rw [g, show sm q = 0 from if_neg (by simp [g])] at SC
      have SC := Lib.hid SC
      have gw : wd q = false := by
        have := isS_no g
        unfold wd; simp only [decide_eq_false_iff_not]; omega
      have H := Lib.hid (And.intro (tw_out gw) (te_out gw))
      clear g gw
      go_enter Try.func62, Try.ntmps62
      go_wp2_with (first | (go_at_call 95; (with_reducible refine (RC.out _).mono ?_); rintro e w1 ⟨rfl, hb1⟩; have e10 : w1.cell? ⟨w.heap.size, 0, none⟩ = some (.int .i64 (hi n)) := cell_on hb1 (by first | (simp [go_sem, *]; done) | (simp [go_sem, World.cell?_alloc_some, *]; done) | fail); have e11 : w1.cell? ⟨w.heap.size, 1, none⟩ = some (.int .u64 (lo n)) := cell_on hb1 (by first | (simp [go_sem, *]; done) | (simp [go_sem, World.cell?_alloc_some, *]; done) | fail); have e12 : w1.cell? ⟨w.heap.size + 1, 0, none⟩ = some (.int .i64 (hi d)) := cell_on hb1 (by first | (simp [go_sem, *]; done) | (simp [go_sem, World.cell?_alloc_some, *]; done) | fail); have e13 : w1.cell? ⟨w.heap.size + 1, 1, none⟩ = some (.int .u64 (lo d)) := cell_on hb1 (by first | (simp [go_sem, *]; done) | (simp [go_sem, World.cell?_alloc_some, *]; done) | fail); have s10 : w.heap.size < w1.heap.size := World.block_lt_of_cell? _ _ e10; have t10 : w.heap.size < w1.heap.size + 1 := Nat.lt_succ_of_lt s10; have s12 : w.heap.size + 1 < w1.heap.size := World.block_lt_of_cell? _ _ e12; have t12 : w.heap.size + 1 < w1.heap.size + 1 := Nat.lt_succ_of_lt s12) | (go_at_call 96; (with_reducible refine (SC.out _).mono ?_); rintro e w2 ⟨rfl, hb2⟩; have e20 : w2.cell? ⟨w.heap.size, 0, none⟩ = some (.int .i64 (hi n)) := cell_on hb2 (by first | (simp [go_sem, *]; done) | (simp [go_sem, World.cell?_alloc_some, *]; done) | fail); have e21 : w2.cell? ⟨w.heap.size, 1, none⟩ = some (.int .u64 (lo n)) := cell_on hb2 (by first | (simp [go_sem, *]; done) | (simp [go_sem, World.cell?_alloc_some, *]; done) | fail); have e22 : w2.cell? ⟨w.heap.size + 1, 0, none⟩ = some (.int .i64 (hi d)) := cell_on hb2 (by first | (simp [go_sem, *]; done) | (simp [go_sem, World.cell?_alloc_some, *]; done) | fail); have e23 : w2.cell? ⟨w.heap.size + 1, 1, none⟩ = some (.int .u64 (lo d)) := cell_on hb2 (by first | (simp [go_sem, *]; done) | (simp [go_sem, World.cell?_alloc_some, *]; done) | fail); have s20 : w.heap.size < w2.heap.size := World.block_lt_of_cell? _ _ e20; have t20 : w.heap.size < w2.heap.size + 1 := Nat.lt_succ_of_lt s20; have s22 : w.heap.size + 1 < w2.heap.size := World.block_lt_of_cell? _ _ e22; have t22 : w.heap.size + 1 < w2.heap.size + 1 := Nat.lt_succ_of_lt s22) | (go_at_call 97; (with_reducible refine (TC.out _).mono ?_); rintro e w' ⟨rfl, rfl⟩))
      go_ret2
      refine ⟨by rw [H.out.1, H.out.2] <;> rfl, ?_⟩
      repeat (first | exact Below.refl _ _ | assumption | apply Below.drew | refine Below.setCell ?_ (by first | omega | (simp; done) | (simp; omega)) _ | refine Below.alloc ?_ (by first | omega | (simp; done) | (simp; omega)) _ | refine Below.trans ?_ (hb2.mono (by first | omega | (simp; done) | (simp; omega))) | refine Below.trans ?_ (hb1.mono (by first | omega | (simp; done) | (simp; omega))))
  · have gw : wd (rd n d) = false := by
      rw [R_iff] at r
      unfold wd; simp only [decide_eq_false_iff_not]; omega
    have H := Lib.hid (And.intro (tw_out gw) (te_out gw))
    rw [told_out r, over_out r] at RC
    have RC := Lib.hid RC
    clear hn hd h0 r gw
    generalize rd n d = q at *
    go_enter Try.func62, Try.ntmps62
    go_wp2_with (first | (go_at_call 95; (with_reducible refine (RC.out _).mono ?_); rintro e w1 ⟨rfl, hb1⟩; have e10 : w1.cell? ⟨w.heap.size, 0, none⟩ = some (.int .i64 (hi n)) := cell_on hb1 (by first | (simp [go_sem, *]; done) | (simp [go_sem, World.cell?_alloc_some, *]; done) | fail); have e11 : w1.cell? ⟨w.heap.size, 1, none⟩ = some (.int .u64 (lo n)) := cell_on hb1 (by first | (simp [go_sem, *]; done) | (simp [go_sem, World.cell?_alloc_some, *]; done) | fail); have e12 : w1.cell? ⟨w.heap.size + 1, 0, none⟩ = some (.int .i64 (hi d)) := cell_on hb1 (by first | (simp [go_sem, *]; done) | (simp [go_sem, World.cell?_alloc_some, *]; done) | fail); have e13 : w1.cell? ⟨w.heap.size + 1, 1, none⟩ = some (.int .u64 (lo d)) := cell_on hb1 (by first | (simp [go_sem, *]; done) | (simp [go_sem, World.cell?_alloc_some, *]; done) | fail); have s10 : w.heap.size < w1.heap.size := World.block_lt_of_cell? _ _ e10; have t10 : w.heap.size < w1.heap.size + 1 := Nat.lt_succ_of_lt s10; have s12 : w.heap.size + 1 < w1.heap.size := World.block_lt_of_cell? _ _ e12; have t12 : w.heap.size + 1 < w1.heap.size + 1 := Nat.lt_succ_of_lt s12) | (go_at_call 96; (with_reducible refine (SC.out _).mono ?_); rintro e w2 ⟨rfl, hb2⟩; have e20 : w2.cell? ⟨w.heap.size, 0, none⟩ = some (.int .i64 (hi n)) := cell_on hb2 (by first | (simp [go_sem, *]; done) | (simp [go_sem, World.cell?_alloc_some, *]; done) | fail); have e21 : w2.cell? ⟨w.heap.size, 1, none⟩ = some (.int .u64 (lo n)) := cell_on hb2 (by first | (simp [go_sem, *]; done) | (simp [go_sem, World.cell?_alloc_some, *]; done) | fail); have e22 : w2.cell? ⟨w.heap.size + 1, 0, none⟩ = some (.int .i64 (hi d)) := cell_on hb2 (by first | (simp [go_sem, *]; done) | (simp [go_sem, World.cell?_alloc_some, *]; done) | fail); have e23 : w2.cell? ⟨w.heap.size + 1, 1, none⟩ = some (.int .u64 (lo d)) := cell_on hb2 (by first | (simp [go_sem, *]; done) | (simp [go_sem, World.cell?_alloc_some, *]; done) | fail); have s20 : w.heap.size < w2.heap.size := World.block_lt_of_cell? _ _ e20; have t20 : w.heap.size < w2.heap.size + 1 := Nat.lt_succ_of_lt s20; have s22 : w.heap.size + 1 < w2.heap.size := World.block_lt_of_cell? _ _ e22; have t22 : w.heap.size + 1 < w2.heap.size + 1 := Nat.lt_succ_of_lt s22) | (go_at_call 97; (with_reducible refine (TC.out _).mono ?_); rintro e w' ⟨rfl, rfl⟩))
    go_ret2
    refine ⟨by rw [H.out.1, H.out.2] <;> rfl, ?_⟩
    repeat (first | exact Below.refl _ _ | assumption | apply Below.drew | refine Below.setCell ?_ (by first | omega | (simp; done) | (simp; omega)) _ | refine Below.alloc ?_ (by first | omega | (simp; done) | (simp; omega)) _ | refine Below.trans ?_ (hb1.mono (by first | omega | (simp; done) | (simp; omega))))
end Go.Proofs.Ytdbgooobbemklaa
namespace Go.Proofs.Ytdbgooobbemklaa
open Go.RowKit

theorem way_plus (w : World) : Calls Try.prog 94 #[.int .i64 0] w fun e w' => e = .returned (.func (.func 130) #[] #[]) ∧ w = w' := by
  go_enter Try.func94, Try.ntmps94
  go_wp2
  go_ret
  exact ⟨rfl, rfl⟩

theorem way_less (w : World) : Calls Try.prog 94 #[.int .i64 1] w fun e w' => e = .returned (.func (.func 131) #[] #[]) ∧ w = w' := by
  go_enter Try.func94, Try.ntmps94
  go_wp2
  go_ret
  exact ⟨rfl, rfl⟩

theorem way_times (w : World) : Calls Try.prog 94 #[.int .i64 2] w fun e w' => e = .returned (.func (.func 132) #[] #[]) ∧ w = w' := by
  go_enter Try.func94, Try.ntmps94
  go_wp2
  go_ret
  exact ⟨rfl, rfl⟩

theorem way_over (w : World) : Calls Try.prog 94 #[.int .i64 3] w fun e w' => e = .returned (.func (.func 133) #[] #[]) ∧ w = w' := by
  go_enter Try.func94, Try.ntmps94
  go_wp2
  go_ret
  exact ⟨rfl, rfl⟩

/-- fx.reckon, handed what is no word or no count of fraction bits -/
theorem reckon_form (o a b f : Int) (w : World) (h : (wd a && wd b && fb f) = false) : Calls Try.prog 61 #[.int .i64 o, .int .i64 a, .int .i64 b, .int .i64 f] w fun e w' => e = .returned (.tuple #[.int .i64 (0), .int .i64 (1)]) ∧ w = w' := by
  cases ga : wd a with
  | false =>
    have CA := fun W : World => check_any a W
    rw [ga] at CA
    have CA := Lib.hid CA
    clear h ga
    go_enter Try.func61, Try.ntmps61
    go_wp2_with (go_at_call 13; (with_reducible refine (CA.out _).mono ?_); rintro e w' ⟨rfl, rfl⟩)
    go_ret2
    exact ⟨rfl, rfl⟩
  | true =>
  cases gb : wd b with
  | false =>
    have CA := fun W : World => check_any a W
    rw [ga] at CA
    have CA := Lib.hid CA
    have CB := fun W : World => check_any b W
    rw [gb] at CB
    have CB := Lib.hid CB
    clear h ga gb
    go_enter Try.func61, Try.ntmps61
    go_wp2_with (first | (go_at_call 13; (with_reducible refine (CA.out _).mono ?_); rintro e w' ⟨rfl, rfl⟩) | (go_at_call 13; (with_reducible refine (CB.out _).mono ?_); rintro e w' ⟨rfl, rfl⟩))
    go_ret2
    exact ⟨rfl, rfl⟩
  | true =>
    have gf : fb f = false := by rw [ga, gb] at h; simpa using h
    have CA := fun W : World => check_any a W
    rw [ga] at CA
    have CA := Lib.hid CA
    have CB := fun W : World => check_any b W
    rw [gb] at CB
    have CB := Lib.hid CB
    have CF := fun W : World => checkf_any f W
    rw [gf] at CF
    have CF := Lib.hid CF
    clear h ga gb gf
    go_enter Try.func61, Try.ntmps61
    go_wp2_with (first | (go_at_call 13; (with_reducible refine (CA.out _).mono ?_); rintro e w' ⟨rfl, rfl⟩) | (go_at_call 13; (with_reducible refine (CB.out _).mono ?_); rintro e w' ⟨rfl, rfl⟩) | (go_at_call 14; (with_reducible refine (CF.out _).mono ?_); rintro e w' ⟨rfl, rfl⟩))
    go_ret2
    exact ⟨rfl, rfl⟩

theorem reckon_plus (a b f : Int) (w : World) (ga : wd a = true) (gb : wd b = true) (gf : fb f = true) : Calls Try.prog 61 #[.int .i64 0, .int .i64 a, .int .i64 b, .int .i64 f] w fun e w' => e = .returned (.tuple #[.int .i64 (tw (a + b)), .int .i64 (te (a + b))]) ∧ w = w' := by
  have WC := Lib.hid (fun W : World => wordplus_any a b f W ga gb)
  have CA := fun W : World => check_any a W
  rw [ga] at CA
  have CA := Lib.hid CA
  have CB := fun W : World => check_any b W
  rw [gb] at CB
  have CB := Lib.hid CB
  have CF := fun W : World => checkf_any f W
  rw [gf] at CF
  have CF := Lib.hid CF
  clear ga gb gf
  go_enter Try.func61, Try.ntmps61
  go_wp2_with (first | (go_at_call 13; (with_reducible refine (CA.out _).mono ?_); rintro e w' ⟨rfl, rfl⟩) | (go_at_call 13; (with_reducible refine (CB.out _).mono ?_); rintro e w' ⟨rfl, rfl⟩) | (go_at_call 14; (with_reducible refine (CF.out _).mono ?_); rintro e w' ⟨rfl, rfl⟩) | (go_at_call 94; (with_reducible refine (way_plus _).mono ?_); rintro e w' ⟨rfl, rfl⟩) | (go_at_call 130; (with_reducible refine (WC.out _).mono ?_); rintro e w' ⟨rfl, rfl⟩))
  go_ret2
  exact ⟨rfl, rfl⟩

theorem reckon_less (a b f : Int) (w : World) (ga : wd a = true) (gb : wd b = true) (gf : fb f = true) : Calls Try.prog 61 #[.int .i64 1, .int .i64 a, .int .i64 b, .int .i64 f] w fun e w' => e = .returned (.tuple #[.int .i64 (tw (a - b)), .int .i64 (te (a - b))]) ∧ w = w' := by
  have WC := Lib.hid (fun W : World => wordless_any a b f W ga gb)
  have CA := fun W : World => check_any a W
  rw [ga] at CA
  have CA := Lib.hid CA
  have CB := fun W : World => check_any b W
  rw [gb] at CB
  have CB := Lib.hid CB
  have CF := fun W : World => checkf_any f W
  rw [gf] at CF
  have CF := Lib.hid CF
  clear ga gb gf
  go_enter Try.func61, Try.ntmps61
  go_wp2_with (first | (go_at_call 13; (with_reducible refine (CA.out _).mono ?_); rintro e w' ⟨rfl, rfl⟩) | (go_at_call 13; (with_reducible refine (CB.out _).mono ?_); rintro e w' ⟨rfl, rfl⟩) | (go_at_call 14; (with_reducible refine (CF.out _).mono ?_); rintro e w' ⟨rfl, rfl⟩) | (go_at_call 94; (with_reducible refine (way_less _).mono ?_); rintro e w' ⟨rfl, rfl⟩) | (go_at_call 131; (with_reducible refine (WC.out _).mono ?_); rintro e w' ⟨rfl, rfl⟩))
  go_ret2
  exact ⟨rfl, rfl⟩

theorem fxadd_form (a b : Int) (w : World) (h : (wd a && wd b) = false) : Calls Try.prog 21 #[.int .i64 a, .int .i64 b] w fun e w' => e = .returned (.tuple #[.int .i64 (0), .int .i64 (1)]) ∧ w = w' := by
  have C := Lib.hid (fun W : World => reckon_form 0 a b 8 W (by rw [h]; rfl))
  clear h
  go_enter Try.func21, Try.ntmps21
  go_wp2_with (go_at_call 61; (with_reducible refine (C.out _).mono ?_); rintro e w' ⟨rfl, rfl⟩)
  go_ret2
  exact ⟨rfl, rfl⟩
theorem fxadd_any (a b : Int) (w : World) (ga : wd a = true) (gb : wd b = true) : Calls Try.prog 21 #[.int .i64 a, .int .i64 b] w fun e w' => e = .returned (.tuple #[.int .i64 (tw (a + b)), .int .i64 (te (a + b))]) ∧ w = w' := by
  have C := fun W : World => reckon_plus a b 8 W ga gb rfl

  have C := Lib.hid C
  clear ga gb
  go_enter Try.func21, Try.ntmps21
  go_wp2_with (go_at_call 61; (with_reducible refine (C.out _).mono ?_); rintro e w' ⟨rfl, rfl⟩)
  go_ret2
  exact ⟨rfl, rfl⟩

theorem fxsub_form (a b : Int) (w : World) (h : (wd a && wd b) = false) : Calls Try.prog 23 #[.int .i64 a, .int .i64 b] w fun e w' => e = .returned (.tuple #[.int .i64 (0), .int .i64 (1)]) ∧ w = w' := by
  have C := Lib.hid (fun W : World => reckon_form 1 a b 8 W (by rw [h]; rfl))
  clear h
  go_enter Try.func23, Try.ntmps23
  go_wp2_with (go_at_call 61; (with_reducible refine (C.out _).mono ?_); rintro e w' ⟨rfl, rfl⟩)
  go_ret2
  exact ⟨rfl, rfl⟩
theorem fxsub_any (a b : Int) (w : World) (ga : wd a = true) (gb : wd b = true) : Calls Try.prog 23 #[.int .i64 a, .int .i64 b] w fun e w' => e = .returned (.tuple #[.int .i64 (tw (a - b)), .int .i64 (te (a - b))]) ∧ w = w' := by
  have C := fun W : World => reckon_less a b 8 W ga gb rfl

  have C := Lib.hid C
  clear ga gb
  go_enter Try.func23, Try.ntmps23
  go_wp2_with (go_at_call 61; (with_reducible refine (C.out _).mono ?_); rintro e w' ⟨rfl, rfl⟩)
  go_ret2
  exact ⟨rfl, rfl⟩

theorem fxneg_form (a : Int) (w : World) (h : (wd a) = false) : Calls Try.prog 24 #[.int .i64 a] w fun e w' => e = .returned (.tuple #[.int .i64 (0), .int .i64 (1)]) ∧ w = w' := by
  have C := Lib.hid (fun W : World => reckon_form 1 0 a 8 W (by rw [show wd 0 = true from rfl, h]; rfl))
  clear h
  go_enter Try.func24, Try.ntmps24
  go_wp2_with (go_at_call 61; (with_reducible refine (C.out _).mono ?_); rintro e w' ⟨rfl, rfl⟩)
  go_ret2
  exact ⟨rfl, rfl⟩
theorem fxneg_any (a : Int) (w : World) (ga : wd a = true) : Calls Try.prog 24 #[.int .i64 a] w fun e w' => e = .returned (.tuple #[.int .i64 (tw ( - a)), .int .i64 (te ( - a))]) ∧ w = w' := by
  have C := fun W : World => reckon_less 0 a 8 W rfl ga rfl
  rw [Int.zero_sub] at C
  have C := Lib.hid C
  clear ga
  go_enter Try.func24, Try.ntmps24
  go_wp2_with (go_at_call 61; (with_reducible refine (C.out _).mono ?_); rintro e w' ⟨rfl, rfl⟩)
  go_ret2
  exact ⟨rfl, rfl⟩
end Go.Proofs.Ytdbgooobbemklaa
namespace Go.Proofs.Ytdbgooobbemklaa
open Go.RowKit

/-- An element: two words (or not), fraction bits (or not), two numbers, a wide one, a count. -/
structure Fl where
  a : Int
  b : Int
  f : Int
  n : Int
  d : Int
  v : Int
  k : Int
def Fl.ok (e : Fl) : Prop := (-9223372036854775808 ≤ e.a ∧ e.a ≤ 9223372036854775807) ∧ (-9223372036854775808 ≤ e.b ∧ e.b ≤ 9223372036854775807) ∧ (-9223372036854775808 ≤ e.f ∧ e.f ≤ 9223372036854775807) ∧ (-9223372036854775808 ≤ e.n ∧ e.n ≤ 9223372036854775807) ∧ (-9223372036854775808 ≤ e.d ∧ e.d ≤ 9223372036854775807) ∧ R e.v ∧ (-9223372036854775808 ≤ e.k ∧ e.k ≤ 9223372036854775807)
/-- Its eight cells. -/
def FlAt (w : World) (b o : Nat) (e : Fl) : Prop :=
  w.cell? ⟨b, o, none⟩ = some (.int .i64 e.a) ∧ w.cell? ⟨b, o + 1, none⟩ = some (.int .i64 e.b) ∧ w.cell? ⟨b, o + 2, none⟩ = some (.int .i64 e.f) ∧ w.cell? ⟨b, o + 3, none⟩ = some (.int .i64 e.n) ∧ w.cell? ⟨b, o + 4, none⟩ = some (.int .i64 e.d) ∧ w.cell? ⟨b, o + 5, none⟩ = some (.int .i64 (hi e.v)) ∧ w.cell? ⟨b, o + 6, none⟩ = some (.int .u64 (lo e.v)) ∧ w.cell? ⟨b, o + 7, none⟩ = some (.int .i64 e.k)
theorem FlAt.below {w w' : World} {B b o : Nat} {e : Fl} (h : FlAt w b o e) (hb : Below B w w') (hB : b < B) : FlAt w' b o e := by
  obtain ⟨h1, h2, h3, h4, h5, h6, h7, h8⟩ := h
  exact ⟨(hb.cell (p := ⟨b, o, none⟩) hB).trans h1, (hb.cell (p := ⟨b, o + 1, none⟩) hB).trans h2, (hb.cell (p := ⟨b, o + 2, none⟩) hB).trans h3, (hb.cell (p := ⟨b, o + 3, none⟩) hB).trans h4, (hb.cell (p := ⟨b, o + 4, none⟩) hB).trans h5, (hb.cell (p := ⟨b, o + 5, none⟩) hB).trans h6, (hb.cell (p := ⟨b, o + 6, none⟩) hB).trans h7, (hb.cell (p := ⟨b, o + 7, none⟩) hB).trans h8⟩
end Go.Proofs.Ytdbgooobbemklaa
namespace Go.Proofs.Ytdbgooobbemklaa
open Go.RowKit

theorem num2_any (v : Int) (w : World) : Calls Try.prog 12 #[.int .i64 v] w fun e w' => e = .returned (.int .i64 v) ∧ w = w' := by
  go_enter Try.func12, Try.ntmps12
  go_wp2
  go_ret
  exact ⟨rfl, rfl⟩
theorem may_any (v : Int) (w : World) : Calls Try.prog 10 #[.int .i64 v] w fun e w' => e = .returned (.bool (wd v)) ∧ w = w' := by
  cases g : wd v with
  | true =>
    obtain ⟨g1, g2⟩ := wd_bd g
    clear g
    go_enter Try.func10, Try.ntmps10
    go_wp2
    go_ret
    exact ⟨rfl, rfl⟩
  | false =>
    have h := wd_no g
    clear g
    by_cases g1 : v ≤ -140737488355328
    · clear h
      go_enter Try.func10, Try.ntmps10
      go_wp2
      go_ret
      exact ⟨rfl, rfl⟩
    · have g2 : ¬ v < 140737488355328 := by omega
      have g3 : -140737488355328 < v := by omega
      clear h g1
      go_enter Try.func10, Try.ntmps10
      go_wp2
      go_ret
      exact ⟨rfl, rfl⟩
end Go.Proofs.Ytdbgooobbemklaa
namespace Go.Proofs.Ytdbgooobbemklaa
open Go.RowKit

theorem R_pow {n : Nat} (h : n ≤ 126) : R (2 ^ n) := by
  have : (2 : Int) ^ n ≤ 2 ^ 126 := by have := Nat.pow_le_pow_right (show 0 < 2 by decide) h; exact_mod_cast this
  have : (0 : Int) < 2 ^ n := Int.pow_pos (by decide)
  rw [R_iff]
  omega
theorem R_prod {a b : Int} (a0 : -9223372036854775808 ≤ a) (a1 : a ≤ 9223372036854775807) (b0 : -9223372036854775808 ≤ b) (b1 : b ≤ 9223372036854775807) : R (a * b) := by
  have h : (a * b).natAbs ≤ 9223372036854775808 * 9223372036854775808 := by
    rw [Int.natAbs_mul]
    exact Nat.mul_le_mul (by omega) (by omega)
  generalize a * b = x at *
  rw [R_iff]
  omega
theorem pow_ne (n : Nat) : (2 : Int) ^ n ≠ 0 := by have : (0 : Int) < 2 ^ n := Int.pow_pos (by decide); omega
set_option maxRecDepth 100000 in
set_option maxHeartbeats 2000000 in
/-- fx.Close -/
theorem close_any (a : Int) (n : Nat) (w : World) (ha : R a) (h1 : n ≤ 126) : Calls Try.prog 28 #[Wv a, .int .i64 n] w fun e w' => e = .returned (.tuple #[.int .i64 (tw (rd a (2 ^ n))), .int .i64 (te (rd a (2 ^ n)))]) ∧ Below w.heap.size w w' := by
  have LC := fun W : World => shl_any 1 n W (by decide) h1
  have NC := Lib.hid (fun W : World => near_any a (2 ^ n) W ha (R_pow h1) (pow_ne n))
  rw [Int.one_mul, told_in (R_pow h1), over_in (R_pow h1)] at LC
  have LC := Lib.hid LC
  have F1 := Lib.hid (fun W : World => from_at 1 W (by decide) (by decide))
  clear ha h1
  generalize tw (rd a (2 ^ n)) = q at *
  generalize te (rd a (2 ^ n)) = g at *
  generalize (2 : Int) ^ n = t at *
  go_enter Try.func28, Try.ntmps28
  go_wp2_with (first | (go_at_call 64; (with_reducible refine (F1.out _).mono ?_); rintro e w' ⟨rfl, rfl⟩) | (go_at_call 65; (with_reducible refine (LC.out _).mono ?_); rintro e w1 ⟨rfl, hb1⟩; have e10 : w1.cell? ⟨w.heap.size, 0, none⟩ = some (.int .i64 (hi a)) := cell_on hb1 (by first | (simp [go_sem, *]; done) | (simp [go_sem, World.cell?_alloc_some, *]; done) | fail); have e11 : w1.cell? ⟨w.heap.size, 1, none⟩ = some (.int .u64 (lo a)) := cell_on hb1 (by first | (simp [go_sem, *]; done) | (simp [go_sem, World.cell?_alloc_some, *]; done) | fail); have s10 : w.heap.size < w1.heap.size := World.block_lt_of_cell? _ _ e10; have t10 : w.heap.size < w1.heap.size + 1 := Nat.lt_succ_of_lt s10) | (go_at_call 62; (with_reducible refine (NC.out _).mono ?_); rintro e w2 ⟨rfl, hb2⟩; have e20 : w2.cell? ⟨w.heap.size, 0, none⟩ = some (.int .i64 (hi a)) := cell_on hb2 (by first | (simp [go_sem, *]; done) | (simp [go_sem, World.cell?_alloc_some, *]; done) | fail); have e21 : w2.cell? ⟨w.heap.size, 1, none⟩ = some (.int .u64 (lo a)) := cell_on hb2 (by first | (simp [go_sem, *]; done) | (simp [go_sem, World.cell?_alloc_some, *]; done) | fail); have s20 : w.heap.size < w2.heap.size := World.block_lt_of_cell? _ _ e20; have t20 : w.heap.size < w2.heap.size + 1 := Nat.lt_succ_of_lt s20))
  go_ret2
  refine ⟨rfl, ?_⟩
  repeat (first | exact Below.refl _ _ | assumption | apply Below.drew | refine Below.setCell ?_ (by first | omega | (simp; done) | (simp; omega)) _ | refine Below.alloc ?_ (by first | omega | (simp; done) | (simp; omega)) _ | refine Below.trans ?_ (hb2.mono (by first | omega | (simp; done) | (simp; omega))) | refine Below.trans ?_ (hb1.mono (by first | omega | (simp; done) | (simp; omega))))
set_option maxRecDepth 100000 in
set_option maxHeartbeats 2000000 in
theorem close_form (a n : Int) (w : World) (h : n < 0 ∨ 126 < n) : Calls Try.prog 28 #[Wv a, .int .i64 n] w fun e w' => e = .returned (.tuple #[.int .i64 (0), .int .i64 (1)]) ∧ Below w.heap.size w w' := by
  have LC := Lib.hid (fun W : World => left_form 1 n W h)
  have F1 := Lib.hid (fun W : World => from_at 1 W (by decide) (by decide))
  clear h
  go_enter Try.func28, Try.ntmps28
  go_wp2_with (first | (go_at_call 64; (with_reducible refine (F1.out _).mono ?_); rintro e w' ⟨rfl, rfl⟩) | (go_at_call 65; (with_reducible refine (LC.out _).mono ?_); rintro e w1 ⟨rfl, hb1⟩; have e10 : w1.cell? ⟨w.heap.size, 0, none⟩ = some (.int .i64 (hi a)) := cell_on hb1 (by first | (simp [go_sem, *]; done) | (simp [go_sem, World.cell?_alloc_some, *]; done) | fail); have e11 : w1.cell? ⟨w.heap.size, 1, none⟩ = some (.int .u64 (lo a)) := cell_on hb1 (by first | (simp [go_sem, *]; done) | (simp [go_sem, World.cell?_alloc_some, *]; done) | fail); have s10 : w.heap.size < w1.heap.size := World.block_lt_of_cell? _ _ e10; have t10 : w.heap.size < w1.heap.size + 1 := Nat.lt_succ_of_lt s10))
  go_ret2
  refine ⟨rfl, ?_⟩
  repeat (first | exact Below.refl _ _ | assumption | apply Below.drew | refine Below.setCell ?_ (by first | omega | (simp; done) | (simp; omega)) _ | refine Below.alloc ?_ (by first | omega | (simp; done) | (simp; omega)) _ | refine Below.trans ?_ (hb1.mono (by first | omega | (simp; done) | (simp; omega))))
set_option maxRecDepth 100000 in
set_option maxHeartbeats 2000000 in
/-- fx.Ratio, where the bits are none -/
theorem ratio_form (n d f : Int) (w : World) (h : fb f = false) : Calls Try.prog 27 #[.int .i64 n, .int .i64 d, .int .i64 f] w fun e w' => e = .returned (.tuple #[.int .i64 (0), .int .i64 (1)]) ∧ Below w.heap.size w w' := by
  have C := fun W : World => checkf_any f W
  rw [h] at C
  have C := Lib.hid C
  clear h
  go_enter Try.func27, Try.ntmps27
  go_wp2_with (go_at_call 14; (with_reducible refine (C.out _).mono ?_); rintro e w' ⟨rfl, rfl⟩)
  go_ret2
  refine ⟨rfl, ?_⟩
  repeat (first | exact Below.refl _ _ | assumption | apply Below.drew | refine Below.setCell ?_ (by first | omega | (simp; done) | (simp; omega)) _ | refine Below.alloc ?_ (by first | omega | (simp; done) | (simp; omega)) _)
set_option maxRecDepth 100000 in
set_option maxHeartbeats 2000000 in
/-- fx.Ratio -/
theorem ratio_any (n d : Int) (f : Nat) (w : World) (n0 : -9223372036854775808 ≤ n) (n1 : n ≤ 9223372036854775807) (d0 : -9223372036854775808 ≤ d) (d1 : d ≤ 9223372036854775807) (h : fb f = true) (hd : d ≠ 0) : Calls Try.prog 27 #[.int .i64 n, .int .i64 d, .int .i64 f] w fun e w' => e = .returned (.tuple #[.int .i64 (tw (rd (n * 2 ^ f) d)), .int .i64 (te (rd (n * 2 ^ f) d))]) ∧ Below w.heap.size w w' := by
  have C := fun W : World => checkf_any f W
  rw [h] at C
  have C := Lib.hid C
  have hf := fb_bd h
  have p0 : (0 : Int) < 2 ^ f := Int.pow_pos (by decide)
  have p1 : (2 : Int) ^ f ≤ 2 ^ 32 := by have := Nat.pow_le_pow_right (show 0 < 2 by decide) (show f ≤ 32 by omega); exact_mod_cast this
  have e0 : wrap64 ((2 : Int) ^ f) = 2 ^ f := IntWalk.wrap64_in _ ⟨by omega, by omega⟩
  have MC := Lib.hid (fun W : World => mul_any n (2 ^ f) W n0 n1 (by omega) (by omega))
  have FC := Lib.hid (fun W : World => from_at d W d0 d1)
  have Rn : R (n * 2 ^ f) := R_prod n0 n1 (by omega) (by omega)
  have NC := Lib.hid (fun W : World => near_any (n * 2 ^ f) d W Rn (R_small d0 d1) hd)
  clear h hd Rn p0 p1
  generalize n * 2 ^ f = m at *
  generalize tw (rd m d) = q at *
  generalize te (rd m d) = g at *
  go_enter Try.func27, Try.ntmps27
  go_wp2_with (first | (go_at_call 14; (with_reducible refine (C.out _).mono ?_); rintro e w' ⟨rfl, rfl⟩) | (go_at_call 64; (with_reducible refine (FC.out _).mono ?_); rintro e w' ⟨rfl, rfl⟩) | (go_at_call 63; (with_reducible refine (MC.out _).mono ?_); rintro e w' ⟨rfl, rfl⟩) | (go_at_call 62; (with_reducible refine (NC.out _).mono ?_); rintro e w2 ⟨rfl, hb2⟩; ))
  go_ret2
  refine ⟨rfl, ?_⟩
  repeat (first | exact Below.refl _ _ | assumption | apply Below.drew | refine Below.setCell ?_ (by first | omega | (simp; done) | (simp; omega)) _ | refine Below.alloc ?_ (by first | omega | (simp; done) | (simp; omega)) _ | refine Below.trans ?_ (hb2.mono (by first | omega | (simp; done) | (simp; omega))))
set_option maxRecDepth 100000 in
set_option maxHeartbeats 2000000 in
theorem ratio_zero (n d : Int) (f : Nat) (w : World) (n0 : -9223372036854775808 ≤ n) (n1 : n ≤ 9223372036854775807) (h : fb f = true) (hd : d = 0) : Calls Try.prog 27 #[.int .i64 n, .int .i64 d, .int .i64 f] w fun e w' => e = .returned (.tuple #[.int .i64 (0), .int .i64 (4)]) ∧ Below w.heap.size w w' := by
  have C := fun W : World => checkf_any f W
  rw [h] at C
  have C := Lib.hid C
  have hf := fb_bd h
  have p0 : (0 : Int) < 2 ^ f := Int.pow_pos (by decide)
  have p1 : (2 : Int) ^ f ≤ 2 ^ 32 := by have := Nat.pow_le_pow_right (show 0 < 2 by decide) (show f ≤ 32 by omega); exact_mod_cast this
  have e0 : wrap64 ((2 : Int) ^ f) = 2 ^ f := IntWalk.wrap64_in _ ⟨by omega, by omega⟩
  have MC := Lib.hid (fun W : World => mul_any n (2 ^ f) W n0 n1 (by omega) (by omega))
  have FC := Lib.hid (fun W : World => from_at d W (by omega) (by omega))
  have NC := Lib.hid (fun W : World => near_zero (n * 2 ^ f) d W hd)
  clear h hd p0 p1
  generalize n * 2 ^ f = m at *
  go_enter Try.func27, Try.ntmps27
  go_wp2_with (first | (go_at_call 14; (with_reducible refine (C.out _).mono ?_); rintro e w' ⟨rfl, rfl⟩) | (go_at_call 64; (with_reducible refine (FC.out _).mono ?_); rintro e w' ⟨rfl, rfl⟩) | (go_at_call 63; (with_reducible refine (MC.out _).mono ?_); rintro e w' ⟨rfl, rfl⟩) | (go_at_call 62; (with_reducible refine (NC.out _).mono ?_); rintro e w2 ⟨rfl, hb2⟩; ))
  go_ret2
  refine ⟨rfl, ?_⟩
  repeat (first | exact Below.refl _ _ | assumption | apply Below.drew | refine Below.setCell ?_ (by first | omega | (simp; done) | (simp; omega)) _ | refine Below.alloc ?_ (by first | omega | (simp; done) | (simp; omega)) _ | refine Below.trans ?_ (hb2.mono (by first | omega | (simp; done) | (simp; omega))))
set_option maxRecDepth 100000 in
theorem wordtimes_any (a b : Int) (f : Nat) (w : World) (ga : wd a = true) (gb : wd b = true) (gf : fb f = true) : Calls Try.prog 132 #[.int .i64 a, .int .i64 b, .int .i64 f] w fun e w' => e = .returned (.tuple #[.int .i64 (tw (rd (a * b) (2 ^ f))), .int .i64 (te (rd (a * b) (2 ^ f)))]) ∧ Below w.heap.size w w' := by
  have A := wd_bd ga
  have B := wd_bd gb
  have Fb := fb_bd gf
  have MC := Lib.hid (fun W : World => mul_any a b W (by omega) (by omega) (by omega) (by omega))
  have CC := Lib.hid (fun W : World => close_any (a * b) f W (R_prod (by omega) (by omega) (by omega) (by omega)) (by omega))
  clear A B Fb ga gb gf
  generalize tw (rd (a * b) (2 ^ f)) = q at *
  generalize te (rd (a * b) (2 ^ f)) = g at *
  generalize a * b = m at *
  go_enter Try.func132, Try.ntmps132
  go_wp2_with (first | (go_at_call 63; (with_reducible refine (MC.out _).mono ?_); rintro e w' ⟨rfl, rfl⟩) | (go_at_call 28; (with_reducible refine (CC.out _).mono ?_); rintro e w1 ⟨rfl, hb1⟩))
  go_ret2
  refine ⟨rfl, ?_⟩
  repeat (first | exact Below.refl _ _ | assumption | apply Below.drew | refine Below.setCell ?_ (by first | omega | (simp; done) | (simp; omega)) _ | refine Below.alloc ?_ (by first | omega | (simp; done) | (simp; omega)) _ | refine Below.trans ?_ (hb1.mono (by first | omega | (simp; done) | (simp; omega))))
theorem wordover_any (a b : Int) (f : Nat) (w : World) (ga : wd a = true) (gb : wd b = true) (gf : fb f = true) (h0 : b ≠ 0) : Calls Try.prog 133 #[.int .i64 a, .int .i64 b, .int .i64 f] w fun e w' => e = .returned (.tuple #[.int .i64 (tw (rd (a * 2 ^ f) b)), .int .i64 (te (rd (a * 2 ^ f) b))]) ∧ Below w.heap.size w w' := by
  have A := wd_bd ga
  have B := wd_bd gb
  have RC := Lib.hid (fun W : World => ratio_any a b f W (by omega) (by omega) (by omega) (by omega) gf h0)
  clear A B ga gb gf h0
  generalize tw (rd (a * 2 ^ f) b) = q at *
  generalize te (rd (a * 2 ^ f) b) = g at *
  go_enter Try.func133, Try.ntmps133
  go_wp2_with (go_at_call 27; (with_reducible refine (RC.out _).mono ?_); rintro e w1 ⟨rfl, hb1⟩)
  go_ret2
  refine ⟨rfl, ?_⟩
  repeat (first | exact Below.refl _ _ | assumption | apply Below.drew | refine Below.setCell ?_ (by first | omega | (simp; done) | (simp; omega)) _ | refine Below.alloc ?_ (by first | omega | (simp; done) | (simp; omega)) _ | refine Below.trans ?_ (hb1.mono (by first | omega | (simp; done) | (simp; omega))))
theorem wordover_zero (a b : Int) (f : Nat) (w : World) (ga : wd a = true) (gf : fb f = true) (h0 : b = 0) : Calls Try.prog 133 #[.int .i64 a, .int .i64 b, .int .i64 f] w fun e w' => e = .returned (.tuple #[.int .i64 (0), .int .i64 (4)]) ∧ Below w.heap.size w w' := by
  have A := wd_bd ga
  have RC := Lib.hid (fun W : World => ratio_zero a b f W (by omega) (by omega) gf h0)
  clear A ga gf h0
  go_enter Try.func133, Try.ntmps133
  go_wp2_with (go_at_call 27; (with_reducible refine (RC.out _).mono ?_); rintro e w1 ⟨rfl, hb1⟩)
  go_ret2
  refine ⟨rfl, ?_⟩
  repeat (first | exact Below.refl _ _ | assumption | apply Below.drew | refine Below.setCell ?_ (by first | omega | (simp; done) | (simp; omega)) _ | refine Below.alloc ?_ (by first | omega | (simp; done) | (simp; omega)) _ | refine Below.trans ?_ (hb1.mono (by first | omega | (simp; done) | (simp; omega))))
theorem reckon_times (a b : Int) (f : Nat) (w : World) (ga : wd a = true) (gb : wd b = true) (gf : fb f = true) : Calls Try.prog 61 #[.int .i64 2, .int .i64 a, .int .i64 b, .int .i64 f] w fun e w' => e = .returned (.tuple #[.int .i64 (tw (rd (a * b) (2 ^ f))), .int .i64 (te (rd (a * b) (2 ^ f)))]) ∧ Below w.heap.size w w' := by
  have WC := Lib.hid (fun W : World => wordtimes_any a b f W ga gb gf)
  have CA := fun W : World => check_any a W
  rw [ga] at CA
  have CA := Lib.hid CA
  have CB := fun W : World => check_any b W
  rw [gb] at CB
  have CB := Lib.hid CB
  have CF := fun W : World => checkf_any f W
  rw [gf] at CF
  have CF := Lib.hid CF
  clear ga gb gf
  generalize tw (rd (a * b) (2 ^ f)) = q at *
  generalize te (rd (a * b) (2 ^ f)) = g at *
  go_enter Try.func61, Try.ntmps61
  go_wp2_with (first | (go_at_call 13; (with_reducible refine (CA.out _).mono ?_); rintro e w' ⟨rfl, rfl⟩) | (go_at_call 13; (with_reducible refine (CB.out _).mono ?_); rintro e w' ⟨rfl, rfl⟩) | (go_at_call 14; (with_reducible refine (CF.out _).mono ?_); rintro e w' ⟨rfl, rfl⟩) | (go_at_call 94; (with_reducible refine (way_times _).mono ?_); rintro e w' ⟨rfl, rfl⟩) | (go_at_call 132; (with_reducible refine (WC.out _).mono ?_); rintro e w1 ⟨rfl, hb1⟩))
  go_ret2
  refine ⟨rfl, ?_⟩
  repeat (first | exact Below.refl _ _ | assumption | apply Below.drew | refine Below.setCell ?_ (by first | omega | (simp; done) | (simp; omega)) _ | refine Below.alloc ?_ (by first | omega | (simp; done) | (simp; omega)) _ | refine Below.trans ?_ (hb1.mono (by first | omega | (simp; done) | (simp; omega))))
theorem reckon_over (a b : Int) (f : Nat) (w : World) (ga : wd a = true) (gb : wd b = true) (gf : fb f = true) (h0 : b ≠ 0) : Calls Try.prog 61 #[.int .i64 3, .int .i64 a, .int .i64 b, .int .i64 f] w fun e w' => e = .returned (.tuple #[.int .i64 (tw (rd (a * 2 ^ f) b)), .int .i64 (te (rd (a * 2 ^ f) b))]) ∧ Below w.heap.size w w' := by
  have WC := Lib.hid (fun W : World => wordover_any a b f W ga gb gf h0)
  have CA := fun W : World => check_any a W
  rw [ga] at CA
  have CA := Lib.hid CA
  have CB := fun W : World => check_any b W
  rw [gb] at CB
  have CB := Lib.hid CB
  have CF := fun W : World => checkf_any f W
  rw [gf] at CF
  have CF := Lib.hid CF
  clear ga gb gf h0
  generalize tw (rd (a * 2 ^ f) b) = q at *
  generalize te (rd (a * 2 ^ f) b) = g at *
  go_enter Try.func61, Try.ntmps61
  go_wp2_with (first | (go_at_call 13; (with_reducible refine (CA.out _).mono ?_); rintro e w' ⟨rfl, rfl⟩) | (go_at_call 13; (with_reducible refine (CB.out _).mono ?_); rintro e w' ⟨rfl, rfl⟩) | (go_at_call 14; (with_reducible refine (CF.out _).mono ?_); rintro e w' ⟨rfl, rfl⟩) | (go_at_call 94; (with_reducible refine (way_over _).mono ?_); rintro e w' ⟨rfl, rfl⟩) | (go_at_call 133; (with_reducible refine (WC.out _).mono ?_); rintro e w1 ⟨rfl, hb1⟩))
  go_ret2
  refine ⟨rfl, ?_⟩
  repeat (first | exact Below.refl _ _ | assumption | apply Below.drew | refine Below.setCell ?_ (by first | omega | (simp; done) | (simp; omega)) _ | refine Below.alloc ?_ (by first | omega | (simp; done) | (simp; omega)) _ | refine Below.trans ?_ (hb1.mono (by first | omega | (simp; done) | (simp; omega))))
theorem reckon_zero (a b : Int) (f : Nat) (w : World) (ga : wd a = true) (gb : wd b = true) (gf : fb f = true) (h0 : b = 0) : Calls Try.prog 61 #[.int .i64 3, .int .i64 a, .int .i64 b, .int .i64 f] w fun e w' => e = .returned (.tuple #[.int .i64 (0), .int .i64 (4)]) ∧ Below w.heap.size w w' := by
  have WC := Lib.hid (fun W : World => wordover_zero a b f W ga gf h0)
  have CA := fun W : World => check_any a W
  rw [ga] at CA
  have CA := Lib.hid CA
  have CB := fun W : World => check_any b W
  rw [gb] at CB
  have CB := Lib.hid CB
  have CF := fun W : World => checkf_any f W
  rw [gf] at CF
  have CF := Lib.hid CF
  clear ga gb gf h0
  go_enter Try.func61, Try.ntmps61
  go_wp2_with (first | (go_at_call 13; (with_reducible refine (CA.out _).mono ?_); rintro e w' ⟨rfl, rfl⟩) | (go_at_call 13; (with_reducible refine (CB.out _).mono ?_); rintro e w' ⟨rfl, rfl⟩) | (go_at_call 14; (with_reducible refine (CF.out _).mono ?_); rintro e w' ⟨rfl, rfl⟩) | (go_at_call 94; (with_reducible refine (way_over _).mono ?_); rintro e w' ⟨rfl, rfl⟩) | (go_at_call 133; (with_reducible refine (WC.out _).mono ?_); rintro e w1 ⟨rfl, hb1⟩))
  go_ret2
  refine ⟨rfl, ?_⟩
  repeat (first | exact Below.refl _ _ | assumption | apply Below.drew | refine Below.setCell ?_ (by first | omega | (simp; done) | (simp; omega)) _ | refine Below.alloc ?_ (by first | omega | (simp; done) | (simp; omega)) _ | refine Below.trans ?_ (hb1.mono (by first | omega | (simp; done) | (simp; omega))))
theorem fxmul_form (a b f : Int) (w : World) (h : (wd a && wd b && fb f) = false) : Calls Try.prog 25 #[.int .i64 a, .int .i64 b, .int .i64 f] w fun e w' => e = .returned (.tuple #[.int .i64 0, .int .i64 1]) ∧ w = w' := by
  have C := Lib.hid (fun W : World => reckon_form 2 a b f W h)
  clear h
  go_enter Try.func25, Try.ntmps25
  go_wp2_with (go_at_call 61; (with_reducible refine (C.out _).mono ?_); rintro e w' ⟨rfl, rfl⟩)
  go_ret2
  exact ⟨rfl, rfl⟩
theorem fxdiv_form (a b f : Int) (w : World) (h : (wd a && wd b && fb f) = false) : Calls Try.prog 26 #[.int .i64 a, .int .i64 b, .int .i64 f] w fun e w' => e = .returned (.tuple #[.int .i64 0, .int .i64 1]) ∧ w = w' := by
  have C := Lib.hid (fun W : World => reckon_form 3 a b f W h)
  clear h
  go_enter Try.func26, Try.ntmps26
  go_wp2_with (go_at_call 61; (with_reducible refine (C.out _).mono ?_); rintro e w' ⟨rfl, rfl⟩)
  go_ret2
  exact ⟨rfl, rfl⟩
theorem fxmul_any (a b : Int) (f : Nat) (w : World) (ga : wd a = true) (gb : wd b = true) (gf : fb f = true) : Calls Try.prog 25 #[.int .i64 a, .int .i64 b, .int .i64 f] w fun e w' => e = .returned (.tuple #[.int .i64 (tw (rd (a * b) (2 ^ f))), .int .i64 (te (rd (a * b) (2 ^ f)))]) ∧ Below w.heap.size w w' := by
  have C := Lib.hid (fun W : World => reckon_times a b f W ga gb gf)
  clear ga gb gf
  generalize tw (rd (a * b) (2 ^ f)) = q at *
  generalize te (rd (a * b) (2 ^ f)) = g at *
  go_enter Try.func25, Try.ntmps25
  go_wp2_with (go_at_call 61; (with_reducible refine (C.out _).mono ?_); rintro e w1 ⟨rfl, hb1⟩)
  go_ret2
  refine ⟨rfl, ?_⟩
  repeat (first | exact Below.refl _ _ | assumption | apply Below.drew | refine Below.setCell ?_ (by first | omega | (simp; done) | (simp; omega)) _ | refine Below.alloc ?_ (by first | omega | (simp; done) | (simp; omega)) _ | refine Below.trans ?_ (hb1.mono (by first | omega | (simp; done) | (simp; omega))))
theorem fxdiv_any (a b : Int) (f : Nat) (w : World) (ga : wd a = true) (gb : wd b = true) (gf : fb f = true) (h0 : b ≠ 0) : Calls Try.prog 26 #[.int .i64 a, .int .i64 b, .int .i64 f] w fun e w' => e = .returned (.tuple #[.int .i64 (tw (rd (a * 2 ^ f) b)), .int .i64 (te (rd (a * 2 ^ f) b))]) ∧ Below w.heap.size w w' := by
  have C := Lib.hid (fun W : World => reckon_over a b f W ga gb gf h0)
  clear ga gb gf h0
  generalize tw (rd (a * 2 ^ f) b) = q at *
  generalize te (rd (a * 2 ^ f) b) = g at *
  go_enter Try.func26, Try.ntmps26
  go_wp2_with (go_at_call 61; (with_reducible refine (C.out _).mono ?_); rintro e w1 ⟨rfl, hb1⟩)
  go_ret2
  refine ⟨rfl, ?_⟩
  repeat (first | exact Below.refl _ _ | assumption | apply Below.drew | refine Below.setCell ?_ (by first | omega | (simp; done) | (simp; omega)) _ | refine Below.alloc ?_ (by first | omega | (simp; done) | (simp; omega)) _ | refine Below.trans ?_ (hb1.mono (by first | omega | (simp; done) | (simp; omega))))
theorem fxdiv_zero (a b : Int) (f : Nat) (w : World) (ga : wd a = true) (gb : wd b = true) (gf : fb f = true) (h0 : b = 0) : Calls Try.prog 26 #[.int .i64 a, .int .i64 b, .int .i64 f] w fun e w' => e = .returned (.tuple #[.int .i64 (0), .int .i64 (4)]) ∧ Below w.heap.size w w' := by
  have C := Lib.hid (fun W : World => reckon_zero a b f W ga gb gf h0)
  clear ga gb gf h0
  go_enter Try.func26, Try.ntmps26
  go_wp2_with (go_at_call 61; (with_reducible refine (C.out _).mono ?_); rintro e w1 ⟨rfl, hb1⟩)
  go_ret2
  refine ⟨rfl, ?_⟩
  repeat (first | exact Below.refl _ _ | assumption | apply Below.drew | refine Below.setCell ?_ (by first | omega | (simp; done) | (simp; omega)) _ | refine Below.alloc ?_ (by first | omega | (simp; done) | (simp; omega)) _ | refine Below.trans ?_ (hb1.mono (by first | omega | (simp; done) | (simp; omega))))
theorem rd384 : rd (384 * 384) (2 ^ 8) = 576 := by decide
/-- wakes -/
theorem fwakes_any (w : World) : Calls Try.prog 29 #[] w fun e w' => e = .returned (.bool true) ∧ Below w.heap.size w w' := by
  have C : Hid (∀ W : World, Calls Try.prog 25 #[.int .i64 384, .int .i64 384, .int .i64 8] W fun e w' => e = .returned (.tuple #[.int .i64 576, .int .i64 0]) ∧ Below W.heap.size W w') := fun W => by
    have := fxmul_any 384 384 8 W (by decide) (by decide) (by decide)
    rw [rd384, tw_in (by decide), te_in (by decide)] at this
    exact this
  go_enter Try.func29, Try.ntmps29
  go_wp2_with (first | (go_at_call 25; (with_reducible refine (C.out _).mono ?_); rintro e w1 ⟨rfl, hb1⟩) | (go_at_call 12; (with_reducible refine (num2_any _ _).mono ?_); rintro e w' ⟨rfl, rfl⟩))
  go_ret
  refine ⟨rfl, ?_⟩
  repeat (first | exact Below.refl _ _ | assumption | apply Below.drew | refine Below.setCell ?_ (by first | omega | (simp; done) | (simp; omega)) _ | refine Below.alloc ?_ (by first | omega | (simp; done) | (simp; omega)) _ | refine Below.trans ?_ (hb1.mono (by first | omega | (simp; done) | (simp; omega))))
end Go.Proofs.Ytdbgooobbemklaa
namespace Go.Proofs.Ytdbgooobbemklaa
open Go.RowKit

theorem rt_up (k : Nat) : ∃ s, Rt (k : Int) s := by
  induction k with
  | zero => exact ⟨0, by decide, by decide, by decide⟩
  | succ k ih =>
    obtain ⟨s, h0, h1, h2⟩ := ih
    have e := sq_succ (s + 1)
    by_cases g : (k : Int) + 1 < (s + 1) * (s + 1)
    · exact ⟨s, h0, by omega, by omega⟩
    · exact ⟨s + 1, by omega, by omega, by omega⟩
theorem rt_ex {n : Int} (h : 0 ≤ n) : ∃ s, Rt n s := by
  obtain ⟨k, rfl⟩ := Int.eq_ofNat_of_zero_le h
  exact rt_up k
theorem nr_ex {n : Int} (h : 0 ≤ n) : ∃ r, Nr n r := by
  obtain ⟨s, hs⟩ := rt_ex h
  exact ⟨_, nr_last hs⟩
theorem root_is (n s : Int) (w : World) (h : n < 633825300114114700748351602688) (hs : Rt n s) : Calls Try.prog 144 #[Wv n] w fun e w' => e = .returned (.int .i64 s) ∧ Below w.heap.size w w' := by
  have h0 : 0 ≤ n := Int.le_trans (Int.mul_nonneg hs.1 hs.1) hs.2.1
  refine (root_any n w h0 h).mono ?_
  rintro e w' ⟨⟨t, rfl, ht⟩, hb⟩
  exact ⟨by rw [rt_same hs ht], hb⟩
set_option maxRecDepth 100000 in
set_option maxHeartbeats 4000000 in
theorem nearest_any (n r : Int) (w : World) (h0 : 0 ≤ n) (h : n < 633825300114114700748351602688) (hr : Nr n r) : Calls Try.prog 114 #[Wv n] w fun e w' => e = .returned (.int .i64 r) ∧ Below w.heap.size w w' := by
  obtain ⟨s, hs⟩ := rt_ex h0
  have er := nr_same hr (nr_last hs)
  have s0 := hs.1
  have s1 : s ≤ 1125899906842624 := by
    have := sq_lt (a := s) (b := 1125899906842624) (by decide) (by have := hs.2.1; omega)
    omega
  have RC := Lib.hid (fun W : World => root_is n s W h hs)
  clear hs hr h h0
  obtain ⟨k, hk⟩ : ∃ k, k = s / 2 := ⟨_, rfl⟩
  rw [← hk] at er
  have k0 : 0 ≤ k := by omega
  have k1 : k ≤ 562949953421312 := by omega
  have et : s.tdiv 2 = k := by rw [hk]; exact Int.tdiv_eq_ediv_of_nonneg s0
  have ek : wrap64 k = k := IntWalk.wrap64_in _ ⟨by omega, by omega⟩
  have e1 : wrap64 (2 * k) = 2 * k := IntWalk.wrap64_in _ ⟨by omega, by omega⟩
  have e2 : wrap64 (2 * k + 1) = 2 * k + 1 := IntWalk.wrap64_in _ ⟨by omega, by omega⟩
  have i1 : IntKind.i64.wrap (2 * k) = 2 * k := by have := IntWalk.i64_in (2 * k) ⟨by omega, by omega⟩; exact this
  have i2 : IntKind.i64.wrap (2 * k + 1) = 2 * k + 1 := by have := IntWalk.i64_in (2 * k + 1) ⟨by omega, by omega⟩; exact this
  have e3 : wrap64 (k + 1) = k + 1 := IntWalk.wrap64_in _ ⟨by omega, by omega⟩
  have MC := Lib.hid (fun W : World => mul_any (2 * k + 1) (2 * k + 1) W (by omega) (by omega) (by omega) (by omega))
  clear hk s0 s1 k0 k1
  obtain ⟨m, hm⟩ : ∃ m, m = (2 * k + 1) * (2 * k + 1) := ⟨_, rfl⟩
  rw [← hm] at MC er
  clear hm
  have CC := fun W : World => cmp_any n m W
  by_cases g : m < n
  · rw [sg_gt g] at CC
    have CC := Lib.hid CC
    rw [if_pos g] at er
    clear g
    go_enter Try.func114, Try.ntmps114
    go_wp2_with (go_at_call 144; (with_reducible refine (RC.out _).mono ?_); rintro e w1 ⟨rfl, hb1⟩; have e10 : w1.cell? ⟨w.heap.size, 0, none⟩ = some (.int .i64 (hi n)) := cell_on hb1 (by first | (simp [go_sem, *]; done) | (simp [go_sem, World.cell?_alloc_some, *]; done) | fail); have e11 : w1.cell? ⟨w.heap.size, 1, none⟩ = some (.int .u64 (lo n)) := cell_on hb1 (by first | (simp [go_sem, *]; done) | (simp [go_sem, World.cell?_alloc_some, *]; done) | fail); have s10 : w.heap.size < w1.heap.size := World.block_lt_of_cell? _ _ e10; have t10 : w.heap.size < w1.heap.size + 1 := Nat.lt_succ_of_lt s10; have q1 := hb1.size; (try simp at q1))
    go_region_held3 (fun w' => w'.cell? ⟨w.heap.size, 0, none⟩ = some (.int .i64 (hi n)) ∧ w'.cell? ⟨w.heap.size, 1, none⟩ = some (.int .u64 (lo n))) (first | (simp [go_sem, *]; done) | (simp [go_sem, World.cell?_alloc_some, *]; done)) (first | (go_at_call 63; (try rw [i1, i2]); (with_reducible refine (MC.out _).mono ?_); rintro e w' ⟨rfl, rfl⟩) | (go_at_call 145; (with_reducible refine (CC.out _).mono ?_); rintro e w2 ⟨rfl, hb2⟩; have e20 : w2.cell? ⟨w.heap.size, 0, none⟩ = some (.int .i64 (hi n)) := cell_on hb2 (by first | (simp [go_sem, *]; done) | (simp [go_sem, World.cell?_alloc_some, *]; done) | fail); have e21 : w2.cell? ⟨w.heap.size, 1, none⟩ = some (.int .u64 (lo n)) := cell_on hb2 (by first | (simp [go_sem, *]; done) | (simp [go_sem, World.cell?_alloc_some, *]; done) | fail); have s20 : w.heap.size < w2.heap.size := World.block_lt_of_cell? _ _ e20; have t20 : w.heap.size < w2.heap.size + 1 := Nat.lt_succ_of_lt s20; have q2 := hb2.size; (try simp at q2)))
    all_goals
      go_wp2_with fail
      go_ret
      refine ⟨by rw [er]; first | rfl | (rw [e3]; rfl), ?_⟩
      repeat (first | exact Below.refl _ _ | assumption | apply Below.drew | refine Below.setCell ?_ (by first | omega | (simp; done) | (simp; omega)) _ | refine Below.alloc ?_ (by first | omega | (simp; done) | (simp; omega)) _ | refine Below.trans ?_ (hb2.mono (by first | omega | (simp; done) | (simp; omega))) | refine Below.trans ?_ (hb1.mono (by first | omega | (simp; done) | (simp; omega))))
  · obtain ⟨c, hc⟩ : ∃ c, c = sg n m := ⟨_, rfl⟩
    have c0 : ¬ 0 < c := by
      rw [hc]
      rcases Int.lt_or_le n m with q | q
      · rw [sg_lt q]; decide
      · rw [show n = m by omega, sg_eq]; decide
    rw [← hc] at CC
    have CC := Lib.hid CC
    rw [if_neg g] at er
    clear g hc
    go_enter Try.func114, Try.ntmps114
    go_wp2_with (go_at_call 144; (with_reducible refine (RC.out _).mono ?_); rintro e w1 ⟨rfl, hb1⟩; have e10 : w1.cell? ⟨w.heap.size, 0, none⟩ = some (.int .i64 (hi n)) := cell_on hb1 (by first | (simp [go_sem, *]; done) | (simp [go_sem, World.cell?_alloc_some, *]; done) | fail); have e11 : w1.cell? ⟨w.heap.size, 1, none⟩ = some (.int .u64 (lo n)) := cell_on hb1 (by first | (simp [go_sem, *]; done) | (simp [go_sem, World.cell?_alloc_some, *]; done) | fail); have s10 : w.heap.size < w1.heap.size := World.block_lt_of_cell? _ _ e10; have t10 : w.heap.size < w1.heap.size + 1 := Nat.lt_succ_of_lt s10; have q1 := hb1.size; (try simp at q1))
    go_region_held3 (fun w' => w'.cell? ⟨w.heap.size, 0, none⟩ = some (.int .i64 (hi n)) ∧ w'.cell? ⟨w.heap.size, 1, none⟩ = some (.int .u64 (lo n))) (first | (simp [go_sem, *]; done) | (simp [go_sem, World.cell?_alloc_some, *]; done)) (first | (go_at_call 63; (try rw [i1, i2]); (with_reducible refine (MC.out _).mono ?_); rintro e w' ⟨rfl, rfl⟩) | (go_at_call 145; (with_reducible refine (CC.out _).mono ?_); rintro e w2 ⟨rfl, hb2⟩; have e20 : w2.cell? ⟨w.heap.size, 0, none⟩ = some (.int .i64 (hi n)) := cell_on hb2 (by first | (simp [go_sem, *]; done) | (simp [go_sem, World.cell?_alloc_some, *]; done) | fail); have e21 : w2.cell? ⟨w.heap.size, 1, none⟩ = some (.int .u64 (lo n)) := cell_on hb2 (by first | (simp [go_sem, *]; done) | (simp [go_sem, World.cell?_alloc_some, *]; done) | fail); have s20 : w.heap.size < w2.heap.size := World.block_lt_of_cell? _ _ e20; have t20 : w.heap.size < w2.heap.size + 1 := Nat.lt_succ_of_lt s20; have q2 := hb2.size; (try simp at q2)))
    all_goals
      go_wp2_with fail
      go_ret
      refine ⟨by rw [er]; first | rfl | (rw [e3]; rfl), ?_⟩
      repeat (first | exact Below.refl _ _ | assumption | apply Below.drew | refine Below.setCell ?_ (by first | omega | (simp; done) | (simp; omega)) _ | refine Below.alloc ?_ (by first | omega | (simp; done) | (simp; omega)) _ | refine Below.trans ?_ (hb2.mono (by first | omega | (simp; done) | (simp; omega))) | refine Below.trans ?_ (hb1.mono (by first | omega | (simp; done) | (simp; omega))))
theorem rd_one (r : Int) : rd r (2 ^ 0) = r := by
  have e : ab ((2 : Int) ^ 0) = 1 := rfl
  have d : ng ((2 : Int) ^ 0) = false := rfl
  unfold rd up
  rw [e, d, Int.emod_one, Int.ediv_one]
  have : (decide (0 < sg (2 * 0) 1) || (decide (sg (2 * 0) 1 = 0) && (ab r % 2 == 1))) = false := by
    rw [show sg (2 * 0) 1 = -1 from rfl]; simp
  rw [this]
  unfold sd ng ab
  rcases Int.lt_or_le r 0 with h | h
  · simp [h]; omega
  · have : ¬ r < 0 := by omega
    simp [this]; omega
set_option maxRecDepth 100000 in
set_option maxHeartbeats 4000000 in
theorem rtold_any (n r : Int) (w : World) (h0 : 0 ≤ n) (h : n < 633825300114114700748351602688) (hr : Nr n r) : Calls Try.prog 80 #[Wv n] w fun e w' => e = .returned (.tuple #[.int .i64 (tw r), .int .i64 (te r)]) ∧ Below w.heap.size w w' := by
  have r0 := hr.1
  have r1 := nr_top hr (B := 1125899906842624) (by decide) (by omega)
  have NC := Lib.hid (fun W : World => nearest_any n r W h0 h hr)
  have FC := Lib.hid (fun W : World => from_at r W (by omega) (by omega))
  have CC := fun W : World => close_any r 0 W (R_small (by omega) (by omega)) (by decide)
  rw [rd_one] at CC
  have CC := Lib.hid (show ∀ W : World, Calls Try.prog 28 #[Wv r, .int .i64 0] W fun e w' => e = .returned (.tuple #[.int .i64 (tw r), .int .i64 (te r)]) ∧ Below W.heap.size W w' from CC)
  clear r0 r1 h0 h hr
  generalize tw r = t at *
  generalize te r = u at *
  go_enter Try.func80, Try.ntmps80
  go_wp2_with (first | (go_at_call 114; (with_reducible refine (NC.out _).mono ?_); rintro e w1 ⟨rfl, hb1⟩; have e10 : w1.cell? ⟨w.heap.size, 0, none⟩ = some (.int .i64 (hi n)) := cell_on hb1 (by first | (simp [go_sem, *]; done) | (simp [go_sem, World.cell?_alloc_some, *]; done) | fail); have e11 : w1.cell? ⟨w.heap.size, 1, none⟩ = some (.int .u64 (lo n)) := cell_on hb1 (by first | (simp [go_sem, *]; done) | (simp [go_sem, World.cell?_alloc_some, *]; done) | fail); have s10 : w.heap.size < w1.heap.size := World.block_lt_of_cell? _ _ e10; have t10 : w.heap.size < w1.heap.size + 1 := Nat.lt_succ_of_lt s10; have q1 := hb1.size; (try simp at q1)) | (go_at_call 64; (with_reducible refine (FC.out _).mono ?_); rintro e w' ⟨rfl, rfl⟩) | (go_at_call 28; (with_reducible refine (CC.out _).mono ?_); rintro e w2 ⟨rfl, hb2⟩; have e20 : w2.cell? ⟨w.heap.size, 0, none⟩ = some (.int .i64 (hi n)) := cell_on hb2 (by first | (simp [go_sem, *]; done) | (simp [go_sem, World.cell?_alloc_some, *]; done) | fail); have e21 : w2.cell? ⟨w.heap.size, 1, none⟩ = some (.int .u64 (lo n)) := cell_on hb2 (by first | (simp [go_sem, *]; done) | (simp [go_sem, World.cell?_alloc_some, *]; done) | fail); have s20 : w.heap.size < w2.heap.size := World.block_lt_of_cell? _ _ e20; have t20 : w.heap.size < w2.heap.size + 1 := Nat.lt_succ_of_lt s20; have q2 := hb2.size; (try simp at q2)))
  go_ret2
  refine ⟨rfl, ?_⟩
  repeat (first | exact Below.refl _ _ | assumption | apply Below.drew | refine Below.setCell ?_ (by first | omega | (simp; done) | (simp; omega)) _ | refine Below.alloc ?_ (by first | omega | (simp; done) | (simp; omega)) _ | refine Below.trans ?_ (hb2.mono (by first | omega | (simp; done) | (simp; omega))) | refine Below.trans ?_ (hb1.mono (by first | omega | (simp; done) | (simp; omega))))
/-- The root of a word is a word. -/
theorem sqrt_wd {a r : Int} {f : Nat} (gf : fb f = true) (g0 : 0 ≤ a) (gw : wd a = true) (hr : Nr (a * 2 ^ (f + 2)) r) : wd r = true := by
  have hf := fb_bd gf
  have ha := wd_bd gw
  have p1 : (2 : Int) ^ (f + 2) ≤ 2 ^ 34 := by have := Nat.pow_le_pow_right (show 0 < 2 by decide) (show f + 2 ≤ 34 by omega); exact_mod_cast this
  have m1 : a * 2 ^ (f + 2) ≤ 140737488355328 * 2 ^ 34 := Int.mul_le_mul (by omega) p1 (Int.le_of_lt (Int.pow_pos (by decide))) (by decide)
  have r0 := hr.1
  have r1 := nr_top hr (B := 70368744177664) (by decide) (by omega)
  exact wd_mk (by omega)
set_option maxRecDepth 100000 in
set_option maxHeartbeats 4000000 in
theorem rcheck_no (a f : Int) (w : World) (h : (fb f && decide (0 ≤ a) && wd a) = false) : Calls Try.prog 79 #[.int .i64 a, .int .i64 f] w fun e w' => e = .returned (.int .i64 1) ∧ w = w' := by
  have C := fun W : World => checkf_any f W
  have D := fun W : World => check_any a W
  cases gf : fb f with
  | false =>
    rw [gf] at C
    have C := Lib.hid C
    clear gf h D
    go_enter Try.func79, Try.ntmps79
    go_wp2_with (go_at_call 14; (with_reducible refine (C.out _).mono ?_); rintro e w' ⟨rfl, rfl⟩)
    go_ret
    exact ⟨rfl, rfl⟩
  | true =>
    rw [gf] at C h
    have C := Lib.hid C
    by_cases ga : a < 0
    · clear gf h D
      go_enter Try.func79, Try.ntmps79
      go_wp2_with (go_at_call 14; (with_reducible refine (C.out _).mono ?_); rintro e w' ⟨rfl, rfl⟩)
      go_ret
      exact ⟨rfl, rfl⟩
    · have gw : wd a = false := by
        cases k : wd a with
        | false => rfl
        | true => rw [k, decide_eq_true (show 0 ≤ a by omega)] at h; exact absurd h (by decide)
      rw [gw] at D
      have D := Lib.hid D
      clear gf gw h
      go_enter Try.func79, Try.ntmps79
      go_wp2_with (first | (go_at_call 14; (with_reducible refine (C.out _).mono ?_); rintro e w' ⟨rfl, rfl⟩) | (go_at_call 13; (with_reducible refine (D.out _).mono ?_); rintro e w' ⟨rfl, rfl⟩))
      go_ret
      exact ⟨rfl, rfl⟩
set_option maxRecDepth 100000 in
set_option maxHeartbeats 4000000 in
theorem rcheck_in (a f : Int) (w : World) (gf : fb f = true) (g0 : 0 ≤ a) (gw : wd a = true) : Calls Try.prog 79 #[.int .i64 a, .int .i64 f] w fun e w' => e = .returned (.int .i64 0) ∧ w = w' := by
  have C := fun W : World => checkf_any f W
  have D := fun W : World => check_any a W
  rw [gf] at C
  rw [gw] at D
  have C := Lib.hid C
  have D := Lib.hid D
  have ga : ¬ a < 0 := by omega
  clear gf gw g0
  go_enter Try.func79, Try.ntmps79
  go_wp2_with (first | (go_at_call 14; (with_reducible refine (C.out _).mono ?_); rintro e w' ⟨rfl, rfl⟩) | (go_at_call 13; (with_reducible refine (D.out _).mono ?_); rintro e w' ⟨rfl, rfl⟩))
  go_ret
  exact ⟨rfl, rfl⟩
set_option maxRecDepth 100000 in
set_option maxHeartbeats 4000000 in
theorem upwards_any (N d : Int) (w : World) (k : Nat) (hk : k ≤ 98) (hN : N = 2 ^ k) (hd : 0 < d) (d1 : d ≤ 9223372036854775807) : Calls Try.prog 81 #[.int .i64 k, .int .i64 d] w fun e w' => e = .returned (.tuple #[Wv (cl N d), .int .i64 0]) ∧ Below w.heap.size w w' := by
  have p0 : (0 : Int) < 2 ^ k := Int.pow_pos (by decide)
  have p1 : (2 : Int) ^ k ≤ 2 ^ 98 := by have := Nat.pow_le_pow_right (show 0 < 2 by decide) hk; exact_mod_cast this
  have K := cl_is (n := N) (d := d) (by omega) hd
  have LC := fun W : World => shl_any (-1) k W (by decide) (by omega)
  rw [show (-1 : Int) * 2 ^ k = -N by rw [hN]; omega, told_in (show R (-N) by rw [R_iff]; omega), over_in (show R (-N) by rw [R_iff]; omega)] at LC
  have LC := Lib.hid LC
  have DC := fun W : World => down_any (-N) d W (by rw [R_iff]; omega) (R_small (by omega) d1) (by omega)
  obtain ⟨q, hq⟩ : ∃ q, q = dn (-N) d := ⟨_, rfl⟩
  have eq : cl N d = -q := by rw [hq]; rfl
  have qR : R q := by rw [R_iff]; omega
  rw [← hq, told_in qR, over_in qR] at DC
  have DC := Lib.hid DC
  have NC := fun W : World => neg_any q W qR
  have nR : R (-q) := by rw [R_iff]; omega
  rw [told_in nR, over_in nR, ← eq] at NC
  have NC := Lib.hid NC
  have F1 := Lib.hid (fun W : World => from_at (-1) W (by decide) (by decide))
  have F2 := Lib.hid (fun W : World => from_at d W (by omega) d1)
  clear p0 p1 K hq eq qR nR hd d1 hk hN
  generalize cl N d = c at *
  generalize -N = M at *
  go_enter Try.func81, Try.ntmps81
  go_wp2_with (first | (go_at_call 64; (with_reducible refine (F1.out _).mono ?_); rintro e w' ⟨rfl, rfl⟩) | (go_at_call 65; (with_reducible refine (LC.out _).mono ?_); rintro e w1 ⟨rfl, hb1⟩; have e10 : w1.cell? ⟨w.heap.size, 0, none⟩ = some (.int .i64 0) := cell_on hb1 (by first | (simp [go_sem, *]; done) | (simp [go_sem, World.cell?_alloc_some, *]; done) | fail); have e11 : w1.cell? ⟨w.heap.size, 1, none⟩ = some (.int .u64 0) := cell_on hb1 (by first | (simp [go_sem, *]; done) | (simp [go_sem, World.cell?_alloc_some, *]; done) | fail); have s10 : w.heap.size < w1.heap.size := World.block_lt_of_cell? _ _ e10; have t10 : w.heap.size < w1.heap.size + 1 := Nat.lt_succ_of_lt s10; have y10 : w1.frozen? ⟨w.heap.size, 0, none⟩ = false := frozen_on hb1 (v := .int .i64 0) (by first | (simp [go_sem, *]; done) | (simp [go_sem, World.cell?_alloc_some, *]; done) | fail) (by first | (simp [go_sem, *]; done) | (simp [go_sem, frozen?_alloc_cells, *]; done) | fail); have y11 : w1.frozen? ⟨w.heap.size, 1, none⟩ = false := frozen_on hb1 (v := .int .u64 0) (by first | (simp [go_sem, *]; done) | (simp [go_sem, World.cell?_alloc_some, *]; done) | fail) (by first | (simp [go_sem, *]; done) | (simp [go_sem, frozen?_alloc_cells, *]; done) | fail)))
  go_region_held3 (fun w' => w'.cell? ⟨w1.heap.size, 0, none⟩ = some (.int .i64 (hi M)) ∧ w'.cell? ⟨w1.heap.size, 1, none⟩ = some (.int .u64 (lo M)) ∧ w'.cell? ⟨w.heap.size, 0, none⟩ = some (.int .i64 0) ∧ w'.cell? ⟨w.heap.size, 1, none⟩ = some (.int .u64 0)) (first | (simp [go_sem, *]; done) | (simp [go_sem, World.cell?_alloc_some, *]; done)) (first | (go_at_call 64; (with_reducible refine (F2.out _).mono ?_); rintro e w' ⟨rfl, rfl⟩) | (go_at_call 115; (with_reducible refine (DC.out _).mono ?_); rintro e w2 ⟨rfl, hb2⟩; have e20 : w2.cell? ⟨w1.heap.size, 0, none⟩ = some (.int .i64 (hi M)) := cell_on hb2 (by first | (simp [go_sem, *]; done) | (simp [go_sem, World.cell?_alloc_some, *]; done) | fail); have e21 : w2.cell? ⟨w1.heap.size, 1, none⟩ = some (.int .u64 (lo M)) := cell_on hb2 (by first | (simp [go_sem, *]; done) | (simp [go_sem, World.cell?_alloc_some, *]; done) | fail); have e22 : w2.cell? ⟨w.heap.size, 0, none⟩ = some (.int .i64 0) := cell_on hb2 (by first | (simp [go_sem, *]; done) | (simp [go_sem, World.cell?_alloc_some, *]; done) | fail); have e23 : w2.cell? ⟨w.heap.size, 1, none⟩ = some (.int .u64 0) := cell_on hb2 (by first | (simp [go_sem, *]; done) | (simp [go_sem, World.cell?_alloc_some, *]; done) | fail); have s20 : w1.heap.size < w2.heap.size := World.block_lt_of_cell? _ _ e20; have t20 : w1.heap.size < w2.heap.size + 1 := Nat.lt_succ_of_lt s20; have s22 : w.heap.size < w2.heap.size := World.block_lt_of_cell? _ _ e22; have t22 : w.heap.size < w2.heap.size + 1 := Nat.lt_succ_of_lt s22; have y22 : w2.frozen? ⟨w.heap.size, 0, none⟩ = false := frozen_on hb2 (v := .int .i64 0) (by first | (simp [go_sem, *]; done) | (simp [go_sem, World.cell?_alloc_some, *]; done) | fail) (by first | (simp [go_sem, *]; done) | (simp [go_sem, frozen?_alloc_cells, *]; done) | fail); have y23 : w2.frozen? ⟨w.heap.size, 1, none⟩ = false := frozen_on hb2 (v := .int .u64 0) (by first | (simp [go_sem, *]; done) | (simp [go_sem, World.cell?_alloc_some, *]; done) | fail) (by first | (simp [go_sem, *]; done) | (simp [go_sem, frozen?_alloc_cells, *]; done) | fail); have q2 := hb2.size; (try simp at q2); (first | (have oa20 : w2.cell? ⟨w1.heap.size + 1, 0, none⟩ = some (.int .i64 0) := cell_on hb2 (by first | (simp [go_sem, *]; done) | (simp [go_sem, World.cell?_alloc_some, *]; done) | fail); have ob20 : w2.cell? ⟨w1.heap.size + 1, 1, none⟩ = some (.int .u64 0) := cell_on hb2 (by first | (simp [go_sem, *]; done) | (simp [go_sem, World.cell?_alloc_some, *]; done) | fail); have oc20 : w2.frozen? ⟨w1.heap.size + 1, 0, none⟩ = false := frozen_on hb2 (v := .int .i64 0) (by first | (simp [go_sem, *]; done) | (simp [go_sem, World.cell?_alloc_some, *]; done) | fail) (by first | (simp [go_sem, *]; done) | (simp [go_sem, frozen?_alloc_cells, *]; done) | fail); have od20 : w2.frozen? ⟨w1.heap.size + 1, 1, none⟩ = false := frozen_on hb2 (v := .int .u64 0) (by first | (simp [go_sem, *]; done) | (simp [go_sem, World.cell?_alloc_some, *]; done) | fail) (by first | (simp [go_sem, *]; done) | (simp [go_sem, frozen?_alloc_cells, *]; done) | fail); have oe20 : w1.heap.size + 1 < w2.heap.size := World.block_lt_of_cell? _ _ oa20) | skip); (first | (have oa21 : w2.cell? ⟨w1.heap.size + 1 + 1, 0, none⟩ = some (.int .i64 0) := cell_on hb2 (by first | (simp [go_sem, *]; done) | (simp [go_sem, *]; done) | fail); have ob21 : w2.cell? ⟨w1.heap.size + 1 + 1, 1, none⟩ = some (.int .u64 0) := cell_on hb2 (by first | (simp [go_sem, *]; done) | (simp [go_sem, World.cell?_alloc_some, *]; done) | fail); have oc21 : w2.frozen? ⟨w1.heap.size + 1 + 1, 0, none⟩ = false := frozen_on hb2 (v := .int .i64 0) (by first | (simp [go_sem, *]; done) | (simp [go_sem, World.cell?_alloc_some, *]; done) | fail) (by first | (simp [go_sem, *]; done) | (simp [go_sem, frozen?_alloc_cells, *]; done) | fail); have od21 : w2.frozen? ⟨w1.heap.size + 1 + 1, 1, none⟩ = false := frozen_on hb2 (v := .int .u64 0) (by first | (simp [go_sem, *]; done) | (simp [go_sem, World.cell?_alloc_some, *]; done) | fail) (by first | (simp [go_sem, *]; done) | (simp [go_sem, frozen?_alloc_cells, *]; done) | fail); have oe21 : w1.heap.size + 1 + 1 < w2.heap.size := World.block_lt_of_cell? _ _ oa21) | skip)))
  all_goals
    go_wp2_with (go_at_call 116; (with_reducible refine (NC.out _).mono ?_); rintro e w3 ⟨rfl, hb3⟩; have e30 : w3.cell? ⟨w.heap.size, 0, none⟩ = some (.int .i64 0) := cell_on hb3 (by first | (simp [go_sem, *]; done) | (simp [go_sem, World.cell?_alloc_some, *]; done) | fail); have e31 : w3.cell? ⟨w.heap.size, 1, none⟩ = some (.int .u64 0) := cell_on hb3 (by first | (simp [go_sem, *]; done) | (simp [go_sem, World.cell?_alloc_some, *]; done) | fail); have s30 : w.heap.size < w3.heap.size := World.block_lt_of_cell? _ _ e30; have t30 : w.heap.size < w3.heap.size + 1 := Nat.lt_succ_of_lt s30; have y30 : w3.frozen? ⟨w.heap.size, 0, none⟩ = false := frozen_on hb3 (v := .int .i64 0) (by first | (simp [go_sem, *]; done) | (simp [go_sem, World.cell?_alloc_some, *]; done) | fail) (by first | (simp [go_sem, *]; done) | (simp [go_sem, frozen?_alloc_cells, *]; done) | fail); have y31 : w3.frozen? ⟨w.heap.size, 1, none⟩ = false := frozen_on hb3 (v := .int .u64 0) (by first | (simp [go_sem, *]; done) | (simp [go_sem, World.cell?_alloc_some, *]; done) | fail) (by first | (simp [go_sem, *]; done) | (simp [go_sem, frozen?_alloc_cells, *]; done) | fail); have q3 := hb3.size; (try simp at q3))
    refine bodyPost_ret (v := .tuple #[Wv c, .int .i64 0]) (by simp [results, Try.results81, go_sem, *]) rfl ⟨rfl, ?_⟩
    repeat (first | exact Below.refl _ _ | assumption | apply Below.drew | refine Below.setCell ?_ (by first | omega | (simp; done) | (simp; omega)) _ | refine Below.alloc ?_ (by first | omega | (simp; done) | (simp; omega)) _ | refine Below.trans ?_ (hb3.mono (by first | omega | (simp; done) | (simp; omega))) | refine Below.trans ?_ (hb2.mono (by first | omega | (simp; done) | (simp; omega))) | refine Below.trans ?_ (hb1.mono (by first | omega | (simp; done) | (simp; omega))))
set_option maxRecDepth 100000 in
set_option maxHeartbeats 4000000 in
theorem upwards_zero (d : Int) (w : World) (k : Nat) (hk : k ≤ 98) (hd : d = 0) : Calls Try.prog 81 #[.int .i64 k, .int .i64 d] w fun e w' => e = .returned (.tuple #[Wv 0, .int .i64 4]) ∧ Below w.heap.size w w' := by
  have p0 : (0 : Int) < 2 ^ k := Int.pow_pos (by decide)
  have p1 : (2 : Int) ^ k ≤ 2 ^ 98 := by have := Nat.pow_le_pow_right (show 0 < 2 by decide) hk; exact_mod_cast this
  obtain ⟨N, hN⟩ : ∃ N : Int, N = 2 ^ k := ⟨_, rfl⟩
  have LC := fun W : World => shl_any (-1) k W (by decide) (by omega)
  rw [show (-1 : Int) * 2 ^ k = -N by rw [hN]; omega, told_in (show R (-N) by rw [R_iff]; omega), over_in (show R (-N) by rw [R_iff]; omega)] at LC
  have LC := Lib.hid LC
  have DC := Lib.hid (fun W : World => down_zero (-N) d W hd)
  have F1 := Lib.hid (fun W : World => from_at (-1) W (by decide) (by decide))
  have F2 := Lib.hid (fun W : World => from_at d W (by omega) (by omega))
  clear p0 p1 hk hN hd
  generalize -N = M at *
  go_enter Try.func81, Try.ntmps81
  go_wp2_with (first | (go_at_call 64; (with_reducible refine (F1.out _).mono ?_); rintro e w' ⟨rfl, rfl⟩) | (go_at_call 65; (with_reducible refine (LC.out _).mono ?_); rintro e w1 ⟨rfl, hb1⟩; have e10 : w1.cell? ⟨w.heap.size, 0, none⟩ = some (.int .i64 0) := cell_on hb1 (by first | (simp [go_sem, *]; done) | (simp [go_sem, World.cell?_alloc_some, *]; done) | fail); have e11 : w1.cell? ⟨w.heap.size, 1, none⟩ = some (.int .u64 0) := cell_on hb1 (by first | (simp [go_sem, *]; done) | (simp [go_sem, World.cell?_alloc_some, *]; done) | fail); have s10 : w.heap.size < w1.heap.size := World.block_lt_of_cell? _ _ e10; have t10 : w.heap.size < w1.heap.size + 1 := Nat.lt_succ_of_lt s10; have y10 : w1.frozen? ⟨w.heap.size, 0, none⟩ = false := frozen_on hb1 (v := .int .i64 0) (by first | (simp [go_sem, *]; done) | (simp [go_sem, World.cell?_alloc_some, *]; done) | fail) (by first | (simp [go_sem, *]; done) | (simp [go_sem, frozen?_alloc_cells, *]; done) | fail); have y11 : w1.frozen? ⟨w.heap.size, 1, none⟩ = false := frozen_on hb1 (v := .int .u64 0) (by first | (simp [go_sem, *]; done) | (simp [go_sem, World.cell?_alloc_some, *]; done) | fail) (by first | (simp [go_sem, *]; done) | (simp [go_sem, frozen?_alloc_cells, *]; done) | fail)))
  go_region_held3 (fun w' => w'.cell? ⟨w1.heap.size, 0, none⟩ = some (.int .i64 (hi M)) ∧ w'.cell? ⟨w1.heap.size, 1, none⟩ = some (.int .u64 (lo M)) ∧ w'.cell? ⟨w.heap.size, 0, none⟩ = some (.int .i64 0) ∧ w'.cell? ⟨w.heap.size, 1, none⟩ = some (.int .u64 0)) (first | (simp [go_sem, *]; done) | (simp [go_sem, World.cell?_alloc_some, *]; done)) (first | (go_at_call 64; (with_reducible refine (F2.out _).mono ?_); rintro e w' ⟨rfl, rfl⟩) | (go_at_call 115; (with_reducible refine (DC.out _).mono ?_); rintro e w2 ⟨rfl, hb2⟩; have e20 : w2.cell? ⟨w1.heap.size, 0, none⟩ = some (.int .i64 (hi M)) := cell_on hb2 (by first | (simp [go_sem, *]; done) | (simp [go_sem, World.cell?_alloc_some, *]; done) | fail); have e21 : w2.cell? ⟨w1.heap.size, 1, none⟩ = some (.int .u64 (lo M)) := cell_on hb2 (by first | (simp [go_sem, *]; done) | (simp [go_sem, World.cell?_alloc_some, *]; done) | fail); have e22 : w2.cell? ⟨w.heap.size, 0, none⟩ = some (.int .i64 0) := cell_on hb2 (by first | (simp [go_sem, *]; done) | (simp [go_sem, World.cell?_alloc_some, *]; done) | fail); have e23 : w2.cell? ⟨w.heap.size, 1, none⟩ = some (.int .u64 0) := cell_on hb2 (by first | (simp [go_sem, *]; done) | (simp [go_sem, World.cell?_alloc_some, *]; done) | fail); have s20 : w1.heap.size < w2.heap.size := World.block_lt_of_cell? _ _ e20; have t20 : w1.heap.size < w2.heap.size + 1 := Nat.lt_succ_of_lt s20; have s22 : w.heap.size < w2.heap.size := World.block_lt_of_cell? _ _ e22; have t22 : w.heap.size < w2.heap.size + 1 := Nat.lt_succ_of_lt s22; have y22 : w2.frozen? ⟨w.heap.size, 0, none⟩ = false := frozen_on hb2 (v := .int .i64 0) (by first | (simp [go_sem, *]; done) | (simp [go_sem, World.cell?_alloc_some, *]; done) | fail) (by first | (simp [go_sem, *]; done) | (simp [go_sem, frozen?_alloc_cells, *]; done) | fail); have y23 : w2.frozen? ⟨w.heap.size, 1, none⟩ = false := frozen_on hb2 (v := .int .u64 0) (by first | (simp [go_sem, *]; done) | (simp [go_sem, World.cell?_alloc_some, *]; done) | fail) (by first | (simp [go_sem, *]; done) | (simp [go_sem, frozen?_alloc_cells, *]; done) | fail); have q2 := hb2.size; (try simp at q2); (first | (have oa20 : w2.cell? ⟨w1.heap.size + 1, 0, none⟩ = some (.int .i64 0) := cell_on hb2 (by first | (simp [go_sem, *]; done) | (simp [go_sem, World.cell?_alloc_some, *]; done) | fail); have ob20 : w2.cell? ⟨w1.heap.size + 1, 1, none⟩ = some (.int .u64 0) := cell_on hb2 (by first | (simp [go_sem, *]; done) | (simp [go_sem, World.cell?_alloc_some, *]; done) | fail); have oc20 : w2.frozen? ⟨w1.heap.size + 1, 0, none⟩ = false := frozen_on hb2 (v := .int .i64 0) (by first | (simp [go_sem, *]; done) | (simp [go_sem, World.cell?_alloc_some, *]; done) | fail) (by first | (simp [go_sem, *]; done) | (simp [go_sem, frozen?_alloc_cells, *]; done) | fail); have od20 : w2.frozen? ⟨w1.heap.size + 1, 1, none⟩ = false := frozen_on hb2 (v := .int .u64 0) (by first | (simp [go_sem, *]; done) | (simp [go_sem, World.cell?_alloc_some, *]; done) | fail) (by first | (simp [go_sem, *]; done) | (simp [go_sem, frozen?_alloc_cells, *]; done) | fail); have oe20 : w1.heap.size + 1 < w2.heap.size := World.block_lt_of_cell? _ _ oa20) | skip); (first | (have oa21 : w2.cell? ⟨w1.heap.size + 1 + 1, 0, none⟩ = some (.int .i64 0) := cell_on hb2 (by first | (simp [go_sem, *]; done) | (simp [go_sem, *]; done) | fail); have ob21 : w2.cell? ⟨w1.heap.size + 1 + 1, 1, none⟩ = some (.int .u64 0) := cell_on hb2 (by first | (simp [go_sem, *]; done) | (simp [go_sem, World.cell?_alloc_some, *]; done) | fail); have oc21 : w2.frozen? ⟨w1.heap.size + 1 + 1, 0, none⟩ = false := frozen_on hb2 (v := .int .i64 0) (by first | (simp [go_sem, *]; done) | (simp [go_sem, World.cell?_alloc_some, *]; done) | fail) (by first | (simp [go_sem, *]; done) | (simp [go_sem, frozen?_alloc_cells, *]; done) | fail); have od21 : w2.frozen? ⟨w1.heap.size + 1 + 1, 1, none⟩ = false := frozen_on hb2 (v := .int .u64 0) (by first | (simp [go_sem, *]; done) | (simp [go_sem, World.cell?_alloc_some, *]; done) | fail) (by first | (simp [go_sem, *]; done) | (simp [go_sem, frozen?_alloc_cells, *]; done) | fail); have oe21 : w1.heap.size + 1 + 1 < w2.heap.size := World.block_lt_of_cell? _ _ oa21) | skip)))
  all_goals
    go_wp2_with fail
    refine bodyPost_ret (v := .tuple #[Wv 0, .int .i64 4]) (by simp [results, Try.results81, go_sem, *] <;> exact ⟨rfl, rfl⟩) rfl ⟨rfl, ?_⟩
    repeat (first | exact Below.refl _ _ | assumption | apply Below.drew | refine Below.setCell ?_ (by first | omega | (simp; done) | (simp; omega)) _ | refine Below.alloc ?_ (by first | omega | (simp; done) | (simp; omega)) _ | refine Below.trans ?_ (hb2.mono (by first | omega | (simp; done) | (simp; omega))) | refine Below.trans ?_ (hb1.mono (by first | omega | (simp; done) | (simp; omega))))
set_option maxRecDepth 100000 in
set_option maxHeartbeats 4000000 in
theorem sqrt_form (a f : Int) (w : World) (h : (fb f && decide (0 ≤ a) && wd a) = false) : Calls Try.prog 47 #[.int .i64 a, .int .i64 f] w fun e w' => e = .returned (.tuple #[.int .i64 (0), .int .i64 (1)]) ∧ Below w.heap.size w w' := by
  have C := Lib.hid (fun W : World => rcheck_no a f W h)
  clear h
  go_enter Try.func47, Try.ntmps47
  go_wp2_with (go_at_call 79; (with_reducible refine (C.out _).mono ?_); rintro e w' ⟨rfl, rfl⟩)
  go_ret2
  refine ⟨rfl, ?_⟩
  repeat (first | exact Below.refl _ _ | assumption | apply Below.drew | refine Below.setCell ?_ (by first | omega | (simp; done) | (simp; omega)) _ | refine Below.alloc ?_ (by first | omega | (simp; done) | (simp; omega)) _)
set_option maxRecDepth 100000 in
set_option maxHeartbeats 4000000 in
theorem sqrt_any (a r : Int) (f : Nat) (w : World) (gf : fb f = true) (g0 : 0 ≤ a) (gw : wd a = true) (hr : Nr (a * 2 ^ (f + 2)) r) : Calls Try.prog 47 #[.int .i64 a, .int .i64 f] w fun e w' => e = .returned (.tuple #[.int .i64 (r), .int .i64 (0)]) ∧ Below w.heap.size w w' := by
  have hf := fb_bd gf
  have ha := wd_bd gw
  have p0 : (0 : Int) < 2 ^ (f + 2) := Int.pow_pos (by decide)
  have p1 : (2 : Int) ^ (f + 2) ≤ 2 ^ 34 := by have := Nat.pow_le_pow_right (show 0 < 2 by decide) (show f + 2 ≤ 34 by omega); exact_mod_cast this
  have m0 : 0 ≤ a * 2 ^ (f + 2) := Int.mul_nonneg g0 (by omega)
  have m1 : a * 2 ^ (f + 2) ≤ 140737488355328 * 2 ^ 34 := Int.mul_le_mul (by omega) p1 (by omega) (by decide)
  have r0 := hr.1
  have r1 := nr_top hr (B := 70368744177664) (by decide) (by omega)
  have wr : wd r = true := wd_mk (by omega)
  have C := Lib.hid (fun W : World => rcheck_in a f W gf g0 gw)
  have FC := Lib.hid (fun W : World => from_at a W (by omega) (by omega))
  have LC := fun W : World => shl_any a (f + 2) W (R_small (by omega) (by omega)) (by omega)
  have TC := fun W : World => rtold_any (a * 2 ^ (f + 2)) r W m0 (by omega) hr
  have mR : R (a * 2 ^ (f + 2)) := by rw [R_iff]; omega
  rw [told_in mR, over_in mR, show ((f + 2 : Nat) : Int) = (f : Int) + 2 by omega] at LC
  rw [tw_in wr, te_in wr] at TC
  have LC := Lib.hid LC
  have TC := Lib.hid TC
  have ew : wrap64 ((f : Int) + 2) = (f : Int) + 2 := IntWalk.wrap64_in _ ⟨by omega, by omega⟩
  clear hf ha p0 p1 m0 m1 r0 r1 wr mR gf g0 gw hr
  generalize a * 2 ^ (f + 2) = m at *
  go_enter Try.func47, Try.ntmps47
  go_wp2_with (first | (go_at_call 79; (with_reducible refine (C.out _).mono ?_); rintro e w' ⟨rfl, rfl⟩) | (go_at_call 64; (with_reducible refine (FC.out _).mono ?_); rintro e w' ⟨rfl, rfl⟩) | (go_at_call 65; (with_reducible refine (LC.out _).mono ?_); rintro e w1 ⟨rfl, hb1⟩; have q1 := hb1.size; (try simp at q1)) | (go_at_call 80; (with_reducible refine (TC.out _).mono ?_); rintro e w2 ⟨rfl, hb2⟩; have q2 := hb2.size; (try simp at q2)))
  go_ret2
  refine ⟨rfl, ?_⟩
  repeat (first | exact Below.refl _ _ | assumption | apply Below.drew | refine Below.setCell ?_ (by first | omega | (simp; done) | (simp; omega)) _ | refine Below.alloc ?_ (by first | omega | (simp; done) | (simp; omega)) _ | refine Below.trans ?_ (hb2.mono (by first | omega | (simp; done) | (simp; omega))) | refine Below.trans ?_ (hb1.mono (by first | omega | (simp; done) | (simp; omega))))
set_option maxRecDepth 100000 in
set_option maxHeartbeats 4000000 in
theorem rsqrt_form (a f : Int) (w : World) (h : (fb f && decide (0 ≤ a) && wd a) = false) : Calls Try.prog 48 #[.int .i64 a, .int .i64 f] w fun e w' => e = .returned (.tuple #[.int .i64 (0), .int .i64 (1)]) ∧ Below w.heap.size w w' := by
  have C := Lib.hid (fun W : World => rcheck_no a f W h)
  clear h
  go_enter Try.func48, Try.ntmps48
  go_wp2_with (go_at_call 79; (with_reducible refine (C.out _).mono ?_); rintro e w' ⟨rfl, rfl⟩)
  go_ret2
  refine ⟨rfl, ?_⟩
  repeat (first | exact Below.refl _ _ | assumption | apply Below.drew | refine Below.setCell ?_ (by first | omega | (simp; done) | (simp; omega)) _ | refine Below.alloc ?_ (by first | omega | (simp; done) | (simp; omega)) _)
set_option maxRecDepth 100000 in
set_option maxHeartbeats 4000000 in
theorem rsqrt_zero (a : Int) (f : Nat) (w : World) (gf : fb f = true) (g0 : a = 0) : Calls Try.prog 48 #[.int .i64 a, .int .i64 f] w fun e w' => e = .returned (.tuple #[.int .i64 (0), .int .i64 (4)]) ∧ Below w.heap.size w w' := by
  have hf := fb_bd gf
  have C := Lib.hid (fun W : World => rcheck_in a f W gf (by omega) (wd_mk (by omega)))
  have UC := fun W : World => upwards_zero a W (3 * f + 2) (by omega) g0
  rw [show ((3 * f + 2 : Nat) : Int) = 3 * (f : Int) + 2 by omega] at UC
  have UC := Lib.hid UC
  have e1 : wrap64 (3 * (f : Int)) = 3 * (f : Int) := IntWalk.wrap64_in _ ⟨by omega, by omega⟩
  have e2 : wrap64 (3 * (f : Int) + 2) = 3 * (f : Int) + 2 := IntWalk.wrap64_in _ ⟨by omega, by omega⟩
  clear hf gf g0
  go_enter Try.func48, Try.ntmps48
  go_wp2_with (first | (go_at_call 79; (with_reducible refine (C.out _).mono ?_); rintro e w' ⟨rfl, rfl⟩) | (go_at_call 81; (with_reducible refine (UC.out _).mono ?_); rintro e w1 ⟨rfl, hb1⟩; have q1 := hb1.size; (try simp at q1)))
  go_ret2
  refine ⟨rfl, ?_⟩
  repeat (first | exact Below.refl _ _ | assumption | apply Below.drew | refine Below.setCell ?_ (by first | omega | (simp; done) | (simp; omega)) _ | refine Below.alloc ?_ (by first | omega | (simp; done) | (simp; omega)) _ | refine Below.trans ?_ (hb1.mono (by first | omega | (simp; done) | (simp; omega))))
set_option maxRecDepth 100000 in
set_option maxHeartbeats 4000000 in
theorem rsqrt_any (a r N : Int) (f : Nat) (w : World) (gf : fb f = true) (g0 : 0 < a) (gw : wd a = true) (hN : N = 2 ^ (3 * f + 2)) (hr : Nr (cl N a) r) : Calls Try.prog 48 #[.int .i64 a, .int .i64 f] w fun e w' => e = .returned (.tuple #[.int .i64 (tw r), .int .i64 (te r)]) ∧ Below w.heap.size w w' := by
  have hf := fb_bd gf
  have ha := wd_bd gw
  have p0 : (0 : Int) < 2 ^ (3 * f + 2) := Int.pow_pos (by decide)
  have p1 : (2 : Int) ^ (3 * f + 2) ≤ 2 ^ 98 := by have := Nat.pow_le_pow_right (show 0 < 2 by decide) (show 3 * f + 2 ≤ 98 by omega); exact_mod_cast this
  have K := cl_is (n := N) (d := a) (by omega) g0
  have C := Lib.hid (fun W : World => rcheck_in a f W gf (by omega) gw)
  have UC := fun W : World => upwards_any N a W (3 * f + 2) (by omega) hN g0 (by omega)
  rw [show ((3 * f + 2 : Nat) : Int) = 3 * (f : Int) + 2 by omega] at UC
  have UC := Lib.hid UC
  have TC := Lib.hid (fun W : World => rtold_any (cl N a) r W K.2.2.1 (by omega) hr)
  have e1 : wrap64 (3 * (f : Int)) = 3 * (f : Int) := IntWalk.wrap64_in _ ⟨by omega, by omega⟩
  have e2 : wrap64 (3 * (f : Int) + 2) = 3 * (f : Int) + 2 := IntWalk.wrap64_in _ ⟨by omega, by omega⟩
  clear hf ha p0 p1 K gf g0 gw hr hN
  generalize cl N a = m at *
  generalize tw r = t at *
  generalize te r = u at *
  go_enter Try.func48, Try.ntmps48
  go_wp2_with (first | (go_at_call 79; (with_reducible refine (C.out _).mono ?_); rintro e w' ⟨rfl, rfl⟩) | (go_at_call 81; (with_reducible refine (UC.out _).mono ?_); rintro e w1 ⟨rfl, hb1⟩; have q1 := hb1.size; (try simp at q1)) | (go_at_call 80; (with_reducible refine (TC.out _).mono ?_); rintro e w2 ⟨rfl, hb2⟩; have q2 := hb2.size; (try simp at q2)))
  go_ret2
  refine ⟨rfl, ?_⟩
  repeat (first | exact Below.refl _ _ | assumption | apply Below.drew | refine Below.setCell ?_ (by first | omega | (simp; done) | (simp; omega)) _ | refine Below.alloc ?_ (by first | omega | (simp; done) | (simp; omega)) _ | refine Below.trans ?_ (hb2.mono (by first | omega | (simp; done) | (simp; omega))) | refine Below.trans ?_ (hb1.mono (by first | omega | (simp; done) | (simp; omega))))
end Go.Proofs.Ytdbgooobbemklaa
namespace Go.Proofs.Ytdbgooobbemklaa
open Go.RowKit

/-- An element: a word (or not), fraction bits (or not). -/
structure Rl where
  a : Int
  f : Int
def Rl.ok (e : Rl) : Prop := (-9223372036854775808 ≤ e.a ∧ e.a ≤ 9223372036854775807) ∧ (-9223372036854775808 ≤ e.f ∧ e.f ≤ 9223372036854775807)
/-- Its two cells. -/
def RlAt (w : World) (b o : Nat) (e : Rl) : Prop :=
  w.cell? ⟨b, o, none⟩ = some (.int .i64 e.a) ∧ w.cell? ⟨b, o + 1, none⟩ = some (.int .i64 e.f)
theorem RlAt.below {w w' : World} {B b o : Nat} {e : Rl} (h : RlAt w b o e) (hb : Below B w w') (hB : b < B) : RlAt w' b o e := by
  obtain ⟨h1, h2⟩ := h
  exact ⟨(hb.cell (p := ⟨b, o, none⟩) hB).trans h1, (hb.cell (p := ⟨b, o + 1, none⟩) hB).trans h2⟩
theorem num3_any (v : Int) (w : World) : Calls Try.prog 49 #[.int .i64 v] w fun e w' => e = .returned (.int .i64 v) ∧ w = w' := by
  go_enter Try.func49, Try.ntmps49
  go_wp2
  go_ret
  exact ⟨rfl, rfl⟩
end Go.Proofs.Ytdbgooobbemklaa
namespace Go.Proofs.Ytdbgooobbemklaa
open Go.RowKit
theorem ff_any (i : Int) (w : World) : Calls Try.prog 30 #[.int .i64 i] w fun e w' => e = .returned (.int .i64 (8 + i % 18446744073709551616 % 25)) ∧ w = w' := by
  have C := Lib.hid (fun W : World => within_any i 25 W (by decide) (by decide))
  have e1 : wrap64 (8 + i % 18446744073709551616 % 25) = 8 + i % 18446744073709551616 % 25 := IntWalk.wrap64_in _ ⟨by omega, by omega⟩
  have E := Lib.hid e1
  clear e1
  generalize i % 18446744073709551616 % 25 = r at *
  go_enter Try.func30, Try.ntmps30
  go_wp2_with (go_at_call 66; (with_reducible refine (C.out _).mono ?_); rintro e w' ⟨rfl, rfl⟩)
  go_ret
  exact ⟨by show Ending.returned (.int .i64 (wrap64 (8 + r))) = _; rw [E.out], rfl⟩
end Go.Proofs.Ytdbgooobbemklaa
namespace Go.Proofs.Ytdbgooobbemklaa
open Go.RowKit
theorem rwakes_any (w : World) : Calls Try.prog 50 #[] w fun e w' => e = .returned (.bool true) ∧ Below w.heap.size w w' := by
  have hr : Nr (512 * 2 ^ (8 + 2)) 362 := ⟨by decide, by decide, fun _ => by decide⟩
  have SC := Lib.hid (fun W : World => sqrt_any 512 362 8 W rfl (by decide) rfl hr)
  have SC := Lib.hid (show ∀ W : World, Calls Try.prog 47 #[.int .i64 512, .int .i64 8] W fun e w' => e = .returned (.tuple #[.int .i64 362, .int .i64 0]) ∧ Below W.heap.size W w' from SC.out)
  clear hr
  go_enter Try.func50, Try.ntmps50
  go_wp2_with (first | (go_at_call 47; (with_reducible refine (SC.out _).mono ?_); rintro e w1 ⟨rfl, hb1⟩) | (go_at_call 49; (with_reducible refine (num3_any _ _).mono ?_); rintro e w' ⟨rfl, rfl⟩))
  go_ret
  exact ⟨rfl, hb1⟩
end Go.Proofs.Ytdbgooobbemklaa
namespace Go.Proofs.Ytdbgooobbemklaa
open Go.RowKit

/-- How many limbs are left without noughts on top. -/
def trimLen : List Nat → Nat
  | [] => 0
  | x :: ls => if trimLen ls = 0 then (if x = 0 then 0 else 1) else trimLen ls + 1
theorem trimLen_le : ∀ ls : List Nat, trimLen ls ≤ ls.length
  | [] => Nat.le_refl _
  | x :: ls => by
    have := trimLen_le ls
    simp only [trimLen, List.length_cons]
    split
    · split <;> omega
    · omega
theorem trimLen_is : ∀ (ls : List Nat) (k : Nat), k ≤ ls.length → (∀ i, k ≤ i → ls.getD i 0 = 0) → (k = 0 ∨ ls.getD (k - 1) 0 ≠ 0) → trimLen ls = k
  | [], k, h, _, _ => by simp at h; simp [trimLen, h]
  | x :: ls, 0, _, hz, _ => by
    have ih := trimLen_is ls 0 (Nat.zero_le _) (fun i _ => by have := hz (i + 1) (Nat.zero_le _); simpa using this) (.inl rfl)
    have hx : x = 0 := by have := hz 0 (Nat.le_refl _); simpa using this
    simp [trimLen, ih, hx]
  | x :: ls, 1, _, hz, hn => by
    have ih := trimLen_is ls 0 (Nat.zero_le _) (fun i _ => by have := hz (i + 1) (by omega); simpa using this) (.inl rfl)
    have hx : x ≠ 0 := by rcases hn with h | h
                          · omega
                          · simpa using h
    simp [trimLen, ih, hx]
  | x :: ls, k + 2, h, hz, hn => by
    have ih := trimLen_is ls (k + 1) (by simp at h; omega) (fun i hi => by have := hz (i + 1) (by omega); simpa using this) (.inr (by
      rcases hn with h' | h'
      · omega
      · simpa using h'))
    simp [trimLen, ih]
/-- The value of limbs, the lowest first. -/
def lval (B : Nat) : List Nat → Nat
  | [] => 0
  | x :: ls => x + B * lval B ls
theorem lval_trim (B : Nat) : ∀ ls : List Nat, lval B (ls.take (trimLen ls)) = lval B ls
  | [] => rfl
  | x :: ls => by
    have ih := lval_trim B ls
    simp only [trimLen]
    split
    · rename_i h0
      rw [h0] at ih
      simp only [List.take_zero, lval] at ih
      split
      · rename_i hx; simp [lval, hx, ← ih]
      · simp [lval, ← ih]
    · simp [lval, ih]
theorem trim_last : ∀ ls : List Nat, trimLen ls = 0 ∨ ls.getD (trimLen ls - 1) 0 ≠ 0
  | [] => .inl rfl
  | x :: ls => by
    simp only [trimLen]
    split
    · split
      · exact .inl rfl
      · rename_i h; exact .inr (by simpa using h)
    · rename_i h0
      rcases trim_last ls with h | h
      · exact absurd h h0
      · right
        obtain ⟨m, hm⟩ : ∃ m, trimLen ls = m + 1 := ⟨trimLen ls - 1, by omega⟩
        rw [hm] at h ⊢
        simpa using h

/-- What a slice of whole numbers of kind k reads as. -/
def Rd (k : IntKind) (w : World) (v : Value) (ls : List Nat) : Prop :=
  (v = .slice none 0 0 ∧ ls = []) ∨ ∃ b off cap, v = .slice (some ⟨b, off, none⟩) ls.length cap ∧ ls.length ≤ cap ∧ b < w.heap.size ∧ ∀ i, i < ls.length → w.cell? ⟨b, off + i, none⟩ = some (.int k (ls.getD i 0 : Nat))
theorem Rd.below {k : IntKind} {w w' : World} {v : Value} {ls : List Nat} (h : Rd k w v ls) (hb : Below w.heap.size w w') : Rd k w' v ls := by
  rcases h with h | ⟨b, off, cap, e, hc, hl, h⟩
  · exact .inl h
  · exact .inr ⟨b, off, cap, e, hc, Nat.lt_of_lt_of_le hl hb.size, fun i hi => (hb.cell (p := ⟨b, off + i, none⟩) hl).trans (h i hi)⟩
theorem Rd.take {k : IntKind} {w : World} {b off cap : Nat} {ls : List Nat} (hc : ls.length ≤ cap) (hl : b < w.heap.size) (h : ∀ i, i < ls.length → w.cell? ⟨b, off + i, none⟩ = some (.int k (ls.getD i 0 : Nat))) (n : Nat) (hn : n ≤ ls.length) :
    Rd k w (.slice (some ⟨b, off, none⟩) n cap) (ls.take n) := by
  refine .inr ⟨b, off, cap, by simp [Nat.min_eq_left hn], by simp; omega, hl, fun i hi => ?_⟩
  simp at hi
  have : (ls.take n).getD i 0 = ls.getD i 0 := by simp only [List.getD_eq_getElem?_getD, List.getElem?_take]; rw [if_pos (by omega)]
  rw [this]
  exact h i (by omega)
/-- Where a slice is cut back to n of its elements. -/
def cutv : Value → Nat → Value
  | .slice none _ _, _ => .slice none 0 0
  | .slice (some a) _ c, n => .slice (some a) n c
  | v, _ => v
theorem Rd.cut {k : IntKind} {w : World} {v : Value} {ls : List Nat} (h : Rd k w v ls) (n : Nat) (hn : n ≤ ls.length) : Rd k w (cutv v n) (ls.take n) := by
  rcases h with ⟨rfl, rfl⟩ | ⟨b, off, cap, rfl, hc, hl, h⟩
  · exact .inl ⟨rfl, by simp⟩
  · exact Rd.take hc hl h n hn
end Go.Proofs.Ytdbgooobbemklaa
