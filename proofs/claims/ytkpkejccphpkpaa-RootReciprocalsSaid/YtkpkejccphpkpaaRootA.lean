/-
  Newton's steps: the root of a wide number, rounded down.
-/
import Derived.Test.YtkpkejccphpkpaaNumR
import Derived.Test.YtkpkejccphpkpaaWideJ
namespace Go.Proofs.Ytkpkejccphpkpaa
open Go.RowKit

theorem wlen_any (n : Int) (w : World) (h0 : 0 ≤ n) (h1 : R n) : Calls Try.prog 140 #[Wv n] w fun e w' => e = .returned (.int .i64 (bl n)) ∧ w.alloc (.cells #[.int .i64 (hi n), .int .u64 (lo n)] 25) = w' := by
  have hU : U n := by rw [R_iff] at h1; rw [U_iff]; omega
  have hn : 0 ≤ hi n := by unfold hi; omega
  obtain ⟨a0, a1⟩ := lo_bd n
  by_cases g : hi n = 0
  · have H := Lib.hid (bl_low g)
    have g' : ¬ (0 < hi n) := by omega
    clear g hU h0 h1 hn
    go_enter Try.func140, Try.ntmps140
    go_wp2_with (go_at_call 128; refine (Try.bits_Len64 (lo n) _ a0 a1).mono ?_; rintro e w' ⟨rfl, rfl⟩)
    go_ret
    exact ⟨by rw [← H.out]; rfl, rfl⟩
  · have H := Lib.hid (bl_high hU g)
    have g' : 0 < hi n := by omega
    obtain ⟨c0, c1⟩ := hU
    have uw : IntKind.u64.wrap (hi n) = hi n := by rw [IntKind.wrap_u64]; omega
    have l := bitLen_64 (hi n) c0 c1
    clear g h0 h1 hn
    go_enter Try.func140, Try.ntmps140
    go_wp2_with (go_at_call 128; refine (Try.bits_Len64 (hi n) _ c0 c1).mono ?_; rintro e w' ⟨rfl, rfl⟩)
    go_ret
    exact ⟨by rw [← H.out]; rfl, rfl⟩
set_option maxHeartbeats 2000000 in
/-- step -/
theorem step_any (n g : Int) (w : World) (h0 : 0 ≤ n) (h1 : R n) (hg : Gs n g) : Calls Try.prog 141 #[Wv n, .int .i64 g] w fun e w' => e = .returned (.int .i64 (nx n g)) ∧ Below w.heap.size w w' := by
  have b := nx_bd h0 hg
  have g0 := hg.1
  have g1 := hg.2.1
  have FC := Lib.hid (fun W : World => from_at g W (by omega) (by omega))
  obtain ⟨q, hq⟩ : ∃ q, q = if g = 0 then 0 else n / g := ⟨_, rfl⟩
  have e : nx n g = (g + q) / 2 := by rw [hq]; rfl
  have qb : 0 ≤ q ∧ q ≤ 1125899906842626 := by
    rw [hq]
    split
    · omega
    · rename_i k; exact b.2.2 k
  have DC : ∃ c : Int, ∀ W : World, Calls Try.prog 15 #[Wv n, Wv g] W fun e w' => e = .returned (.tuple #[Wv q, .int .i64 c]) ∧ Below W.heap.size W w' := by
    by_cases k : g = 0
    · rw [if_pos k] at hq
      exact ⟨4, fun W => by rw [hq]; exact down_zero n g W k⟩
    · rw [if_neg k] at hq
      refine ⟨0, fun W => ?_⟩
      have := down_any n g W h1 (R_small (by omega) (by omega)) k
      rw [dn_floor h0 (by omega), ← hq, told_in (R_small (by omega) (by omega)), over_in (R_small (by omega) (by omega))] at this
      exact this
  obtain ⟨c, DC⟩ := DC
  have DC := Lib.hid DC
  have SC := fun W : World => small_any q W
  rw [show isS q = true from isS_mk (by omega), show sm q = q from if_pos (isS_mk (by omega))] at SC
  have SC := Lib.hid SC
  have ew : wrap64 (g + q) = g + q := IntWalk.wrap64_in _ ⟨by omega, by omega⟩
  have et : (g + q).tdiv 2 = (g + q) / 2 := Int.tdiv_eq_ediv_of_nonneg (by omega)
  have ex : wrap64 ((g + q) / 2) = (g + q) / 2 := IntWalk.wrap64_in _ ⟨by omega, by omega⟩
  rw [e]
  clear b hg h0 h1 hq qb e g0 g1
  go_enter Try.func141, Try.ntmps141
  go_wp2
  go_region_held3 (fun w' => w'.cell? ⟨w.heap.size, 0, none⟩ = some (.int .i64 (hi n)) ∧ w'.cell? ⟨w.heap.size, 1, none⟩ = some (.int .u64 (lo n))) (first | (simp [go_sem, *]; done) | (simp [go_sem, World.cell?_alloc_some, *]; done)) (first | (go_at_call 75; (with_reducible refine (FC.out _).mono ?_); rintro e w' ⟨rfl, rfl⟩) | (go_at_call 15; (with_reducible refine (DC.out _).mono ?_); rintro e w1 ⟨rfl, hb1⟩; have e10 : w1.cell? ⟨w.heap.size, 0, none⟩ = some (.int .i64 (hi n)) := cell_on hb1 (by first | (simp [go_sem, *]; done) | (simp [go_sem, World.cell?_alloc_some, *]; done) | fail); have e11 : w1.cell? ⟨w.heap.size, 1, none⟩ = some (.int .u64 (lo n)) := cell_on hb1 (by first | (simp [go_sem, *]; done) | (simp [go_sem, World.cell?_alloc_some, *]; done) | fail); have s10 : w.heap.size < w1.heap.size := World.block_lt_of_cell? _ _ e10; have t10 : w.heap.size < w1.heap.size + 1 := Nat.lt_succ_of_lt s10; (first | (have oa10 : w1.cell? ⟨w.heap.size + 1, 0, none⟩ = some (.int .i64 0) := cell_on hb1 (by first | (simp [go_sem, *]; done) | (simp [go_sem, World.cell?_alloc_some, *]; done) | fail); have ob10 : w1.cell? ⟨w.heap.size + 1, 1, none⟩ = some (.int .u64 0) := cell_on hb1 (by first | (simp [go_sem, *]; done) | (simp [go_sem, World.cell?_alloc_some, *]; done) | fail); have oc10 : w1.frozen? ⟨w.heap.size + 1, 0, none⟩ = false := frozen_on hb1 (v := .int .i64 0) (by first | (simp [go_sem, *]; done) | (simp [go_sem, World.cell?_alloc_some, *]; done) | fail) (by first | (simp [go_sem, *]; done) | (simp [go_sem, frozen?_alloc_cells, *]; done) | fail); have od10 : w1.frozen? ⟨w.heap.size + 1, 1, none⟩ = false := frozen_on hb1 (v := .int .u64 0) (by first | (simp [go_sem, *]; done) | (simp [go_sem, World.cell?_alloc_some, *]; done) | fail) (by first | (simp [go_sem, *]; done) | (simp [go_sem, frozen?_alloc_cells, *]; done) | fail); have oe10 : w.heap.size + 1 < w1.heap.size := World.block_lt_of_cell? _ _ oa10) | skip); (first | (have oa11 : w1.cell? ⟨w.heap.size + 1 + 1, 0, none⟩ = some (.int .i64 0) := cell_on hb1 (by first | (simp [go_sem, *]; done) | (simp [go_sem, World.cell?_alloc_some, *]; done) | fail); have ob11 : w1.cell? ⟨w.heap.size + 1 + 1, 1, none⟩ = some (.int .u64 0) := cell_on hb1 (by first | (simp [go_sem, *]; done) | (simp [go_sem, World.cell?_alloc_some, *]; done) | fail); have oc11 : w1.frozen? ⟨w.heap.size + 1 + 1, 0, none⟩ = false := frozen_on hb1 (v := .int .i64 0) (by first | (simp [go_sem, *]; done) | (simp [go_sem, World.cell?_alloc_some, *]; done) | fail) (by first | (simp [go_sem, *]; done) | (simp [go_sem, frozen?_alloc_cells, *]; done) | fail); have od11 : w1.frozen? ⟨w.heap.size + 1 + 1, 1, none⟩ = false := frozen_on hb1 (v := .int .u64 0) (by first | (simp [go_sem, *]; done) | (simp [go_sem, World.cell?_alloc_some, *]; done) | fail) (by first | (simp [go_sem, *]; done) | (simp [go_sem, frozen?_alloc_cells, *]; done) | fail); have oe11 : w.heap.size + 1 + 1 < w1.heap.size := World.block_lt_of_cell? _ _ oa11) | skip)))
  all_goals
    go_wp2_with (go_at_call 112; (with_reducible refine (SC.out _).mono ?_); rintro e w2 ⟨rfl, hb2⟩; have e20 : w2.cell? ⟨w.heap.size, 0, none⟩ = some (.int .i64 (hi n)) := cell_on hb2 (by first | (simp [go_sem, *]; done) | (simp [go_sem, World.cell?_alloc_some, *]; done) | fail); have e21 : w2.cell? ⟨w.heap.size, 1, none⟩ = some (.int .u64 (lo n)) := cell_on hb2 (by first | (simp [go_sem, *]; done) | (simp [go_sem, World.cell?_alloc_some, *]; done) | fail); have s20 : w.heap.size < w2.heap.size := World.block_lt_of_cell? _ _ e20; have t20 : w.heap.size < w2.heap.size + 1 := Nat.lt_succ_of_lt s20)
    go_ret
    refine ⟨by rw [ex]; rfl, ?_⟩
    repeat (first | exact Below.refl _ _ | assumption | apply Below.drew | refine Below.setCell ?_ (by first | omega | (simp; done) | (simp; omega)) _ | refine Below.alloc ?_ (by first | omega | (simp; done) | (simp; omega)) _ | refine Below.trans ?_ (hb2.mono (by first | omega | (simp; done) | (simp; omega))) | refine Below.trans ?_ (hb1.mono (by first | omega | (simp; done) | (simp; omega))))
set_option maxHeartbeats 4000000 in
/-- root -/
theorem root_any (n : Int) (w : World) (h0 : 0 ≤ n) (h : n < 633825300114114700748351602688) : Calls Try.prog 135 #[Wv n] w fun e w' => (∃ s : Int, e = .returned (.int .i64 s) ∧ Rt n s) ∧ Below w.heap.size w w' := by
  have h1 : R n := by rw [R_iff]; omega
  obtain ⟨b, G0⟩ := gs_first h0 h
  have LC := Lib.hid (fun W : World => wlen_any n W h0 h1)
  obtain ⟨k, hk⟩ : ∃ k : Nat, k = bl n := ⟨_, rfl⟩
  rw [← hk] at LC G0 b
  have SC := Lib.hid (fun (W : World) (g : Int) (hg : Gs n g) => step_any n g W h0 h1 hg)
  have ek : wrap64 ((k : Int) + 1) = (k : Int) + 1 := IntWalk.wrap64_in _ ⟨by omega, by omega⟩
  have et : ((k : Int) + 1).tdiv 2 = ((k : Int) + 1) / 2 := Int.tdiv_eq_ediv_of_nonneg (by omega)
  have ej : wrap64 (((k : Int) + 1) / 2) = ((k : Int) + 1) / 2 := IntWalk.wrap64_in _ ⟨by omega, by omega⟩
  have p1 : wrap64 ((2 : Int) ^ ((k + 1) / 2)) = 2 ^ ((k + 1) / 2) := IntWalk.wrap64_in _ ⟨by have := G0.1; omega, by have := G0.2.1; omega⟩
  have G0 := Lib.hid G0
  have H := Lib.hid (And.intro h0 h1)
  clear h0 h1 h hk
  go_enter Try.func135, Try.ntmps135
  go_wp2
  go_step3
  go_wp2_with (go_at_call 140; (with_reducible refine (LC.out _).mono ?_); rintro e w' ⟨rfl, rfl⟩)
  go_step3
  simp only [p1]
  all_goals
    go_upto_block 0 with fail
    go_cut [3] (fun s3 wx => ∃ s, s3 = .int .i64 s ∧ Rt n s ∧ Below w.heap.size w wx)
    case rest =>
      obtain ⟨s, rfl, hs, hB⟩ := hcut
      go_wp2
      try rw [Exit.noGoto_ret]
      go_ret
      exact ⟨⟨s, rfl, hs⟩, hB⟩
    case first =>
    go_wp2_with fail
    go_loopw [3] (fun s3 wr => ∃ g, s3 = .int .i64 g ∧ Gs n g ∧ wr.cell? ⟨w.heap.size, 0, none⟩ = some (.int .i64 (hi n)) ∧ wr.cell? ⟨w.heap.size, 1, none⟩ = some (.int .u64 (lo n)) ∧ Below w.heap.size w wr) (fun s3 _ => (intOf s3).toNat)
    case atStart => exact ⟨_, rfl, G0.out, by simp [go_sem], by simp [go_sem], by repeat (first | exact Below.refl _ _ | assumption | apply Below.drew | refine Below.setCell ?_ (by first | omega | (simp; done) | (simp; omega)) _ | refine Below.alloc ?_ (by first | omega | (simp; done) | (simp; omega)) _)⟩
    case round =>
      obtain ⟨g, rfl, hG, c0, c1, hB⟩ := hrel
      have hBs := hB.size
      have hz : w.heap.size < wr.heap.size := World.block_lt_of_cell? _ _ c0
      have SG := Lib.hid (fun W : World => SC.out W g hG)
      have hb := nx_bd H.out.1 hG
      by_cases k : nx n g < g
      · have K := Lib.hid (And.intro (nx_gs H.out.1 hG k) (And.intro hG.1 k))
        generalize nx n g = x at *
        clear hG hb
        go_wp2_with (go_at_call 141; (with_reducible refine (SG.out _).mono ?_); rintro e w1 ⟨rfl, hb1⟩; have e10 : w1.cell? ⟨w.heap.size, 0, none⟩ = some (.int .i64 (hi n)) := cell_on hb1 (by first | (simp [go_sem, *]; done) | (simp [go_sem, World.cell?_alloc_some, *]; done) | fail); have e11 : w1.cell? ⟨w.heap.size, 1, none⟩ = some (.int .u64 (lo n)) := cell_on hb1 (by first | (simp [go_sem, *]; done) | (simp [go_sem, World.cell?_alloc_some, *]; done) | fail); have s10 : w.heap.size < w1.heap.size := World.block_lt_of_cell? _ _ e10; have t10 : w.heap.size < w1.heap.size + 1 := Nat.lt_succ_of_lt s10)
        exact ⟨⟨x, rfl, K.out.1, e10, e11, hB.trans (hb1.mono hBs)⟩, by have h1 := K.out.1.1; have h2 := K.out.2; simp [intOf]; omega⟩
      · have K := Lib.hid (nx_end H.out.1 hG k)
        generalize nx n g = x at *
        clear hG hb
        go_wp2_with (go_at_call 141; (with_reducible refine (SG.out _).mono ?_); rintro e w1 ⟨rfl, hb1⟩; have e10 : w1.cell? ⟨w.heap.size, 0, none⟩ = some (.int .i64 (hi n)) := cell_on hb1 (by first | (simp [go_sem, *]; done) | (simp [go_sem, World.cell?_alloc_some, *]; done) | fail); have e11 : w1.cell? ⟨w.heap.size, 1, none⟩ = some (.int .u64 (lo n)) := cell_on hb1 (by first | (simp [go_sem, *]; done) | (simp [go_sem, World.cell?_alloc_some, *]; done) | fail); have s10 : w.heap.size < w1.heap.size := World.block_lt_of_cell? _ _ e10; have t10 : w.heap.size < w1.heap.size + 1 := Nat.lt_succ_of_lt s10)
        go_meet
        exact ⟨g, rfl, K.out, hB.trans (hb1.mono hBs)⟩
end Go.Proofs.Ytkpkejccphpkpaa
