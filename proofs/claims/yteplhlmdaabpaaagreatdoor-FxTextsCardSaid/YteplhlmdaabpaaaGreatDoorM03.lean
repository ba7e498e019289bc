/-
  The long division of sizes.
  Rounded quotients, said of whole numbers.
-/
import Derived.WalkMore
import Derived.Deep.LoopGhost
import Derived.LoopTactic
import Derived.Deep.DeepCutAuto
import Derived.Deep.CutBlock
import Derived.Test.YteplhlmdaabpaaaGreatDoorM02
namespace Go.Proofs.YteplhlmdaabpaaaGreatDoor
open Go.RowKit
/-- The four variables of divide. -/
def DivAt (w0 : World) (n d q r : Int) (w : World) : Prop :=
  w.cell? ⟨w0.heap.size, 0, none⟩ = some (.int .u64 (hi n)) ∧ w.cell? ⟨w0.heap.size, 1, none⟩ = some (.int .u64 (lo n)) ∧
  w.cell? ⟨w0.heap.size + 1, 0, none⟩ = some (.int .u64 (hi d)) ∧ w.cell? ⟨w0.heap.size + 1, 1, none⟩ = some (.int .u64 (lo d)) ∧
  w.cell? ⟨w0.heap.size + 1 + 1, 0, none⟩ = some (.int .u64 (hi q)) ∧ w.cell? ⟨w0.heap.size + 1 + 1, 1, none⟩ = some (.int .u64 (lo q)) ∧
  w.cell? ⟨w0.heap.size + 1 + 1 + 1, 0, none⟩ = some (.int .u64 (hi r)) ∧ w.cell? ⟨w0.heap.size + 1 + 1 + 1, 1, none⟩ = some (.int .u64 (lo r)) ∧
  w.frozen? ⟨w0.heap.size + 1 + 1, 0, none⟩ = false ∧ w.frozen? ⟨w0.heap.size + 1 + 1, 1, none⟩ = false ∧
  w.frozen? ⟨w0.heap.size + 1 + 1 + 1, 0, none⟩ = false ∧ w.frozen? ⟨w0.heap.size + 1 + 1 + 1, 1, none⟩ = false ∧
  Below w0.heap.size w0 w ∧ w0.heap.size + 1 + 1 + 1 < w.heap.size
theorem cell_on {W W' : World} (hb : Below W.heap.size W W') {p : Addr} {v : Value} (h : W.cell? p = some v) : W'.cell? p = some v := (hb.cell (World.block_lt_of_cell? W _ h)).trans h
theorem frozen_on {W W' : World} (hb : Below W.heap.size W W') {p : Addr} {v : Value} (h : W.cell? p = some v) {b : Bool} (hf : W.frozen? p = b) : W'.frozen? p = b := (hb.frozen (World.block_lt_of_cell? W _ h)).trans hf
theorem drew_on {W : World} {p : Addr} {v : Value} (h : W.cell? p = some v) : W.drew.cell? p = some v := h
theorem DivAt.below {w0 : World} {n d q r : Int} {W W' : World} (h : DivAt w0 n d q r W) (hb : Below W.heap.size W W') : DivAt w0 n d q r W' := by
  obtain ⟨c1, c2, c3, c4, c5, c6, c7, c8, f1, f2, f3, f4, b, z⟩ := h
  obtain ⟨hc, hf⟩ := bcell hb
  refine ⟨?_, ?_, ?_, ?_, ?_, ?_, ?_, ?_, ?_, ?_, ?_, ?_, b.trans (hb.mono (by omega)), bsz hb z⟩
  all_goals first | (rw [hc _ _ (by omega)]; assumption) | (rw [hf _ _ (by omega)]; assumption)
theorem DivAt.alloc {w0 : World} {n d q r : Int} {W : World} (h : DivAt w0 n d q r W) (o : Obj) : DivAt w0 n d q r (W.alloc o) :=
  h.below ((Below.refl _ _).alloc (Nat.le_refl _) o)
theorem DivAt.drew {w0 : World} {n d q r : Int} {W : World} (h : DivAt w0 n d q r W) : DivAt w0 n d q r W.drew := by
  obtain ⟨c1, c2, c3, c4, c5, c6, c7, c8, f1, f2, f3, f4, b, z⟩ := h
  exact ⟨c1, c2, c3, c4, c5, c6, c7, c8, f1, f2, f3, f4, b.drew, z⟩
theorem DivAt.put {w0 : World} {n d q r : Int} {W : World} (h : DivAt w0 n d q r W) (q' r' : Int) :
    DivAt w0 n d q' r' ((((W.setCell ⟨w0.heap.size + 1 + 1, 0, none⟩ (.int .u64 (hi q'))).setCell ⟨w0.heap.size + 1 + 1, 1, none⟩ (.int .u64 (lo q'))).setCell ⟨w0.heap.size + 1 + 1 + 1, 0, none⟩ (.int .u64 (hi r'))).setCell ⟨w0.heap.size + 1 + 1 + 1, 1, none⟩ (.int .u64 (lo r'))) := by
  obtain ⟨c1, c2, c3, c4, c5, c6, c7, c8, f1, f2, f3, f4, b, z⟩ := h
  refine ⟨by simp [go_sem, *], by simp [go_sem, *], by simp [go_sem, *], by simp [go_sem, *], by simp [go_sem, *], by simp [go_sem, *], by simp [go_sem, *], by simp [go_sem, *], by simp [go_sem, *], by simp [go_sem, *], by simp [go_sem, *], by simp [go_sem, *], ?_, by simp [go_sem, *]⟩
  exact (((b.setCell (by simp; omega) _).setCell (by simp; omega) _).setCell (by simp; omega) _).setCell (by simp; omega) _
set_option maxHeartbeats 4000000 in
theorem divide_any (n d : Int) (w : World) (h : U n) (k : U d) (h0 : d ≠ 0) : Calls Tryz.prog 131 #[Sv n, Sv d] w fun e w' => e = .returned (.tuple #[Sv (n / d), Sv (n % d)]) ∧ Below w.heap.size w w' := by
  have bn := bl_le h
  have bd := bl_le k
  have H := Lib.hid (And.intro h k)
  have S0 := Lib.hid (dinv_start h k h0)
  have d0 : 0 < d := by rw [U_iff] at k; omega
  have D0 := Lib.hid d0
  clear h k h0 d0
  go_enter Tryz.func131, Tryz.ntmps131
  go_wp2
  go_step3
  go_wp2
  go_step3
  go_wp2
  go_upto_region 2 with fail
  go_cut [6] (fun s6 wx => s6 = .int .i64 (bl n - bl d) ∧ DivAt w n d 0 n wx)
  case first =>
    go_region_held3 (fun w' => w'.cell? ⟨w.heap.size, 0, none⟩ = some (.int .u64 (hi n)) ∧ w'.cell? ⟨w.heap.size, 1, none⟩ = some (.int .u64 (lo n)) ∧ w'.cell? ⟨w.heap.size + 1, 0, none⟩ = some (.int .u64 (hi d)) ∧ w'.cell? ⟨w.heap.size + 1, 1, none⟩ = some (.int .u64 (lo d))) (simp [go_sem])
        (first
        | (go_at_call 122; (with_reducible refine (length_any n _ H.out.1).mono ?_); rintro e w' ⟨rfl, rfl⟩)
        | (go_at_call 122; (with_reducible refine (length_any d _ H.out.2).mono ?_); rintro e w' ⟨rfl, rfl⟩))
    all_goals
      go_wp2_with fail
      go_meet
      have e64 : IntKind.i64.wrap ((bl n : Int) - bl d) = (bl n : Int) - bl d := by have := IntWalk.i64_in ((bl n : Int) - bl d) ⟨by omega, by omega⟩; exact this
      refine ⟨by rw [e64], ?_⟩
      refine ⟨by simp [go_sem], by simp [go_sem], by simp [go_sem], by simp [go_sem], by simp [go_sem] <;> rfl, by simp [go_sem] <;> rfl, by simp [go_sem], by simp [go_sem], by simp [go_sem], by simp [go_sem], by simp [go_sem], by simp [go_sem], ?_, ?_⟩
      · repeat (first | exact Below.refl _ _ | apply Below.drew | refine Below.alloc ?_ (by first | (simp; done) | (simp; omega) | omega) _)
      · simp
  case rest =>
    obtain ⟨rfl, hD⟩ := hcut
    go_upto_block 0 with fail
    go_cut [] (fun wx => DivAt w n d (n / d) (n % d) wx)
    case rest =>
      clear hD
      obtain ⟨c1, c2, c3, c4, c5, c6, c7, c8, f1, f2, f3, f4, hbw, hz0⟩ := hcut
      go_wp2
      go_region
      go_wp2
      try rw [Exit.noGoto_ret]
      refine bodyPost_ret (v := .tuple #[Sv (n / d), Sv (n % d)]) (by simp [results, Tryz.results131, go_sem, c5, c6, c7, c8]) rfl ⟨rfl, ?_⟩
      repeat (first | exact Below.refl _ _ | assumption | apply Below.drew | refine Below.setCell ?_ (by first | (simp; done) | (simp; omega) | omega) _ | refine Below.alloc ?_ (by first | (simp; done) | (simp; omega) | omega) _)
    case first =>
    go_wp2_with fail
    go_loopw [6] (fun s6 wr => ∃ a q r : Int, s6 = .int .i64 a ∧ DInv n d a q r ∧ DivAt w n d q r wr) (fun s6 _ => (intOf s6 + 1).toNat)
    case atStart => exact ⟨_, 0, n, rfl, S0.out, hD⟩
    case round =>
      obtain ⟨a, q, r, rfl, hI, hD⟩ := hrel
      have hD0 := hD
      obtain ⟨c1, c2, c3, c4, c5, c6, c7, c8, f1, f2, f3, f4, hbw, hz0⟩ := hD
      have HD := Lib.hid hD0
      clear hD0
      have hy2 : w.heap.size + 1 + 1 < wr.heap.size := by omega
      have hy1 : w.heap.size + 1 < wr.heap.size := by omega
      have hy0 : w.heap.size < wr.heap.size := by omega
      have I := Lib.hid hI
      have a0 : -200 ≤ a := hI.1
      have a1 : a ≤ 127 := hI.2.1
      clear hI
      by_cases ha : a < 0
      · go_wp2
        go_meet
        rw [← (dinv_end I.out ha D0.out).1, ← (dinv_end I.out ha D0.out).2]
        exact HD.out
      · obtain ⟨k, rfl⟩ := Int.eq_ofNat_of_zero_le (show 0 ≤ a by omega)
        have st1 := dinv_step I.out D0.out
        obtain ⟨st, est⟩ : ∃ st, st = d * 2 ^ k := ⟨_, rfl⟩
        have ST := Lib.hid (And.intro st1 est)
        have LC := Lib.hid (fun W => (show ws (d * 2 ^ k) = st by rw [st1.2.1, est]) ▸ left_any d k W H.out.2 st1.1)
        have hq := dinv_sizes I.out H.out.1 D0.out
        have BC := Lib.hid (fun W => withBit_any q k W hq.1 st1.1 st1.2.2)
        have UR := Lib.hid hq.2
        clear st1 est hq ha
        rcases Int.lt_trichotomy r st with g | g | g
        · have e1 := sg_lt g
          have G := Lib.hid g
          clear g
          go_wp2_with (first | (go_at_call 124; (with_reducible refine (LC.out _).mono ?_); rintro e w1 ⟨rfl, hb1⟩; obtain ⟨hc1, hf1⟩ := bcell hb1; have hz1 : w.heap.size < w1.heap.size := bsz hb1 (by first | omega | (simp; done) | (simp; omega)); have hz1b : w.heap.size + 1 < w1.heap.size := bsz hb1 (by first | omega | (simp; done) | (simp; omega)); have hz1c : w.heap.size + 1 + 1 < w1.heap.size := bsz hb1 (by first | omega | (simp; done) | (simp; omega)); have hz1d : w.heap.size + 1 + 1 + 1 < w1.heap.size := bsz hb1 (by first | omega | (simp; done) | (simp; omega))) | (go_at_call 132; (with_reducible refine (compare_any r st _).mono ?_); rintro e w2 ⟨rfl, hb2⟩; obtain ⟨hc2, hf2⟩ := bcell hb2; have hz2 : w.heap.size < w2.heap.size := bsz hb2 (by first | omega | (simp; done) | (simp; omega)); have hz2b : w.heap.size + 1 < w2.heap.size := bsz hb2 (by first | omega | (simp; done) | (simp; omega)); have hz2c : w.heap.size + 1 + 1 < w2.heap.size := bsz hb2 (by first | omega | (simp; done) | (simp; omega)); have hz2d : w.heap.size + 1 + 1 + 1 < w2.heap.size := bsz hb2 (by first | omega | (simp; done) | (simp; omega))))
          refine ⟨⟨(k : Int) - 1, q, r, rfl, dinv_down I.out (by rw [← ST.out.2]; exact G.out) D0.out, ((HD.out.below hb1).alloc _).below hb2⟩, by simp [intOf]⟩
        · have e1 : sg r st = 0 := g ▸ sg_eq r
          have G := Lib.hid g
          clear g
          obtain ⟨t, et⟩ : ∃ t, t = q + 2 ^ k := ⟨_, rfl⟩
          rw [← et] at BC
          have ET := Lib.hid et
          clear et
          go_wp2_with (first | (go_at_call 124; (with_reducible refine (LC.out _).mono ?_); rintro e w1 ⟨rfl, hb1⟩; obtain ⟨hc1, hf1⟩ := bcell hb1; have hz1 : w.heap.size < w1.heap.size := bsz hb1 (by first | omega | (simp; done) | (simp; omega)); have hz1b : w.heap.size + 1 < w1.heap.size := bsz hb1 (by first | omega | (simp; done) | (simp; omega)); have hz1c : w.heap.size + 1 + 1 < w1.heap.size := bsz hb1 (by first | omega | (simp; done) | (simp; omega)); have hz1d : w.heap.size + 1 + 1 + 1 < w1.heap.size := bsz hb1 (by first | omega | (simp; done) | (simp; omega))) | (go_at_call 132; (with_reducible refine (compare_any r st _).mono ?_); rintro e w2 ⟨rfl, hb2⟩; obtain ⟨hc2, hf2⟩ := bcell hb2; have hz2 : w.heap.size < w2.heap.size := bsz hb2 (by first | omega | (simp; done) | (simp; omega)); have hz2b : w.heap.size + 1 < w2.heap.size := bsz hb2 (by first | omega | (simp; done) | (simp; omega)); have hz2c : w.heap.size + 1 + 1 < w2.heap.size := bsz hb2 (by first | omega | (simp; done) | (simp; omega)); have hz2d : w.heap.size + 1 + 1 + 1 < w2.heap.size := bsz hb2 (by first | omega | (simp; done) | (simp; omega))) | (go_at_call 137; (with_reducible refine (BC.out _).mono ?_); rintro e w3 ⟨rfl, hb3⟩; obtain ⟨hc3, hf3⟩ := bcell hb3; have hz3 : w.heap.size < w3.heap.size := bsz hb3 (by first | omega | (simp; done) | (simp; omega)); have hz3b : w.heap.size + 1 < w3.heap.size := bsz hb3 (by first | omega | (simp; done) | (simp; omega)); have hz3c : w.heap.size + 1 + 1 < w3.heap.size := bsz hb3 (by first | omega | (simp; done) | (simp; omega)); have hz3d : w.heap.size + 1 + 1 + 1 < w3.heap.size := bsz hb3 (by first | omega | (simp; done) | (simp; omega))))
          go_meet
          rw [← (dinv_hit I.out (G.out.trans ST.out.2) D0.out).1, ← (dinv_hit I.out (G.out.trans ST.out.2) D0.out).2, ← ET.out]
          exact ((((HD.out.below hb1).alloc _).below hb2).below hb3).put t 0
        · have e1 := sg_gt g
          have G := Lib.hid g
          clear g
          obtain ⟨t, et⟩ : ∃ t, t = q + 2 ^ k := ⟨_, rfl⟩
          rw [← et] at BC
          obtain ⟨v, ev⟩ : ∃ v, v = r - st := ⟨_, rfl⟩
          have up := dinv_up I.out (by rw [← ST.out.2]; exact G.out) H.out.1 D0.out
          rw [← ST.out.2, ← ev, ← et] at up
          have US : U st := by rw [ST.out.2, ← ST.out.1.2.1]; exact U_ws _
          have hv : ws (r - st) = v := by rw [ev]; exact ws_in (by have := UR.out; have g := G.out; simp only [U_iff] at *; omega)
          have SC := Lib.hid (fun W => hv ▸ less_any r st W UR.out US)
          have UP := Lib.hid up
          clear up et ev US hv
          go_wp2_with (first | (go_at_call 124; (with_reducible refine (LC.out _).mono ?_); rintro e w1 ⟨rfl, hb1⟩; obtain ⟨hc1, hf1⟩ := bcell hb1; have hz1 : w.heap.size < w1.heap.size := bsz hb1 (by first | omega | (simp; done) | (simp; omega)); have hz1b : w.heap.size + 1 < w1.heap.size := bsz hb1 (by first | omega | (simp; done) | (simp; omega)); have hz1c : w.heap.size + 1 + 1 < w1.heap.size := bsz hb1 (by first | omega | (simp; done) | (simp; omega)); have hz1d : w.heap.size + 1 + 1 + 1 < w1.heap.size := bsz hb1 (by first | omega | (simp; done) | (simp; omega))) | (go_at_call 132; (with_reducible refine (compare_any r st _).mono ?_); rintro e w2 ⟨rfl, hb2⟩; obtain ⟨hc2, hf2⟩ := bcell hb2; have hz2 : w.heap.size < w2.heap.size := bsz hb2 (by first | omega | (simp; done) | (simp; omega)); have hz2b : w.heap.size + 1 < w2.heap.size := bsz hb2 (by first | omega | (simp; done) | (simp; omega)); have hz2c : w.heap.size + 1 + 1 < w2.heap.size := bsz hb2 (by first | omega | (simp; done) | (simp; omega)); have hz2d : w.heap.size + 1 + 1 + 1 < w2.heap.size := bsz hb2 (by first | omega | (simp; done) | (simp; omega))))
          have HD2 := ((HD.out.below hb1).alloc (.cells #[.int .u64 (hi st), .int .u64 (lo st)] 162)).below hb2
          have s0 : w2.cell? ⟨w1.heap.size, 0, none⟩ = some (.int .u64 (hi st)) := cell_on hb2 (World.cell?_alloc_new _ _ _ _)
          have s1 : w2.cell? ⟨w1.heap.size, 1, none⟩ = some (.int .u64 (lo st)) := cell_on hb2 (World.cell?_alloc_new _ _ _ _)
          have HD3 := Lib.hid HD2
          obtain ⟨x1, x2, x3, x4, x5, x6, x7, x8, y1, y2, y3, y4, hbx, hx0⟩ := HD2
          clear c1 c2 c3 c4 c5 c6 c7 c8 f1 f2 f3 f4 hc1 hf1 hc2 hf2
          go_region_with (first | (go_at_call 137; (with_reducible refine (BC.out _).mono ?_); rintro e w3 ⟨rfl, hb3⟩; (first | have D3 := Lib.hid (HD3.out.drew.below hb3) | have D3 := Lib.hid (D4.out.below hb3)); (first | have t0 := cell_on hb3 (drew_on s0) | have t0 := cell_on hb3 r0); (first | have t1 := cell_on hb3 (drew_on s1) | have t1 := cell_on hb3 r1); obtain ⟨z1, z2, z3, z4, z5, z6, z7, z8, v1, v2, v3, v4, hbz, hz0⟩ := D3.out) | (go_at_call 128; (with_reducible refine (SC.out _).mono ?_); rintro e w4 ⟨rfl, hb4⟩; (first | have D4 := Lib.hid (HD3.out.drew.below hb4) | have D4 := Lib.hid (D3.out.below hb4)); (first | have r0 := cell_on hb4 (drew_on s0) | have r0 := cell_on hb4 t0); (first | have r1 := cell_on hb4 (drew_on s1) | have r1 := cell_on hb4 t1); obtain ⟨m1, m2, m3, m4, m5, m6, m7, m8, l1, l2, l3, l4, hbm, hm0⟩ := D4.out))
          all_goals
            go_wp2
            refine ⟨⟨(k : Int) - 1, t, v, rfl, UP.out.2, ?_⟩, by simp [intOf]⟩
            first | (with_reducible exact D3.out.put t v) | (with_reducible exact D4.out.put t v) | (with_reducible exact DivAt.drew (D3.out.put t v)) | (with_reducible exact DivAt.drew (D4.out.put t v))
end Go.Proofs.YteplhlmdaabpaaaGreatDoor
namespace Go.Proofs.YteplhlmdaabpaaaGreatDoor
open Go.RowKit

/-- Is the quotient of the sizes raised by 1? -/
def up (n d : Int) : Bool := decide (0 < sg (2 * (ab n % ab d)) (ab d)) || (decide (sg (2 * (ab n % ab d)) (ab d) = 0) && (ab n / ab d % 2 == 1))
/-- The nearest whole number to n / d, halves to even. -/
def rd (n d : Int) : Int := sd (ng n != ng d) (if up n d = true then ab n / ab d + 1 else ab n / ab d)
/-- n / d rounded down. -/
def dn (n d : Int) : Int := sd (ng n != ng d) (if ((ng n != ng d) && !(ab n % ab d == 0)) = true then ab n / ab d + 1 else ab n / ab d)

theorem ab_ne {d : Int} (h : d ≠ 0) : ab d ≠ 0 := by unfold ab; omega
theorem ab_bd {a : Int} (h : R a) : 0 ≤ ab a ∧ ab a ≤ 170141183460469231731687303715884105728 := by rw [R_iff] at h; unfold ab; omega
theorem quo_sizes {n d : Int} (hn : R n) (hd : R d) (h0 : d ≠ 0) : U (ab n / ab d) ∧ U (ab n / ab d + 1) ∧ U (ab n % ab d) ∧ U (2 * (ab n % ab d)) := by
  obtain ⟨n0, n1⟩ := ab_bd hn
  obtain ⟨d0, d1⟩ := ab_bd hd
  have dp : 0 < ab d := by have := ab_ne h0; omega
  have q0 : 0 ≤ ab n / ab d := Int.ediv_nonneg n0 d0
  have q1 : ab n / ab d ≤ ab n := Int.ediv_le_self _ n0
  have r0 := Int.emod_nonneg (ab n) (show ab d ≠ 0 by omega)
  have r1 := Int.emod_lt_of_pos (ab n) dp
  simp only [U_iff]
  omega
end Go.Proofs.YteplhlmdaabpaaaGreatDoor
