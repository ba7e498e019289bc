/-
  
  
  
-/
import Derived.RangeFuncNested
import Derived.RangeFuncBound
import Derived.RangeFuncCalls
import Derived.RangeFuncLeaves
import Derived.RangeFuncBox
import Derived.Shelf.Abstract
import Derived.Shelf.RegionOpen
import Derived.WalkKit
import Derived.OwnWalkIn
import Derived.TacticsInMore
import Derived.LoopNIn
import Derived.LoopIn
import Derived.Maps.AppendAt
import Derived.Test.YtmafgdinegboeaaGreatM01
import Derived.Test.YtmafgdinegboeaaGreatM08
import Derived.Test.YtmafgdinegboeaaGreatM11
import Derived.Test.YtmafgdinegboeaaGreatM13
namespace Go.Proofs.YtmafgdinegboeaaGreat
open Go Go.RowKit Go.Shelf

def cS (rl ml : List Int) (C k j : Nat) : Int := smA (fun i => rl.getD i 0 * ml.getD (i * C + j) 0) k
theorem cS_step (rl ml : List Int) (C k j : Nat) : cS rl ml C (k + 1) j = cS rl ml C k j + rl.getD k 0 * ml.getD (k * C + j) 0 := rfl
theorem cS_R {rl ml : List Int} {C k j D : Nat} (hD : D ≤ 4096) (hk : k ≤ D) (hj : j < C) (lr : rl.length = D) (lm : ml.length = D * C) (wr : wds rl = true) (wm : wds ml = true) : R (cS rl ml C k j) := by
  refine sum_R (by omega) (fun i hi => word_mul (wds_wd wr (by omega)) (wds_wd wm ?_))
  rw [lm]
  have : (i + 1) * C ≤ D * C := Nat.mul_le_mul_right C (by omega)
  rw [Nat.add_mul, Nat.one_mul] at this; omega
theorem mulb_any (x y : Int) (w : World) (hx : wd x = true) (hy : wd y = true) : Calls Tryz.prog 160 #[.int .i64 x, .int .i64 y] w fun e w' => e = .returned (Wv (x * y)) ∧ Below w.heap.size w w' := by
  have h1 := wd_bd hx
  have h2 := wd_bd hy
  refine (mul_any x y w (by omega) (by omega) (by omega) (by omega)).mono fun e w' hh => ?_
  obtain ⟨rfl, rfl⟩ := hh
  exact ⟨rfl, (Below.refl _ _).alloc (Nat.le_refl _) _⟩

set_option maxRecDepth 100000 in
set_option maxHeartbeats 8000000 in
theorem sums_any (vs vr vm : Value) (q : Int) (D C : Nat) (rl ml : List Int) (w : World) (hvs : ∃ o n c, vs = .slice o n c) (hr : Ld w vr rl) (hm : Ld w vm ml) (lr : rl.length = D) (lm : ml.length = D * C) (hD : 1 ≤ D ∧ D ≤ 4096) (hC : 1 ≤ C ∧ C ≤ 4096) (hDC : D * C ≤ 65536) (wrl : wds rl = true) (wml : wds ml = true) :
    Calls Tryz.prog 103 #[.agg #[vs, .int .i64 q, .int .i64 (D : Nat), .int .i64 (C : Nat)], vr, vm] w (SomeZ w (cS rl ml C D) C) := by
  obtain ⟨i0, hi0, hz0, hz1, hz2⟩ := info_parts infoV
  obtain ⟨i1, hi1, hy0, hy1, hy2⟩ := info_parts infoW
  have mk : ∀ W : World, (Instr.makeSlice 136 (.int .i64 (C : Int)) (.int .i64 (C : Int))).run Tryz.prog W = .ok (.slice (some ⟨W.heap.size, 0, none⟩) C C) (W.alloc (.cells (wcs (fun _ => 0) C) 121)) := fun W => by
    have := run_make (w := W) 136 121 i0 (.agg #[.int .i64 0, .int .u64 0]) Tryz.underlying136 hi0 hz0 .i64 .i64 C C (by omega) (by omega) (by rw [hz2]; omega) (by omega)
    rw [this, hz1]
    show _ = _
    rw [← made_wides]; simp [Value.cells]
  obtain ⟨o1, n1, c1, rfl⟩ := hvs
  obtain ⟨w2, hw2⟩ : ∃ w2, w2 = (w.alloc (.cells #[.slice o1 n1 c1, .int .i64 q, .int .i64 (D : Nat), .int .i64 (C : Nat)] 172)).alloc (.cells (wcs (fun _ => 0) C) 121) := ⟨_, rfl⟩
  have B2 : Hid (Below w.heap.size w w2) := Lib.hid (by rw [hw2]; exact ((Below.refl _ _).alloc (Nat.le_refl _) _).alloc (by simp) _)
  have HP : Hid (Blk w2 w.heap.size 172 #[.slice o1 n1 c1, .int .i64 q, .int .i64 (D : Nat), .int .i64 (C : Nat)]) := Lib.hid (by rw [hw2]; exact (Blk.new w _ _).alloc _)
  have HZ : Hid (Blk w2 (w.heap.size + 1) 121 (wcs (fun _ => 0) C)) := Lib.hid (by
    rw [hw2]
    have q := Blk.new (w.alloc (.cells #[.slice o1 n1 c1, .int .i64 q, .int .i64 (D : Nat), .int .i64 (C : Nat)] 172)) 121 (wcs (fun _ => 0) C)
    rwa [World.size_alloc] at q)
  have HSZ : Hid (w2.heap.size = w.heap.size + 2) := Lib.hid (by rw [hw2]; simp)
  have HW2 := Lib.hid hw2
  obtain ⟨oR, cR, rfl, _, hxr⟩ := hr
  obtain ⟨oM, cM, rfl, hcM, hxm⟩ := hm
  have HXR := Lib.hid hxr
  have hml : 0 < ml.length := by have := Nat.mul_le_mul hD.1 hC.1; omega
  obtain ⟨bm, fm, rfl, _, _⟩ := hxm 0 hml
  have HXM : Hid (∀ i, i < ml.length → bm < w.heap.size ∧ w.cell? ⟨bm, fm + i, none⟩ = some (.int .i64 (ml.getD i 0))) := Lib.hid (fun i hi => by
    obtain ⟨b, f, e, h1, h2⟩ := hxm i hi
    simp only [Option.some.injEq, Addr.mk.injEq, and_true] at e
    obtain ⟨rfl, rfl⟩ := e
    exact ⟨h1, h2⟩)
  have HL := Lib.hid (And.intro lr (And.intro lm (And.intro wrl wml)))
  have HDC := Lib.hid (And.intro hD (And.intro hC hDC))
  have l1 : rl.length ≤ 4096 := by omega
  have l2 : ml.length ≤ 65536 := by omega
  have l3 : C ≤ 4096 := hC.2
  clear hw2 hxr hxm lr lm wrl wml hD hC hDC hml
  go_enter Tryz.func103, Tryz.ntmps103
  go_wp2
  clear mk
  have h00 : Hid (Blk w2 (w.heap.size + 1) 121 (wcs (cS rl ml C 0) C) ∧ Below (w.heap.size + 1) w2 w2) := Lib.hid ⟨HZ.out, Below.refl _ _⟩
  go_loopw [17] (fun s17 wQ => ∃ k : Nat, k ≤ rl.length ∧ s17 = .int .i64 k ∧ Hid (Blk wQ (w.heap.size + 1) 121 (wcs (cS rl ml C k) C) ∧ Below (w.heap.size + 1) w2 wQ)) (fun s17 _ => rl.length - (intOf s17).toNat)
  case atStart => exact ⟨0, Nat.zero_le _, rfl, by rw [← HW2.out]; exact h00⟩
  case round =>
    obtain ⟨k, hk, rfl, HB⟩ := hrel
    obtain ⟨w1, hw1⟩ : ∃ w1, w1 = wr := ⟨_, rfl⟩
    subst hw1
    have HPk := Lib.hid (HP.out.below HB.out.2 (Nat.lt_succ_self _))
    obtain ⟨y0, y1, y2, y3⟩ := blk4 HPk.out
    by_cases hlt : k < rl.length
    · have hkD : k < D := by have := HL.out.1; omega
      obtain ⟨KC, hKC⟩ : ∃ KC, KC = k * C := ⟨_, rfl⟩
      have hKC2 : KC + C ≤ ml.length := by
        rw [HL.out.2.1, hKC]
        have : (k + 1) * C ≤ D * C := Nat.mul_le_mul_right C hkD
        rwa [Nat.add_mul, Nat.one_mul] at this
      have hC1 : 1 ≤ C := HDC.out.2.1.1
      have hs1 := fun wx : World => run_on (P := Tryz.prog) (t := 24) Tryz.underlying24 hi1 hy1 bm fm ml.length cM KC (by omega) (by omega) wx
      have hs2 := fun wx : World => run_to (P := Tryz.prog) (t := 24) Tryz.underlying24 hi1 (some ⟨bm, fm + KC, none⟩) (ml.length - KC) (cM - KC) C (by omega) wx
      obtain ⟨bR, fR, rfl, hR1, hR2⟩ := HXR.out k hlt
      have B1 := Lib.hid (B2.out.trans (HB.out.2.mono (Nat.le_succ _)))
      have x1 : w1.cell? ⟨bR, fR + k, none⟩ = some (.int .i64 (rl.getD k 0)) := (B1.out.cell (p := ⟨bR, fR + k, none⟩) hR1).trans hR2
      have HKC := Lib.hid (And.intro hKC (And.intro hKC2 hkD))
      have hwx := wds_wd HL.out.2.2.1 hlt
      have ewc : (k : Int) * (C : Int) = (KC : Int) := by rw [hKC]; push_cast; rfl
      have hKb : -9223372036854775808 ≤ (KC : Int) ∧ (KC : Int) ≤ 9223372036854775807 := by omega
      have ew : wrap64 ((k : Int) * (C : Int)) = (KC : Int) := by rw [ewc]; exact IntWalk.wrap64_in _ hKb
      have ew2 : IntKind.i64.wrap ((k : Int) * (C : Int)) = (KC : Int) := by rw [ewc]; exact IntWalk.i64_in _ hKb
      clear hKC ewc hKb hR1 hR2
      generalize hx : rl.getD k 0 = x at *
      have HX := Lib.hid hx
      have HWX := Lib.hid hwx
      clear hx hwx
      go_upto_region 5 with (fail)
      go_quiet (fail)
      go_wp2
      clear ew ew2 hs1 hs2 x1
      have hbD := Lib.hid (below_drw (Below.refl w1.heap.size w1) nq)
      obtain ⟨wd, hwd⟩ : ∃ wd, wd = w1.drewN nq := ⟨_, rfl⟩
      rw [← hwd] at hbD ⊢
      clear hwd
      have hs12 : w.heap.size + 2 ≤ w1.heap.size := by have := HB.out.2.size; have := HSZ.out; omega
      have HD1 : Hid (Blk wd (w.heap.size + 1) 121 (wcs (fun m => if m < 0 then cS rl ml C (k + 1) m else cS rl ml C k m) C)) := Lib.hid (by
        rw [show (fun m => if m < 0 then cS rl ml C (k + 1) m else cS rl ml C k m) = cS rl ml C k from funext (fun m => if_neg (Nat.not_lt_zero _))]
        exact HB.out.1.below hbD.out HB.out.1.lt)
      have HD2 : Hid (Below (w.heap.size + 1) w2 wd) := Lib.hid (HB.out.2.trans (hbD.out.mono (by omega)))
      have HD3 : Hid (w.heap.size + 2 ≤ wd.heap.size) := Lib.hid (Nat.le_trans hs12 hbD.out.size)
      clear hs12 hbD HB B1 HPk y0 y1 y2 y3
      go_loopw [32] (fun s32 wQ => ∃ j : Nat, j ≤ C ∧ s32 = .int .i64 j ∧ Hid (Blk wQ (w.heap.size + 1) 121 (wcs (fun m => if m < j then cS rl ml C (k + 1) m else cS rl ml C k m) C)) ∧ Hid (Below (w.heap.size + 1) wd wQ)) (fun s32 _ => C - (intOf s32).toNat)
      case atStart => exact ⟨0, Nat.zero_le _, rfl, HD1, Lib.hid (Below.refl _ _)⟩
      case round =>
        obtain ⟨j, hj, rfl, HJ, HJB⟩ := hrel
        by_cases hjl : j < C
        · have hjm : KC + j < ml.length := by have := HKC.out.2.1; omega
          have hz3 : w.heap.size + 2 ≤ wr.heap.size := Nat.le_trans HD3.out HJB.out.size
          have xm : wr.cell? ⟨bm, fm + KC + j, none⟩ = some (.int .i64 (ml.getD (KC + j) 0)) := by
            obtain ⟨h1, h2⟩ := HXM.out _ hjm
            rw [Nat.add_assoc]
            exact (HJB.out.cell (p := ⟨bm, fm + (KC + j), none⟩) (Nat.lt_succ_of_lt h1)).trans ((HD2.out.cell (p := ⟨bm, fm + (KC + j), none⟩) (Nat.lt_succ_of_lt h1)).trans ((B2.out.cell (p := ⟨bm, fm + (KC + j), none⟩) h1).trans h2))
          have hwy := wds_wd HL.out.2.2.2 hjm
          have hR1 := cS_R (C := C) HDC.out.1.2 (Nat.le_of_lt HKC.out.2.2) hjl HL.out.1 HL.out.2.1 HL.out.2.2.1 HL.out.2.2.2
          have hR2 := cS_R (C := C) HDC.out.1.2 (show k + 1 ≤ D from HKC.out.2.2) hjl HL.out.1 HL.out.2.1 HL.out.2.2.1 HL.out.2.2.2
          have hst := cS_step rl ml C k j
          rw [HX.out, ← HKC.out.1] at hst
          generalize hy : ml.getD (KC + j) 0 = y at *
          obtain ⟨ps, hps⟩ : ∃ ps, ps = cS rl ml C k j := ⟨_, rfl⟩
          rw [← hps] at hR1 hst
          rw [hst] at hR2
          have KM := Lib.hid (fun (W : World) => mulb_any x y W HWX.out hwy)
          have KA : Hid (∀ W : World, Calls Tryz.prog 151 #[Wv ps, Wv (x * y)] W fun e w' => e = .returned (.tuple #[Wv (ps + x * y), .int .i64 0]) ∧ Below W.heap.size W w') := Lib.hid (fun W => by
            have h := add_any ps (x * y) W hR1 (by have := word_mul HWX.out hwy; rw [R_iff]; omega)
            rwa [told_in hR2, over_in hR2] at h)
          have hlc := wcs_at (f := fun m => if m < j then cS rl ml C (k + 1) m else cS rl ml C k m) hjl
          rw [show (if j < j then cS rl ml C (k + 1) j else cS rl ml C k j) = ps by rw [if_neg (Nat.lt_irrefl _), hps]] at hlc
          have CL : Hid (∀ W, Below wr.heap.size wr W → W.cell? ⟨w.heap.size + 1, j * 2, none⟩ = some (.int .i64 (hi ps)) ∧ W.cell? ⟨w.heap.size + 1, j * 2 + 1, none⟩ = some (.int .u64 (lo ps))) := Lib.hid (fun W hW => by
            have h := HJ.out.below hW HJ.out.lt
            exact ⟨(h.cell _).trans hlc.1, (h.cell _).trans hlc.2⟩)
          have CF : Hid (∀ W, Below wr.heap.size wr W → W.frozen? ⟨w.heap.size + 1, j * 2, none⟩ = false ∧ W.frozen? ⟨w.heap.size + 1, j * 2 + 1, none⟩ = false) := Lib.hid (fun W hW => by
            have h := HJ.out.below hW HJ.out.lt
            exact ⟨h.frozen _, h.frozen _⟩)
          have FIN : Hid (∀ W, Below wr.heap.size wr W → Hid (Blk ((W.setCell ⟨w.heap.size + 1, j * 2, none⟩ (.int .i64 (hi (ps + x * y)))).setCell ⟨w.heap.size + 1, j * 2 + 1, none⟩ (.int .u64 (lo (ps + x * y)))) (w.heap.size + 1) 121 (wcs (fun m => if m < j + 1 then cS rl ml C (k + 1) m else cS rl ml C k m) C))) := Lib.hid (fun W hW => by
            have h := ((HJ.out.below hW HJ.out.lt).set_ (j * 2) (.int .i64 (hi (ps + x * y)))).set_ (j * 2 + 1) (.int .u64 (lo (ps + x * y)))
            rw [wcs_set hjl] at h
            rw [show wcs (fun m => if m < j + 1 then cS rl ml C (k + 1) m else cS rl ml C k m) C = wcs (fun m => if m = j then ps + x * y else if m < j then cS rl ml C (k + 1) m else cS rl ml C k m) C from congrArg List.toArray (wcl_same (fun m _ => by
              by_cases e : m = j
              · subst e; rw [if_pos (Nat.lt_succ_self _), if_pos rfl, hst]
              · rw [if_neg e]
                by_cases e2 : m < j
                · rw [if_pos e2, if_pos (by omega)]
                · rw [if_neg e2, if_neg (by omega)]))]
            exact Lib.hid h)
          have FIB : Hid (∀ W, Below wr.heap.size wr W → Hid (Below (w.heap.size + 1) wd ((W.setCell ⟨w.heap.size + 1, j * 2, none⟩ (.int .i64 (hi (ps + x * y)))).setCell ⟨w.heap.size + 1, j * 2 + 1, none⟩ (.int .u64 (lo (ps + x * y)))))) := Lib.hid (fun W hW => Lib.hid (((HJB.out.trans (hW.mono (by omega))).setCell (p := ⟨w.heap.size + 1, j * 2, none⟩) (Nat.le_refl _) _).setCell (p := ⟨w.heap.size + 1, j * 2 + 1, none⟩) (Nat.le_refl _) _))
          have B0 : Hid (Below wr.heap.size wr wr.drew) := Lib.hid (below_drw (Below.refl _ _) 1)
          have g2 : (j : Int) < (C : Int) := by omega
          have HQ := Lib.hid (And.intro hps (And.intro hst hy))
          clear hps hst hy hR1 hR2 hlc hwy hjm hz3
          go_upto_region 8 with (fail)
          clear xm
          refine wp_region_held_drew (S := fun _ => True) (by kernel_rfl) ?_ (fun hHeld => ?_)
          · exact trivial
          have hHd := hHeld
          generalize wr.drew = w_0 at *
          (refine tk (i := 0) (oi := ⟨some 38, _, _, _, _, _⟩) (v := ?v0_s1) rfl ?hy0_s1 ?rest0_s1; (case hy0_s1 => intro w hSw; (try dsimp only at hSw); go_simp; first | done | with_reducible rfl))
          (try simp only [Act.put, pq])
          (refine tk (i := 1) (oi := ⟨some 39, _, _, _, _, _⟩) (v := ?v1_s2) rfl ?hy1_s2 ?rest1_s2; (case hy1_s2 => intro w hSw; (try dsimp only at hSw); go_simp; first | done | with_reducible rfl))
          (try simp only [Act.put, pq])
          (refine tk (i := 2) (oi := ⟨some 40, _, _, _, _, _⟩) (v := ?v2_s3) rfl ?hy2_s3 ?rest2_s3; (case hy2_s3 => intro w hSw; (try dsimp only at hSw); go_simp; first | done | with_reducible rfl))
          (try simp only [Act.put, pq])
          (refine tk (i := 3) (oi := ⟨some 41, _, _, _, _, _⟩) (v := ?v3_s4) rfl ?hy3_s4 ?rest3_s4; (case hy3_s4 => intro w hSw; (try dsimp only at hSw); go_simp; first | done | with_reducible rfl))
          (try simp only [Act.put, pq])
          (refine tk (i := 4) (oi := ⟨some 42, _, _, _, _, _⟩) (v := ?v4_s5) rfl ?hy4_s5 ?rest4_s5; (case hy4_s5 => intro w hSw; (try dsimp only at hSw); go_simp; first | done | with_reducible rfl))
          (try simp only [Act.put, pq])
          (refine tk (i := 6) (oi := ⟨some 44, _, _, _, _, _⟩) (v := ?v6_s6) rfl ?hy6_s6 ?rest6_s6; (case hy6_s6 => intro w hSw; (try dsimp only at hSw); go_simp; first | done | with_reducible rfl))
          (try simp only [Act.put, pq])
          (refine tk (i := 7) (oi := ⟨some 45, _, _, _, _, _⟩) (v := ?v7_s7) rfl ?hy7_s7 ?rest7_s7; (case hy7_s7 => intro w hSw; (try dsimp only at hSw); go_simp; first | done | with_reducible rfl))
          (try simp only [Act.put, pq])
          refine wpAnyH_ready (rs := [5, 8]) (by kernel_rfl) (by simp) ?_
          refine AllReadyH.cons (o := ⟨some 43, _, _, _, _, _⟩) rfl (fun K hK => ?_) (AllReadyH.cons (o := ⟨some 46, _, _, _, _, _⟩) rfl (fun K hK => ?_) (AllReadyH.nil))
          · obtain ⟨l0, l1⟩ := CL.out _ B0.out
            go_simp
            refine hK.out _ _ ?_ (fun hHeld => ?_)
            · (try dsimp only)
              all_goals exact trivial
            clear hK K
            (try simp only [Act.put, pq])
            refine wpAnyH_ready (rs := [8]) (by kernel_rfl) (by simp) ?_
            refine AllReadyH.cons (o := ⟨some 46, _, _, _, _, _⟩) rfl (fun K hK => ?_) (AllReadyH.nil)
            go_simp
            (go_at_call 160; (with_reducible refine (KM.out _).mono ?_); rintro e w11 ⟨rfl, hb⟩; have b11 := Lib.hid (B0.out.trans (hb.mono B0.out.size)); clear hb)
            refine hK.out _ _ ?_ (fun hHeld => ?_)
            · (try dsimp only)
              all_goals exact trivial
            clear hK K
            (try simp only [Act.put, pq])
            refine wpAnyH_ready (rs := [9]) (by kernel_rfl) (by simp) ?_
            refine AllReadyH.cons (o := ⟨some 47, _, _, _, _, _⟩) rfl (fun K hK => ?_) (AllReadyH.nil)
            go_simp
            (go_at_call 151; (with_reducible refine (KA.out _).mono ?_); rintro e w12 ⟨rfl, hb⟩; have b12 := Lib.hid (b11.out.trans (hb.mono b11.out.size)); clear hb)
            refine hK.out _ _ ?_ (fun hHeld => ?_)
            · (try dsimp only)
              all_goals exact trivial
            clear hK K
            (try simp only [Act.put, pq])
            (refine tk (i := 10) (oi := ⟨some 37, _, _, _, _, _⟩) (v := ?v10_s8) rfl ?hy10_s8 ?rest10_s8; (case hy10_s8 => intro w hSw; (try dsimp only at hSw); go_simp; first | done | with_reducible rfl))
            (try simp only [Act.put, pq])
            (refine tk (i := 11) (oi := ⟨some 48, _, _, _, _, _⟩) (v := ?v11_s9) rfl ?hy11_s9 ?rest11_s9; (case hy11_s9 => intro w hSw; (try dsimp only at hSw); go_simp; first | done | with_reducible rfl))
            (try simp only [Act.put, pq])
            (refine tk (i := 12) (oi := ⟨some 49, _, _, _, _, _⟩) (v := ?v12_s10) rfl ?hy12_s10 ?rest12_s10; (case hy12_s10 => intro w hSw; (try dsimp only at hSw); go_simp; first | done | with_reducible rfl))
            (try simp only [Act.put, pq])
            (refine tk (i := 13) (oi := ⟨some 50, _, _, _, _, _⟩) (v := ?v13_s11) rfl ?hy13_s11 ?rest13_s11; (case hy13_s11 => intro w hSw; (try dsimp only at hSw); go_simp; first | done | with_reducible rfl))
            (try simp only [Act.put, pq])
            refine wpAnyH_ready (rs := [14]) (by kernel_rfl) (by simp) ?_
            refine AllReadyH.cons (o := ⟨none, _, _, _, _, _⟩) rfl (fun K hK => ?_) (AllReadyH.nil)
            obtain ⟨l0, l1⟩ := CL.out _ b12.out
            obtain ⟨f0, f1⟩ := CF.out _ b12.out
            go_simp
            refine hK.out _ _ ?_ (fun hHeld => ?_)
            · (try dsimp only)
              all_goals exact trivial
            clear hK K
            (try simp only [Act.put, pq])
            refine wpAnyH_done (by kernel_rfl) ?_ _
            go_wp2
            exact ⟨⟨j + 1, by omega, by go_num, FIN.out _ b12.out, FIB.out _ b12.out⟩, by simp [intOf]; omega⟩
          · go_simp
            (go_at_call 160; (with_reducible refine (KM.out _).mono ?_); rintro e w11 ⟨rfl, hb⟩; have b11 := Lib.hid (B0.out.trans (hb.mono B0.out.size)); clear hb)
            refine hK.out _ _ ?_ (fun hHeld => ?_)
            · (try dsimp only)
              all_goals exact trivial
            clear hK K
            (try simp only [Act.put, pq])
            refine wpAnyH_ready (rs := [5]) (by kernel_rfl) (by simp) ?_
            refine AllReadyH.cons (o := ⟨some 43, _, _, _, _, _⟩) rfl (fun K hK => ?_) (AllReadyH.nil)
            obtain ⟨l0, l1⟩ := CL.out _ b11.out
            go_simp
            refine hK.out _ _ ?_ (fun hHeld => ?_)
            · (try dsimp only)
              all_goals exact trivial
            clear hK K
            (try simp only [Act.put, pq])
            refine wpAnyH_ready (rs := [9]) (by kernel_rfl) (by simp) ?_
            refine AllReadyH.cons (o := ⟨some 47, _, _, _, _, _⟩) rfl (fun K hK => ?_) (AllReadyH.nil)
            go_simp
            (go_at_call 151; (with_reducible refine (KA.out _).mono ?_); rintro e w12 ⟨rfl, hb⟩; have b12 := Lib.hid (b11.out.trans (hb.mono b11.out.size)); clear hb)
            refine hK.out _ _ ?_ (fun hHeld => ?_)
            · (try dsimp only)
              all_goals exact trivial
            clear hK K
            (try simp only [Act.put, pq])
            (refine tk (i := 10) (oi := ⟨some 37, _, _, _, _, _⟩) (v := ?v10_s12) rfl ?hy10_s12 ?rest10_s12; (case hy10_s12 => intro w hSw; (try dsimp only at hSw); go_simp; first | done | with_reducible rfl))
            (try simp only [Act.put, pq])
            (refine tk (i := 11) (oi := ⟨some 48, _, _, _, _, _⟩) (v := ?v11_s13) rfl ?hy11_s13 ?rest11_s13; (case hy11_s13 => intro w hSw; (try dsimp only at hSw); go_simp; first | done | with_reducible rfl))
            (try simp only [Act.put, pq])
            (refine tk (i := 12) (oi := ⟨some 49, _, _, _, _, _⟩) (v := ?v12_s14) rfl ?hy12_s14 ?rest12_s14; (case hy12_s14 => intro w hSw; (try dsimp only at hSw); go_simp; first | done | with_reducible rfl))
            (try simp only [Act.put, pq])
            (refine tk (i := 13) (oi := ⟨some 50, _, _, _, _, _⟩) (v := ?v13_s15) rfl ?hy13_s15 ?rest13_s15; (case hy13_s15 => intro w hSw; (try dsimp only at hSw); go_simp; first | done | with_reducible rfl))
            (try simp only [Act.put, pq])
            refine wpAnyH_ready (rs := [14]) (by kernel_rfl) (by simp) ?_
            refine AllReadyH.cons (o := ⟨none, _, _, _, _, _⟩) rfl (fun K hK => ?_) (AllReadyH.nil)
            obtain ⟨l0, l1⟩ := CL.out _ b12.out
            obtain ⟨f0, f1⟩ := CF.out _ b12.out
            go_simp
            refine hK.out _ _ ?_ (fun hHeld => ?_)
            · (try dsimp only)
              all_goals exact trivial
            clear hK K
            (try simp only [Act.put, pq])
            refine wpAnyH_done (by kernel_rfl) ?_ _
            go_wp2
            exact ⟨⟨j + 1, by omega, by go_num, FIN.out _ b12.out, FIB.out _ b12.out⟩, by simp [intOf]; omega⟩
        · obtain rfl : j = C := by omega
          have HE : Hid (Blk wr (w.heap.size + 1) 121 (wcs (cS rl ml j (k + 1)) j) ∧ Below (w.heap.size + 1) w2 wr) := Lib.hid ⟨by
            have h := HJ.out
            rwa [show wcs (fun m => if m < j then cS rl ml j (k + 1) m else cS rl ml j k m) j = wcs (cS rl ml j (k + 1)) j from congrArg List.toArray (wcl_same (fun m hm => if_pos hm))] at h, HD2.out.trans HJB.out⟩
          go_wp2
          exact ⟨⟨k + 1, by omega, by go_num, HE⟩, by simp [intOf]; omega⟩
    · as_aux_lemma =>
      obtain rfl : k = rl.length := by omega
      have HLr := HL.out.1
      have HE := Lib.hid (B2.out.trans (HB.out.2.mono (Nat.le_succ _)))
      go_wp2
      go_ret
      exact ⟨_, rfl, Lib.hid (by have := HB.out.1; rwa [HL.out.1] at this), HE.out⟩
end Go.Proofs.YtmafgdinegboeaaGreat
namespace Go.Proofs.YtmafgdinegboeaaGreat
open Go Go.RowKit Go.Shelf
attribute [local go_sem] Oper.semAt_some

def cks {N : Nat} : (j : Nat) → j ≤ N → List (Fin N)
  | 0, _ => []
  | j + 1, h => cks j (by omega) ++ [⟨j, h⟩]
theorem cks_len {N : Nat} : ∀ (j : Nat) (h : j ≤ N), (cks j h).length = j
  | 0, _ => rfl
  | j + 1, h => by simp [cks, cks_len j]
def Kp2 (B1 B2 : Nat) (W W' : World) : Prop := W'.heap[B1]? = W.heap[B1]? ∧ W'.heap[B2]? = W.heap[B2]?
theorem Kp2.refl (B1 B2 : Nat) (W : World) : Kp2 B1 B2 W W := ⟨rfl, rfl⟩
theorem Kp2.trans {B1 B2 : Nat} {a b c : World} (h : Kp2 B1 B2 a b) (k : Kp2 B1 B2 b c) : Kp2 B1 B2 a c := ⟨k.1.trans h.1, k.2.trans h.2⟩
theorem Kp2.put {B1 B2 : Nat} {w : World} (h1 : B1 < w.heap.size) (h2 : B2 < w.heap.size) (W : World) (l : Nat) (o o' : Obj) (hl : w.heap.size ≤ l) (_ : W.heap[l]? = some o) (_ : o.isCells = false) (_ : o.isWalk = false) : Kp2 B1 B2 W (W.putObj l o') :=
  ⟨World.putObj_heap_other (by omega), World.putObj_heap_other (by omega)⟩
theorem Kp2.c1 {B1 B2 : Nat} {W W' : World} (h : Kp2 B1 B2 W W') : W'.cell? ⟨B1, 0, none⟩ = W.cell? ⟨B1, 0, none⟩ := by simp [World.cell?, h.1]
theorem Kp2.c2 {B1 B2 : Nat} {W W' : World} (h : Kp2 B1 B2 W W') : W'.cell? ⟨B2, 0, none⟩ = W.cell? ⟨B2, 0, none⟩ := by simp [World.cell?, h.2]
theorem run_mid {P : Program} {t e : TypeId} {i : TypeInfo} (hu : P.underlying t = some (.slice e)) (hi : P.info? e = some i) (hs : i.size = 1) (g f L c a m : Nat) (h : a + m ≤ c) (hm : 1 ≤ m) (wx : World) :
    (Instr.slice t (.slice (some ⟨g, f, none⟩) L c) (some (.int .i64 (a : Int))) (some (.int .i64 ((a : Int) + (m : Int)))) (some (.int .i64 ((a : Int) + (m : Int))))).run P wx = .ok (.slice (some ⟨g, f + a, none⟩) m m) wx := by
  have a1 : (0 : Int) ≤ (a : Int) + (m : Int) ∧ (a : Int) + (m : Int) ≤ (c : Int) := by omega
  have a2 : (a : Int) ≤ (a : Int) + (m : Int) := by omega
  have a3 : (0 : Int) ≤ (a : Int) := by omega
  have a4 : ((a : Int) + (m : Int)).toNat = a + m := by omega
  have a5 : ¬ a + m = a := by omega
  simp [Instr.slice, run_underlying hu, Instr.sliceBounds, Instr.sliceBound, asIntOf, sizeOf, typeInfo, hi, hs, a1.1, a1.2, Addr.add]
  have a6 : (a : Int) + (m : Int) ≤ max ((a : Int) + (m : Int)) 0 := by omega
  simp only [a4, a5, if_false]
  rw [if_pos a6, if_pos a2, Nat.add_sub_cancel_left]
  by_cases q : a = 0
  · subst q; simp
  · rw [if_neg q]
theorem reg_wide {P : Program} {n id : Nat} {ops : Array Oper} {a F : Act} {W : World} {K : Exit → Act → World → Prop} {T : World → Prop} (h : (Code.region id ops true).wp P (fun e a2 W2 => e = .normal ∧ a2 = F ∧ T W2) a W) (hk : ∀ W2, T W2 → K .normal F W2) : (Code.region id ops true).wpIn Fence.wide n P K a W := by
  refine wpIn_mono (wpIn_wide.2 h) ?_
  rintro e a3 W3 ⟨rfl, rfl, h3⟩
  exact hk _ h3
def pck {N : Nat} (b f m : Nat) (x : Fin N) : Array Value := #[.slice (some ⟨b, f + x.1 * m, none⟩) m m]

set_option maxRecDepth 100000 in
set_option maxHeartbeats 4000000 in
theorem chunk1_in (n : Nat) (hn : 1 ≤ n) (l B1 B2 b f m N c : Nat) (hm : 1 ≤ m) (hNm : N * m ≤ 65536) (hc : N * m ≤ c) (J Jx : List (Fin N) → World → Prop)
    (hY : ∀ pre x W, J pre W → pre.length < N → YieldAt Fence.wide (n - 1) Tryz.prog l (pck b f m x) W fun e W' =>
      (e = .returned (.bool true) ∧ J (pre ++ [x]) W' ∧ Kp2 B1 B2 W W') ∨ (e = .returned (.bool false) ∧ Jx (pre ++ [x]) W'))
    (W : World) (hJa : AbidesFrom W.heap.size J) (h1 : W.cell? ⟨B1, 0, none⟩ = some (.slice (some ⟨b, f, none⟩) (N * m) c)) (h2 : W.cell? ⟨B2, 0, none⟩ = some (.int .i64 (m : Nat))) (h0 : J [] W) :
    CallsIn Fence.wide n Tryz.prog 157 #[.func (.yield l) #[] #[], .pointer (some ⟨B1, 0, none⟩), .pointer (some ⟨B2, 0, none⟩)] W fun e W' => (∃ v, e = .returned v) ∧
      ((∃ ys, ys = cks N (Nat.le_refl N) ∧ J ys W') ∨ (∃ pre, (∃ (j : Nat) (hj : j ≤ N), pre = cks j hj) ∧ Jx pre W')) := by
  obtain ⟨i1, hi1, hy0, hy1, hy2⟩ := info_parts infoW
  obtain ⟨NM, hNM⟩ : ∃ NM, NM = N * m := ⟨_, rfl⟩
  rw [← hNM] at hNm hc h1
  have HNM := Lib.hid hNM
  clear hNM
  refine callsIn_of_wp Tryz.func157 rfl trivial ?_ rfl
  simp only [Tryz.ntmps157, List.size_toArray, List.length_cons, List.length_nil, Nat.reduceAdd, Nat.reduceSub, Array.replicate_succ, Array.replicate_zero, List.push_toArray, List.append_toArray, List.nil_append, List.cons_append]
  have HC := Lib.hid (And.intro h1 h2)
  clear h1 h2
  gi_wp2
  gi_loopw [4] (fun s4 wQ => ∃ (j JM : Nat) (hj : j ≤ N), s4 = .int .i64 (JM : Nat) ∧ JM ≤ NM ∧ Hid (JM = j * m) ∧ J (cks j hj) wQ ∧ Hid (wQ.cell? ⟨B1, 0, none⟩ = some (.slice (some ⟨b, f, none⟩) NM c) ∧ wQ.cell? ⟨B2, 0, none⟩ = some (.int .i64 (m : Nat)))) (fun s4 _ => NM - (intOf s4).toNat)
  case atStart => exact ⟨0, 0, Nat.zero_le _, rfl, Nat.zero_le _, Lib.hid (by simp), h0, HC⟩
  case round =>
    obtain ⟨j, JM, hj, rfl, hJN, HJ, hJs, hK⟩ := hrel
    obtain ⟨k1, k2⟩ := hK.out
    by_cases hlt : j < N
    · have hJ1 : JM + m ≤ NM := by
        rw [HJ.out, HNM.out]
        have : (j + 1) * m ≤ N * m := Nat.mul_le_mul_right m hlt
        rwa [Nat.add_mul, Nat.one_mul] at this
      have HY : Hid (∀ w2, J (cks j hj) w2 → YieldAt Fence.wide (n - 1) Tryz.prog l #[.slice (some ⟨b, f + JM, none⟩) m m] w2 fun e W' => (e = .returned (.bool true) ∧ J (cks (j + 1) hlt) W' ∧ Kp2 B1 B2 w2 W') ∨ (e = .returned (.bool false) ∧ Jx (cks (j + 1) hlt) W')) := Lib.hid (fun w2 h => by
        have h2 := hY (cks j hj) ⟨j, hlt⟩ w2 h (by rw [cks_len]; exact hlt)
        rwa [show pck b f m (⟨j, hlt⟩ : Fin N) = #[.slice (some ⟨b, f + JM, none⟩) m m] by unfold pck; rw [HJ.out]] at h2)
      have HD : Hid (∀ q, J (cks j hj) (wr.drewN q)) := Lib.hid (fun q => by
        have hB := below_drw (Below.refl wr.heap.size wr) q
        exact hJa _ wr _ none hJs ⟨hB.os, hB.tape, hB.output, hB.size, fun k hk _ => hB.block k hk⟩ (fun r e => by cases e))
      have HJ1 : Hid (JM + m = (j + 1) * m) := Lib.hid (by rw [HJ.out, Nat.add_mul, Nat.one_mul])
      have hs1 := fun wx : World => run_on (P := Tryz.prog) (t := 24) Tryz.underlying24 hi1 hy1 b f NM c JM (by omega) (by omega) wx
      have hs2 := fun wx : World => run_mid (P := Tryz.prog) (t := 24) Tryz.underlying24 hi1 hy1 b f NM c JM m (by omega) hm wx
      have g1 : (JM : Int) < (NM : Int) := by omega
      have g2 : ¬ ((NM - JM : Nat) : Int) < (m : Int) := by omega
      have g3 : (m : Int) ≤ ((NM - JM : Nat) : Int) := by omega
      have hmin : min (m : Int) ((NM - JM : Nat) : Int) = (m : Int) := by omega
      gi_wp2
      refine' reg_wide (T := fun W2 => ∃ q, W2 = wr.drewN q) ?_ ?_
      rotate_left
      · go_quiet (fail)
        exact ⟨rfl, rfl, _, rfl⟩
      rintro W2 ⟨nq, rfl⟩
      have hJq := HD.out nq
      obtain ⟨wd, hwd⟩ : ∃ wd, wd = wr.drewN nq := ⟨_, rfl⟩
      have k3 : wd.cell? ⟨B1, 0, none⟩ = some (.slice (some ⟨b, f, none⟩) NM c) := by rw [hwd]; exact k1
      have k4 : wd.cell? ⟨B2, 0, none⟩ = some (.int .i64 (m : Nat)) := by rw [hwd]; exact k2
      rw [← hwd] at hJq ⊢
      obtain ⟨fn, tmps, assign, body, hy, hR⟩ := HY.out wd hJq
      have hK3 := Lib.hid (And.intro k3 k4)
      clear hwd k1 k2 hs1 g2 g3 HD hK HY
      gi_wp2
      refine hR.mono ?_
      rintro e W3 (⟨rfl, hJ3, hk3⟩ | ⟨rfl, hJx3⟩)
      · have c1 := (hk3.c1).trans hK3.out.1
        have c2 := (hk3.c2).trans hK3.out.2
        have HC3 := Lib.hid (And.intro c1 c2)
        gi_wp2
        go_roundw
        case rel => exact ⟨j + 1, JM + m, hlt, by go_num, hJ1, HJ1, hJ3, HC3⟩
        case measure => simp [intOf]; omega
      · gi_wp2
        refine bodyPost_ret (results_none rfl _ _ _) rfl ?_
        exact ⟨⟨_, rfl⟩, .inr ⟨cks (j + 1) hlt, ⟨_, _, rfl⟩, hJx3⟩⟩
    · obtain rfl : j = N := by omega
      have hJN2 : JM = NM := by rw [HJ.out, HNM.out]
      subst hJN2
      gi_wp2
      go_end0
      exact ⟨⟨_, rfl⟩, .inl ⟨_, rfl, hJs⟩⟩
theorem chunk_stops (n : Nat) (hn : 1 ≤ n) (B1 B2 b f m N c : Nat) (hm : 1 ≤ m) (hNm : N * m ≤ 65536) (hc : N * m ≤ c) (w : World) (h1 : Boxed w B1 24 (.slice (some ⟨b, f, none⟩) (N * m) c)) (h2 : Boxed w B2 3 (.int .i64 (m : Nat))) :
    SeqStopsK Fence.wide n Tryz.prog 157 #[.pointer (some ⟨B1, 0, none⟩), .pointer (some ⟨B2, 0, none⟩)] (pck (N := N) b f m) (Kp2 B1 B2) (fun ys => ys = cks N (Nat.le_refl N)) (fun pre => ∃ (j : Nat) (hj : j ≤ N), pre = cks j hj) N w := fun l J Jx W hW hJ _ hY h0 =>
  chunk1_in n hn l B1 B2 b f m N c hm hNm hc J Jx hY W hJ (box_on h1 hW).cell (box_on h2 hW).cell h0
set_option maxRecDepth 100000 in
set_option maxHeartbeats 2000000 in
theorem chunk_any (b f L c m : Nat) (hm : 1 ≤ m) (w : World) : Calls Tryz.prog 89 #[.slice (some ⟨b, f, none⟩) L c, .int .i64 (m : Nat)] w fun e w' =>
    e = .returned (.func (.func 157) #[] #[.pointer (some ⟨w.heap.size, 0, none⟩), .pointer (some ⟨w.heap.size + 1, 0, none⟩)]) ∧ w' = (w.alloc (.cells #[.slice (some ⟨b, f, none⟩) L c] 24)).alloc (.cells #[.int .i64 (m : Nat)] 3) := by
  have g1 : ¬ (m : Int) < 1 := by omega
  go_enter Tryz.func89, Tryz.ntmps89
  go_wp2
  go_ret
  exact ⟨rfl, rfl⟩
end Go.Proofs.YtmafgdinegboeaaGreat
namespace Go.Proofs.YtmafgdinegboeaaGreat

section
variable (da db : List Int) (D C Rb f : Nat)
def va3 (x r j : Nat) : Int := tw (rd (mS da db D C x r j) (2 ^ f))
def er3 (x r j : Nat) : Int := te (rd (mS da db D C x r j) (2 ^ f))
def rwv (p : Nat × Nat) (j : Nat) : List Int := (List.range j).map fun i => va3 da db D C f p.1 p.2 i
theorem rwv_len (p : Nat × Nat) (j : Nat) : (rwv da db D C f p j).length = j := by simp [rwv]
theorem rwv_snoc (p : Nat × Nat) (j : Nat) : rwv da db D C f p (j + 1) = rwv da db D C f p j ++ [va3 da db D C f p.1 p.2 j] := by simp [rwv, List.range_succ]
def dat (l : List (Nat × Nat)) : List Int := l.flatMap fun p => rwv da db D C f p C
def okr (l : List (Nat × Nat)) : Prop := ∀ p ∈ l, ∀ j, j < C → er3 da db D C f p.1 p.2 j = 0
theorem dat_snoc (l : List (Nat × Nat)) (p : Nat × Nat) : dat da db D C f (l ++ [p]) = dat da db D C f l ++ rwv da db D C f p C := by simp [dat]
theorem dat_len : ∀ l : List (Nat × Nat), (dat da db D C f l).length = l.length * C
  | [] => by simp [dat]
  | p :: l => by
    show (rwv da db D C f p C ++ dat da db D C f l).length = _
    rw [List.length_append, rwv_len, dat_len l, List.length_cons, Nat.add_mul, Nat.one_mul, Nat.add_comm]
theorem okr_snoc {l : List (Nat × Nat)} {p : Nat × Nat} (h : okr da db D C f l) (hp : ∀ j, j < C → er3 da db D C f p.1 p.2 j = 0) : okr da db D C f (l ++ [p]) := fun q hq j hj => by
  rcases List.mem_append.1 hq with h1 | h1
  · exact h q h1 j hj
  · obtain rfl := List.mem_singleton.1 h1; exact hp j hj
def rows (L : List Nat) (n : Nat) : List (Nat × Nat) := (List.range n).map fun r => (L.getD (r / Rb) 0, r)
theorem rows_len (L : List Nat) (n : Nat) : (rows Rb L n).length = n := by simp [rows]
theorem rows_snoc (L : List Nat) (n : Nat) : rows Rb L (n + 1) = rows Rb L n ++ [(L.getD (n / Rb) 0, n)] := by simp [rows, List.range_succ]
theorem rows_app (L : List Nat) (x n : Nat) (_hR : 1 ≤ Rb) (hn : n ≤ L.length * Rb) : rows Rb (L ++ [x]) n = rows Rb L n := by
  unfold rows
  refine List.map_congr_left (fun r hr => ?_)
  have h1 := List.mem_range.1 hr
  have h2 : r / Rb < L.length := Nat.div_lt_of_lt_mul (by rw [Nat.mul_comm]; omega)
  simp [List.getD, List.getElem?_append_left h2]
theorem getD_snoc (L : List Nat) (x i : Nat) (hR : 1 ≤ Rb) (hi : i < Rb) : (L ++ [x]).getD ((L.length * Rb + i) / Rb) 0 = x := by
  have : (L.length * Rb + i) / Rb = L.length := by
    rw [Nat.add_comm, Nat.add_mul_div_right _ _ hR, Nat.div_eq_of_lt hi, Nat.zero_add]
  rw [this]; simp [List.getD]
end
theorem range_getD {n k : Nat} (h : k < n) : (List.range n).getD k 0 = k := by simp [List.getD, h]
theorem cks_map {N : Nat} : ∀ (j : Nat) (h : j ≤ N), (cks j h).map (fun x : Fin N => x.1) = List.range j
  | 0, _ => rfl
  | j + 1, h => by
    unfold cks
    rw [List.map_append, cks_map j, List.range_succ]; rfl
theorem mN_at {da db : List Int} {D C Rb r j : Nat} (hj : j < C) : mN da db D C Rb (r * C + j) = mS da db D C (r / Rb) r j := by
  have e1 : (r * C + j) / C = r := by rw [Nat.add_comm, Nat.add_mul_div_right _ _ (by omega), Nat.div_eq_of_lt hj, Nat.zero_add]
  have e2 : (r * C + j) % C = j := by rw [Nat.add_comm, Nat.add_mul_mod_self_right, Nat.mod_eq_of_lt hj]
  unfold mN
  rw [e1, e2]
theorem dat_all {da db : List Int} {D C Rb f NB : Nat} (hR : 1 ≤ Rb) : ∀ n, n ≤ NB * Rb → dat da db D C f (rows Rb (List.range NB) n) = vls (mva da db D C Rb f) (n * C)
  | 0, _ => by rw [Nat.zero_mul]; rfl
  | n + 1, h => by
    have h2 : n / Rb < NB := Nat.div_lt_of_lt_mul (by rw [Nat.mul_comm]; omega)
    rw [rows_snoc, dat_snoc, dat_all hR n (by omega), range_getD h2, show (n + 1) * C = n * C + C by rw [Nat.add_mul, Nat.one_mul]]
    unfold vls
    rw [List.range_add, List.map_append, List.map_map]
    congr 1
    unfold rwv
    refine List.map_congr_left (fun j hj => ?_)
    show va3 da db D C f (n / Rb) n j = mva da db D C Rb f (n * C + j)
    unfold va3 mva
    rw [mN_at (List.mem_range.1 hj)]
theorem okr_all {da db : List Int} {D C Rb f NB n : Nat} (_hR : 1 ≤ Rb) (hn : n ≤ NB * Rb) (h : okr da db D C f (rows Rb (List.range NB) n)) : ∀ k, k < n * C → mvr da db D C Rb f k = 0 := fun k hk => by
  have hC : 0 < C := by
    rcases Nat.eq_zero_or_pos C with e | e
    · subst e; omega
    · exact e
  have h1 : k / C < n := Nat.div_lt_of_lt_mul (by rw [Nat.mul_comm]; exact hk)
  have h2 : k % C < C := Nat.mod_lt _ hC
  have h3 : k / C / Rb < NB := Nat.div_lt_of_lt_mul (by rw [Nat.mul_comm]; omega)
  have e := h (k / C / Rb, k / C) (List.mem_map.2 ⟨k / C, List.mem_range.2 h1, by rw [range_getD h3]⟩) (k % C) h2
  unfold er3 at e
  unfold mvr mN
  exact e
theorem fer_row {da db : List Int} {D C Rb f NB r j : Nat} (hR : 1 ≤ Rb) (hr : r < NB * Rb) (hj : j < C) (h : okr da db D C f (rows Rb (List.range NB) r)) (h2 : ∀ i, i < j → er3 da db D C f (r / Rb) r i = 0) (h3 : er3 da db D C f (r / Rb) r j ≠ 0) :
    fer (mvr da db D C Rb f) (NB * Rb * C) = er3 da db D C f (r / Rb) r j := by
  have e : ∀ i, i < C → mvr da db D C Rb f (r * C + i) = er3 da db D C f (r / Rb) r i := fun i hi => by
    unfold mvr er3; rw [mN_at hi]
  rw [← e j hj]
  refine fer_first (fun k hk => ?_) (by rw [e j hj]; exact h3) _ ?_
  · by_cases q : k < r * C
    · exact okr_all hR (by omega) h k q
    · obtain ⟨i, rfl⟩ : ∃ i, k = r * C + i := ⟨k - r * C, by omega⟩
      rw [e i (by omega)]
      exact h2 i (by omega)
  · have : (r + 1) * C ≤ NB * Rb * C := Nat.mul_le_mul_right C hr
    rw [Nat.add_mul, Nat.one_mul] at this
    omega
end Go.Proofs.YtmafgdinegboeaaGreat
