
import Derived.BigQuiet
import Derived.Deep.QuietTactic
import Derived.Test.YtmafgdinegboeaaGreatM01
import Derived.Test.YtmafgdinegboeaaGreatM03
import Derived.Test.YtmafgdinegboeaaGreatM08
import Derived.Test.YtmafgdinegboeaaGreatM11
namespace Go.Proofs.YtmafgdinegboeaaGreat
open Go Go.RowKit Go.Shelf

theorem run_to {P : Program} {t e : TypeId} {i : TypeInfo} (hu : P.underlying t = some (.slice e)) (hi : P.info? e = some i) (o : Option Addr) (L c n : Nat) (h : n ≤ c) (wx : World) :
    (Instr.slice t (.slice o L c) none (some (.int .i64 (n : Int))) none).run P wx = .ok (.slice o n c) wx := by
  have a1 : (0 : Int) ≤ (n : Int) ∧ (n : Int) ≤ (c : Int) := by omega
  have hm : (o.map fun x : Addr => x.add 0) = o := by
    cases o with
    | none => rfl
    | some x => simp [Addr.add]
  simp [Instr.slice, run_underlying hu, Instr.sliceBounds, Instr.sliceBound, asIntOf, sizeOf, typeInfo, hi, a1.1, hm]
  intro q; omega
theorem run_on {P : Program} {t e : TypeId} {i : TypeInfo} (hu : P.underlying t = some (.slice e)) (hi : P.info? e = some i) (hs : i.size = 1) (g f L c n : Nat) (h : n ≤ L) (hc : n < c) (wx : World) :
    (Instr.slice t (.slice (some ⟨g, f, none⟩) L c) (some (.int .i64 (n : Int))) none none).run P wx = .ok (.slice (some ⟨g, f + n, none⟩) (L - n) (c - n)) wx := by
  have a1 : (0 : Int) ≤ (n : Int) ∧ (n : Int) ≤ (L : Int) := by omega
  have a2 : ¬ c = n := by omega
  simp [Instr.slice, run_underlying hu, Instr.sliceBounds, Instr.sliceBound, asIntOf, sizeOf, typeInfo, hi, hs, a1.1, a2, Addr.add]
  rw [if_pos h]
  by_cases q : n = 0
  · subst q; simp
  · rw [if_neg q]
theorem ld_to {W : World} {o : Option Addr} {L c n : Nat} {ls : List Int} (h : Ld W (.slice o L c) ls) (hn : n ≤ L) : Ld W (.slice o n c) (ls.take n) := by
  obtain ⟨o2, c2, e, h1, h2⟩ := h
  simp only [Value.slice.injEq] at e
  obtain ⟨rfl, rfl, rfl⟩ := e
  have hl : (ls.take n).length = n := by simp; omega
  refine ⟨_, _, by rw [hl], by omega, fun k hk => ?_⟩
  obtain ⟨b, f, e1, e2, e3⟩ := h2 k (by omega)
  exact ⟨b, f, e1, e2, by rw [e3, take_getD (by omega)]⟩
set_option maxRecDepth 100000 in
set_option maxHeartbeats 4000000 in
theorem fit_any (va vb : Value) (a b : List Int) (w : World) (ha : Ld w va a) (hb : Ld w vb b) (la : a.length ≤ 4) (lb : b.length ≤ 4) :
    Calls Tryz.prog 163 #[va, vb] w fun e w' => e = .returned (.bool (mfit a b)) ∧ Below w.heap.size w w' := by
  obtain ⟨i0, hi0, hz0, hz1, hz2⟩ := info_parts infoI
  have HLA := Lib.hid ha
  have HLB := Lib.hid hb
  obtain ⟨oa, ca, rfl, hca, hxa⟩ := ha
  obtain ⟨ob, cb, rfl, hcb, hxb⟩ := hb
  by_cases h1 : 2 ≤ a.length
  · by_cases h2 : b.length = 2 ∨ b.length = a.length
    · have h2b : 2 ≤ b.length := by omega
      obtain ⟨n, hn⟩ : ∃ n, b.length = n + 2 := ⟨b.length - 2, by omega⟩
      obtain ⟨m, hm⟩ : ∃ m, a.length = m + 1 := ⟨a.length - 1, by omega⟩
      have hs1 := fun wx : World => run_to (P := Tryz.prog) (t := 23) Tryz.underlying23 hi0 oa a.length ca n (by omega) wx
      have hs2 := fun wx : World => run_to (P := Tryz.prog) (t := 23) Tryz.underlying23 hi0 ob b.length cb n (by omega) wx
      have KE := Lib.hid (fun (W : World) (hW : Below w.heap.size w W) => equal_any (.slice oa n ca) (.slice ob n cb) (a.take n) (b.take n) W (ld_to (HLA.out.below hW) (by omega)) (ld_to (HLB.out.below hW) (by omega)) (by simp; omega) (by simp; omega))
      obtain ⟨ba, fa, rfl, na, xa⟩ := hxa m (by omega)
      obtain ⟨bb, fb', rfl, nb, xb⟩ := hxb n (by omega)
      have KS : Hid (∀ W, Below w.heap.size w W → W.cell? ⟨ba, fa + m, none⟩ = some (.int .i64 (a.getD m 0)) ∧ W.cell? ⟨bb, fb' + n, none⟩ = some (.int .i64 (b.getD n 0))) := Lib.hid (fun W hW => ⟨(hW.cell (p := ⟨ba, fa + m, none⟩) na).trans xa, (hW.cell (p := ⟨bb, fb' + n, none⟩) nb).trans xb⟩)
      have e1 : ((b.length : Int) - 2) = (n : Int) := by omega
      have e2 : ((a.length : Int) - 1) = (m : Int) := by omega
      have g1 : (m : Int) < (a.length : Int) := by omega
      have g2 : (n : Int) < (b.length : Int) := by omega
      have ew : IntKind.i64.wrap ((m : Nat) : Int) = (m : Int) := IntWalk.i64_in _ ⟨by omega, by omega⟩
      have q0 : decide ((a.length : Int) < 2) = false := decide_eq_false (by omega)
      have HM : Hid (mfit a b = (decide (a.take n = b.take n) && decide (a.getD m 0 = b.getD n 0))) := Lib.hid (by
        unfold mfit
        rw [decide_eq_true h1, show (decide (b.length = 2) || decide (b.length = a.length)) = true by simp; exact h2, hn, hm, Nat.add_sub_cancel, Nat.add_sub_cancel]; simp)
      have B0' : Hid (Below w.heap.size w w.drew) := Lib.hid (below_drw (Below.refl _ _) 1)
      clear xa xb na nb hxa hxb h1 h2b hn hm hca hcb
      cases hq : decide (a.take n = b.take n) with
      | false =>
        have HE : Hid (mfit a b = false) := Lib.hid (by rw [HM.out, hq]; rfl)
        rw [hq] at KE
        clear HM hq
        rcases h2 with h2 | h2
        · as_aux_lemma =>
          have c1 : ((b.length : Int) != 2) = false := by simp [h2]
          clear h2
          go_enter Tryz.func163, Tryz.ntmps163
          go_upto_region 4 with (fail)
          refine wp_region_held_drew (S := fun W => W.cell? ⟨ba, fa + m, none⟩ = some (.int .i64 (a.getD m 0)) ∧ W.cell? ⟨bb, fb' + n, none⟩ = some (.int .i64 (b.getD n 0))) (by kernel_rfl) ?_ (fun hHeld => ?_)
          · exact KS.out _ B0'.out
          have hHd := hHeld
          have B0 := B0'
          clear B0'
          generalize w.drew = w_0 at *
          (refine tk (i := 0) (oi := ⟨some 24, _, _, _, _, _⟩) (v := ?v0_g11) rfl ?hy0_g11 ?rest0_g11; (case hy0_g11 => intro w hSw; (try dsimp only at hSw); go_simp; first | done | with_reducible rfl))
          (try simp only [Act.put, pq])
          (refine tk (i := 1) (oi := ⟨some 25, _, _, _, _, _⟩) (v := ?v1_g12) rfl ?hy1_g12 ?rest1_g12; (case hy1_g12 => intro w hSw; (try dsimp only at hSw); go_simp; first | done | with_reducible rfl))
          (try simp only [Act.put, pq])
          (refine tk (i := 2) (oi := ⟨some 26, _, _, _, _, _⟩) (v := ?v2_g13) rfl ?hy2_g13 ?rest2_g13; (case hy2_g13 => intro w hSw; (try dsimp only at hSw); go_simp; first | done | with_reducible rfl))
          (try simp only [Act.put, pq])
          (refine tk (i := 3) (oi := ⟨some 27, _, _, _, _, _⟩) (v := ?v3_g14) rfl ?hy3_g14 ?rest3_g14; (case hy3_g14 => intro w hSw; (try dsimp only at hSw); go_simp; first | done | with_reducible rfl))
          (try simp only [Act.put, pq])
          (refine tk (i := 4) (oi := ⟨some 28, _, _, _, _, _⟩) (v := ?v4_g15) rfl ?hy4_g15 ?rest4_g15; (case hy4_g15 => intro w hSw; (try dsimp only at hSw); go_simp; first | done | with_reducible rfl))
          (try simp only [Act.put, pq])
          (refine tk (i := 5) (oi := ⟨some 29, _, _, _, _, _⟩) (v := ?v5_g16) rfl ?hy5_g16 ?rest5_g16; (case hy5_g16 => intro w hSw; (try dsimp only at hSw); go_simp; first | done | with_reducible rfl))
          (try simp only [Act.put, pq])
          refine wpAnyH_ready (rs := [6]) (by kernel_rfl) (by simp) ?_
          refine AllReadyH.cons (o := ⟨some 30, _, _, _, _, _⟩) rfl (fun K hK => ?_) (AllReadyH.nil)
          go_simp
          (go_at_call 204; (with_reducible refine (KE.out _ B0.out).mono ?_); rintro e w5 ⟨rfl, hb⟩; have B5 := Lib.hid (B0.out.trans (hb.mono B0.out.size)); clear hb)
          refine hK.out _ _ ?_ (fun hHeld => ?_)
          · (try dsimp only)
            exact KS.out _ B5.out
          clear hK K
          (try simp only [Act.put, pq])
          (refine tk (i := 7) (oi := ⟨some 31, _, _, _, _, _⟩) (v := ?v7_g17) rfl ?hy7_g17 ?rest7_g17; (case hy7_g17 => intro w hSw; (try dsimp only at hSw); go_simp; first | done | with_reducible rfl))
          (try simp only [Act.put, pq])
          (refine ts (i := 8) (oi := ⟨some 32, _, _, _, _, _⟩) rfl ?_)
          (try simp only [Act.put, pq])
          (refine ts (i := 9) (oi := ⟨some 33, _, _, _, _, _⟩) rfl ?_)
          (try simp only [Act.put, pq])
          (refine ts (i := 10) (oi := ⟨some 34, _, _, _, _, _⟩) rfl ?_)
          (try simp only [Act.put, pq])
          (refine ts (i := 11) (oi := ⟨some 35, _, _, _, _, _⟩) rfl ?_)
          (try simp only [Act.put, pq])
          (refine ts (i := 12) (oi := ⟨some 36, _, _, _, _, _⟩) rfl ?_)
          (try simp only [Act.put, pq])
          (refine ts (i := 13) (oi := ⟨some 37, _, _, _, _, _⟩) rfl ?_)
          (try simp only [Act.put, pq])
          (refine ts (i := 14) (oi := ⟨some 38, _, _, _, _, _⟩) rfl ?_)
          (try simp only [Act.put, pq])
          (refine ts (i := 15) (oi := ⟨some 39, _, _, _, _, _⟩) rfl ?_)
          (try simp only [Act.put, pq])
          (refine ts (i := 16) (oi := ⟨some 40, _, _, _, _, _⟩) rfl ?_)
          (try simp only [Act.put, pq])
          (refine ts (i := 17) (oi := ⟨some 41, _, _, _, _, _⟩) rfl ?_)
          (try simp only [Act.put, pq])
          (refine ts (i := 18) (oi := ⟨some 42, _, _, _, _, _⟩) rfl ?_)
          (try simp only [Act.put, pq])
          (refine tk (i := 19) (oi := ⟨some 43, _, _, _, _, _⟩) (v := ?v19_g119) rfl ?hy19_g119 ?rest19_g119; (case hy19_g119 => intro w hSw; (try dsimp only at hSw); go_simp; first | done | with_reducible rfl))
          (try simp only [Act.put, pq])
          (refine tk (i := 20) (oi := ⟨some 4, _, _, _, _, _⟩) (v := ?v20_g120) rfl ?hy20_g120 ?rest20_g120; (case hy20_g120 => intro w hSw; (try dsimp only at hSw); go_simp; first | done | with_reducible rfl))
          (try simp only [Act.put, pq])
          refine wpAnyH_done (by kernel_rfl) ?_ _
          go_wp2
          go_ret
          exact ⟨by rw [HE.out]; rfl, B5.out⟩
        · as_aux_lemma =>
          have c2 : ((b.length : Int) != (a.length : Int)) = false := by simp [h2]
          clear h2
          cases c1 : ((b.length : Int) != 2) with
          | false =>
            go_enter Tryz.func163, Tryz.ntmps163
            go_upto_region 4 with (fail)
            refine wp_region_held_drew (S := fun W => W.cell? ⟨ba, fa + m, none⟩ = some (.int .i64 (a.getD m 0)) ∧ W.cell? ⟨bb, fb' + n, none⟩ = some (.int .i64 (b.getD n 0))) (by kernel_rfl) ?_ (fun hHeld => ?_)
            · exact KS.out _ B0'.out
            have hHd := hHeld
            have B0 := B0'
            clear B0'
            generalize w.drew = w_0 at *
            (refine tk (i := 0) (oi := ⟨some 24, _, _, _, _, _⟩) (v := ?v0_g21) rfl ?hy0_g21 ?rest0_g21; (case hy0_g21 => intro w hSw; (try dsimp only at hSw); go_simp; first | done | with_reducible rfl))
            (try simp only [Act.put, pq])
            (refine tk (i := 1) (oi := ⟨some 25, _, _, _, _, _⟩) (v := ?v1_g22) rfl ?hy1_g22 ?rest1_g22; (case hy1_g22 => intro w hSw; (try dsimp only at hSw); go_simp; first | done | with_reducible rfl))
            (try simp only [Act.put, pq])
            (refine tk (i := 2) (oi := ⟨some 26, _, _, _, _, _⟩) (v := ?v2_g23) rfl ?hy2_g23 ?rest2_g23; (case hy2_g23 => intro w hSw; (try dsimp only at hSw); go_simp; first | done | with_reducible rfl))
            (try simp only [Act.put, pq])
            (refine tk (i := 3) (oi := ⟨some 27, _, _, _, _, _⟩) (v := ?v3_g24) rfl ?hy3_g24 ?rest3_g24; (case hy3_g24 => intro w hSw; (try dsimp only at hSw); go_simp; first | done | with_reducible rfl))
            (try simp only [Act.put, pq])
            (refine tk (i := 4) (oi := ⟨some 28, _, _, _, _, _⟩) (v := ?v4_g25) rfl ?hy4_g25 ?rest4_g25; (case hy4_g25 => intro w hSw; (try dsimp only at hSw); go_simp; first | done | with_reducible rfl))
            (try simp only [Act.put, pq])
            (refine tk (i := 5) (oi := ⟨some 29, _, _, _, _, _⟩) (v := ?v5_g26) rfl ?hy5_g26 ?rest5_g26; (case hy5_g26 => intro w hSw; (try dsimp only at hSw); go_simp; first | done | with_reducible rfl))
            (try simp only [Act.put, pq])
            refine wpAnyH_ready (rs := [6]) (by kernel_rfl) (by simp) ?_
            refine AllReadyH.cons (o := ⟨some 30, _, _, _, _, _⟩) rfl (fun K hK => ?_) (AllReadyH.nil)
            go_simp
            (go_at_call 204; (with_reducible refine (KE.out _ B0.out).mono ?_); rintro e w5 ⟨rfl, hb⟩; have B5 := Lib.hid (B0.out.trans (hb.mono B0.out.size)); clear hb)
            refine hK.out _ _ ?_ (fun hHeld => ?_)
            · (try dsimp only)
              exact KS.out _ B5.out
            clear hK K
            (try simp only [Act.put, pq])
            (refine tk (i := 7) (oi := ⟨some 31, _, _, _, _, _⟩) (v := ?v7_g27) rfl ?hy7_g27 ?rest7_g27; (case hy7_g27 => intro w hSw; (try dsimp only at hSw); go_simp; first | done | with_reducible rfl))
            (try simp only [Act.put, pq])
            (refine ts (i := 8) (oi := ⟨some 32, _, _, _, _, _⟩) rfl ?_)
            (try simp only [Act.put, pq])
            (refine ts (i := 9) (oi := ⟨some 33, _, _, _, _, _⟩) rfl ?_)
            (try simp only [Act.put, pq])
            (refine ts (i := 10) (oi := ⟨some 34, _, _, _, _, _⟩) rfl ?_)
            (try simp only [Act.put, pq])
            (refine ts (i := 11) (oi := ⟨some 35, _, _, _, _, _⟩) rfl ?_)
            (try simp only [Act.put, pq])
            (refine ts (i := 12) (oi := ⟨some 36, _, _, _, _, _⟩) rfl ?_)
            (try simp only [Act.put, pq])
            (refine ts (i := 13) (oi := ⟨some 37, _, _, _, _, _⟩) rfl ?_)
            (try simp only [Act.put, pq])
            (refine ts (i := 14) (oi := ⟨some 38, _, _, _, _, _⟩) rfl ?_)
            (try simp only [Act.put, pq])
            (refine ts (i := 15) (oi := ⟨some 39, _, _, _, _, _⟩) rfl ?_)
            (try simp only [Act.put, pq])
            (refine ts (i := 16) (oi := ⟨some 40, _, _, _, _, _⟩) rfl ?_)
            (try simp only [Act.put, pq])
            (refine ts (i := 17) (oi := ⟨some 41, _, _, _, _, _⟩) rfl ?_)
            (try simp only [Act.put, pq])
            (refine ts (i := 18) (oi := ⟨some 42, _, _, _, _, _⟩) rfl ?_)
            (try simp only [Act.put, pq])
            (refine tk (i := 19) (oi := ⟨some 43, _, _, _, _, _⟩) (v := ?v19_g219) rfl ?hy19_g219 ?rest19_g219; (case hy19_g219 => intro w hSw; (try dsimp only at hSw); go_simp; first | done | with_reducible rfl))
            (try simp only [Act.put, pq])
            (refine tk (i := 20) (oi := ⟨some 4, _, _, _, _, _⟩) (v := ?v20_g220) rfl ?hy20_g220 ?rest20_g220; (case hy20_g220 => intro w hSw; (try dsimp only at hSw); go_simp; first | done | with_reducible rfl))
            (try simp only [Act.put, pq])
            refine wpAnyH_done (by kernel_rfl) ?_ _
            go_wp2
            go_ret
            exact ⟨by rw [HE.out]; rfl, B5.out⟩
          | true =>
            go_enter Tryz.func163, Tryz.ntmps163
            go_upto_region 4 with (fail)
            refine wp_region_held_drew (S := fun W => W.cell? ⟨ba, fa + m, none⟩ = some (.int .i64 (a.getD m 0)) ∧ W.cell? ⟨bb, fb' + n, none⟩ = some (.int .i64 (b.getD n 0))) (by kernel_rfl) ?_ (fun hHeld => ?_)
            · exact KS.out _ B0'.out
            have hHd := hHeld
            have B0 := B0'
            clear B0'
            generalize w.drew = w_0 at *
            (refine tk (i := 0) (oi := ⟨some 24, _, _, _, _, _⟩) (v := ?v0_g31) rfl ?hy0_g31 ?rest0_g31; (case hy0_g31 => intro w hSw; (try dsimp only at hSw); go_simp; first | done | with_reducible rfl))
            (try simp only [Act.put, pq])
            (refine tk (i := 1) (oi := ⟨some 25, _, _, _, _, _⟩) (v := ?v1_g32) rfl ?hy1_g32 ?rest1_g32; (case hy1_g32 => intro w hSw; (try dsimp only at hSw); go_simp; first | done | with_reducible rfl))
            (try simp only [Act.put, pq])
            (refine tk (i := 2) (oi := ⟨some 26, _, _, _, _, _⟩) (v := ?v2_g33) rfl ?hy2_g33 ?rest2_g33; (case hy2_g33 => intro w hSw; (try dsimp only at hSw); go_simp; first | done | with_reducible rfl))
            (try simp only [Act.put, pq])
            (refine tk (i := 3) (oi := ⟨some 27, _, _, _, _, _⟩) (v := ?v3_g34) rfl ?hy3_g34 ?rest3_g34; (case hy3_g34 => intro w hSw; (try dsimp only at hSw); go_simp; first | done | with_reducible rfl))
            (try simp only [Act.put, pq])
            (refine tk (i := 4) (oi := ⟨some 28, _, _, _, _, _⟩) (v := ?v4_g35) rfl ?hy4_g35 ?rest4_g35; (case hy4_g35 => intro w hSw; (try dsimp only at hSw); go_simp; first | done | with_reducible rfl))
            (try simp only [Act.put, pq])
            (refine tk (i := 5) (oi := ⟨some 29, _, _, _, _, _⟩) (v := ?v5_g36) rfl ?hy5_g36 ?rest5_g36; (case hy5_g36 => intro w hSw; (try dsimp only at hSw); go_simp; first | done | with_reducible rfl))
            (try simp only [Act.put, pq])
            refine wpAnyH_ready (rs := [6]) (by kernel_rfl) (by simp) ?_
            refine AllReadyH.cons (o := ⟨some 30, _, _, _, _, _⟩) rfl (fun K hK => ?_) (AllReadyH.nil)
            go_simp
            (go_at_call 204; (with_reducible refine (KE.out _ B0.out).mono ?_); rintro e w5 ⟨rfl, hb⟩; have B5 := Lib.hid (B0.out.trans (hb.mono B0.out.size)); clear hb)
            refine hK.out _ _ ?_ (fun hHeld => ?_)
            · (try dsimp only)
              exact KS.out _ B5.out
            clear hK K
            (try simp only [Act.put, pq])
            (refine tk (i := 7) (oi := ⟨some 31, _, _, _, _, _⟩) (v := ?v7_g37) rfl ?hy7_g37 ?rest7_g37; (case hy7_g37 => intro w hSw; (try dsimp only at hSw); go_simp; first | done | with_reducible rfl))
            (try simp only [Act.put, pq])
            (refine ts (i := 8) (oi := ⟨some 32, _, _, _, _, _⟩) rfl ?_)
            (try simp only [Act.put, pq])
            (refine ts (i := 9) (oi := ⟨some 33, _, _, _, _, _⟩) rfl ?_)
            (try simp only [Act.put, pq])
            (refine ts (i := 10) (oi := ⟨some 34, _, _, _, _, _⟩) rfl ?_)
            (try simp only [Act.put, pq])
            (refine ts (i := 11) (oi := ⟨some 35, _, _, _, _, _⟩) rfl ?_)
            (try simp only [Act.put, pq])
            (refine ts (i := 12) (oi := ⟨some 36, _, _, _, _, _⟩) rfl ?_)
            (try simp only [Act.put, pq])
            (refine ts (i := 13) (oi := ⟨some 37, _, _, _, _, _⟩) rfl ?_)
            (try simp only [Act.put, pq])
            (refine ts (i := 14) (oi := ⟨some 38, _, _, _, _, _⟩) rfl ?_)
            (try simp only [Act.put, pq])
            (refine ts (i := 15) (oi := ⟨some 39, _, _, _, _, _⟩) rfl ?_)
            (try simp only [Act.put, pq])
            (refine ts (i := 16) (oi := ⟨some 40, _, _, _, _, _⟩) rfl ?_)
            (try simp only [Act.put, pq])
            (refine ts (i := 17) (oi := ⟨some 41, _, _, _, _, _⟩) rfl ?_)
            (try simp only [Act.put, pq])
            (refine ts (i := 18) (oi := ⟨some 42, _, _, _, _, _⟩) rfl ?_)
            (try simp only [Act.put, pq])
            (refine tk (i := 19) (oi := ⟨some 43, _, _, _, _, _⟩) (v := ?v19_g319) rfl ?hy19_g319 ?rest19_g319; (case hy19_g319 => intro w hSw; (try dsimp only at hSw); go_simp; first | done | with_reducible rfl))
            (try simp only [Act.put, pq])
            (refine tk (i := 20) (oi := ⟨some 4, _, _, _, _, _⟩) (v := ?v20_g320) rfl ?hy20_g320 ?rest20_g320; (case hy20_g320 => intro w hSw; (try dsimp only at hSw); go_simp; first | done | with_reducible rfl))
            (try simp only [Act.put, pq])
            refine wpAnyH_done (by kernel_rfl) ?_ _
            go_wp2
            go_ret
            exact ⟨by rw [HE.out]; rfl, B5.out⟩
      | true =>
        have HE : Hid (mfit a b = decide (a.getD m 0 = b.getD n 0)) := Lib.hid (by rw [HM.out, hq]; rfl)
        rw [hq] at KE
        clear HM hq
        generalize a.getD m 0 = x at *
        generalize b.getD n 0 = y at *
        rcases h2 with h2 | h2
        · as_aux_lemma =>
          have c1 : ((b.length : Int) != 2) = false := by simp [h2]
          clear h2
          go_enter Tryz.func163, Tryz.ntmps163
          go_upto_region 4 with (fail)
          refine wp_region_held_drew (S := fun W => W.cell? ⟨ba, fa + m, none⟩ = some (.int .i64 (x)) ∧ W.cell? ⟨bb, fb' + n, none⟩ = some (.int .i64 (y))) (by kernel_rfl) ?_ (fun hHeld => ?_)
          · exact KS.out _ B0'.out
          have hHd := hHeld
          have B0 := B0'
          clear B0'
          generalize w.drew = w_0 at *
          (refine tk (i := 0) (oi := ⟨some 24, _, _, _, _, _⟩) (v := ?v0_g41) rfl ?hy0_g41 ?rest0_g41; (case hy0_g41 => intro w hSw; (try dsimp only at hSw); go_simp; first | done | with_reducible rfl))
          (try simp only [Act.put, pq])
          (refine tk (i := 1) (oi := ⟨some 25, _, _, _, _, _⟩) (v := ?v1_g42) rfl ?hy1_g42 ?rest1_g42; (case hy1_g42 => intro w hSw; (try dsimp only at hSw); go_simp; first | done | with_reducible rfl))
          (try simp only [Act.put, pq])
          (refine tk (i := 2) (oi := ⟨some 26, _, _, _, _, _⟩) (v := ?v2_g43) rfl ?hy2_g43 ?rest2_g43; (case hy2_g43 => intro w hSw; (try dsimp only at hSw); go_simp; first | done | with_reducible rfl))
          (try simp only [Act.put, pq])
          (refine tk (i := 3) (oi := ⟨some 27, _, _, _, _, _⟩) (v := ?v3_g44) rfl ?hy3_g44 ?rest3_g44; (case hy3_g44 => intro w hSw; (try dsimp only at hSw); go_simp; first | done | with_reducible rfl))
          (try simp only [Act.put, pq])
          (refine tk (i := 4) (oi := ⟨some 28, _, _, _, _, _⟩) (v := ?v4_g45) rfl ?hy4_g45 ?rest4_g45; (case hy4_g45 => intro w hSw; (try dsimp only at hSw); go_simp; first | done | with_reducible rfl))
          (try simp only [Act.put, pq])
          (refine tk (i := 5) (oi := ⟨some 29, _, _, _, _, _⟩) (v := ?v5_g46) rfl ?hy5_g46 ?rest5_g46; (case hy5_g46 => intro w hSw; (try dsimp only at hSw); go_simp; first | done | with_reducible rfl))
          (try simp only [Act.put, pq])
          refine wpAnyH_ready (rs := [6]) (by kernel_rfl) (by simp) ?_
          refine AllReadyH.cons (o := ⟨some 30, _, _, _, _, _⟩) rfl (fun K hK => ?_) (AllReadyH.nil)
          go_simp
          (go_at_call 204; (with_reducible refine (KE.out _ B0.out).mono ?_); rintro e w5 ⟨rfl, hb⟩; have B5 := Lib.hid (B0.out.trans (hb.mono B0.out.size)); clear hb)
          refine hK.out _ _ ?_ (fun hHeld => ?_)
          · (try dsimp only)
            exact KS.out _ B5.out
          clear hK K
          (try simp only [Act.put, pq])
          (refine tk (i := 7) (oi := ⟨some 31, _, _, _, _, _⟩) (v := ?v7_g47) rfl ?hy7_g47 ?rest7_g47; (case hy7_g47 => intro w hSw; (try dsimp only at hSw); go_simp; first | done | with_reducible rfl))
          (try simp only [Act.put, pq])
          (refine tk (i := 8) (oi := ⟨some 32, _, _, _, _, _⟩) (v := ?v8_g48) rfl ?hy8_g48 ?rest8_g48; (case hy8_g48 => intro w hSw; (try dsimp only at hSw); go_simp; first | done | with_reducible rfl))
          (try simp only [Act.put, pq])
          (refine tk (i := 9) (oi := ⟨some 33, _, _, _, _, _⟩) (v := ?v9_g49) rfl ?hy9_g49 ?rest9_g49; (case hy9_g49 => intro w hSw; (try dsimp only at hSw); go_simp; first | done | with_reducible rfl))
          (try simp only [Act.put, pq])
          (refine tk (i := 10) (oi := ⟨some 34, _, _, _, _, _⟩) (v := ?v10_g410) rfl ?hy10_g410 ?rest10_g410; (case hy10_g410 => intro w hSw; (try dsimp only at hSw); go_simp; first | done | with_reducible rfl))
          (try simp only [Act.put, pq])
          (refine tk (i := 11) (oi := ⟨some 35, _, _, _, _, _⟩) (v := ?v11_g411) rfl ?hy11_g411 ?rest11_g411; (case hy11_g411 => intro w hSw; (try dsimp only at hSw); go_simp; first | done | with_reducible rfl))
          (try simp only [Act.put, pq])
          (refine tk (i := 12) (oi := ⟨some 36, _, _, _, _, _⟩) (v := ?v12_g412) rfl ?hy12_g412 ?rest12_g412; (case hy12_g412 => intro w hSw; (try dsimp only at hSw); go_simp; first | done | with_reducible rfl))
          (try simp only [Act.put, pq])
          (refine tk (i := 13) (oi := ⟨some 37, _, _, _, _, _⟩) (v := ?v13_g413) rfl ?hy13_g413 ?rest13_g413; (case hy13_g413 => intro w hSw; (try dsimp only at hSw); go_simp; first | done | with_reducible rfl))
          (try simp only [Act.put, pq])
          (refine tk (i := 14) (oi := ⟨some 38, _, _, _, _, _⟩) (v := ?v14_g414) rfl ?hy14_g414 ?rest14_g414; (case hy14_g414 => intro w hSw; (try dsimp only at hSw); go_simp; first | done | with_reducible rfl))
          (try simp only [Act.put, pq])
          (refine tk (i := 15) (oi := ⟨some 39, _, _, _, _, _⟩) (v := ?v15_g415) rfl ?hy15_g415 ?rest15_g415; (case hy15_g415 => intro w hSw; (try dsimp only at hSw); go_simp; first | done | with_reducible rfl))
          (try simp only [Act.put, pq])
          (refine tk (i := 16) (oi := ⟨some 40, _, _, _, _, _⟩) (v := ?v16_g416) rfl ?hy16_g416 ?rest16_g416; (case hy16_g416 => intro w hSw; (try dsimp only at hSw); go_simp; first | done | with_reducible rfl))
          (try simp only [Act.put, pq])
          (refine tk (i := 17) (oi := ⟨some 41, _, _, _, _, _⟩) (v := ?v17_g417) rfl ?hy17_g417 ?rest17_g417; (case hy17_g417 => intro w hSw; (try dsimp only at hSw); go_simp; first | done | with_reducible rfl))
          (try simp only [Act.put, pq])
          (refine tk (i := 18) (oi := ⟨some 42, _, _, _, _, _⟩) (v := ?v18_g418) rfl ?hy18_g418 ?rest18_g418; (case hy18_g418 => intro w hSw; (try dsimp only at hSw); go_simp; first | done | with_reducible rfl))
          (try simp only [Act.put, pq])
          (refine tk (i := 19) (oi := ⟨some 43, _, _, _, _, _⟩) (v := ?v19_g419) rfl ?hy19_g419 ?rest19_g419; (case hy19_g419 => intro w hSw; (try dsimp only at hSw); go_simp; first | done | with_reducible rfl))
          (try simp only [Act.put, pq])
          (refine tk (i := 20) (oi := ⟨some 4, _, _, _, _, _⟩) (v := ?v20_g420) rfl ?hy20_g420 ?rest20_g420; (case hy20_g420 => intro w hSw; (try dsimp only at hSw); go_simp; first | done | with_reducible rfl))
          (try simp only [Act.put, pq])
          refine wpAnyH_done (by kernel_rfl) ?_ _
          go_wp2
          go_ret
          exact ⟨by rw [HE.out]; rfl, B5.out⟩
        · as_aux_lemma =>
          have c2 : ((b.length : Int) != (a.length : Int)) = false := by simp [h2]
          clear h2
          cases c1 : ((b.length : Int) != 2) with
          | false =>
            go_enter Tryz.func163, Tryz.ntmps163
            go_upto_region 4 with (fail)
            refine wp_region_held_drew (S := fun W => W.cell? ⟨ba, fa + m, none⟩ = some (.int .i64 (x)) ∧ W.cell? ⟨bb, fb' + n, none⟩ = some (.int .i64 (y))) (by kernel_rfl) ?_ (fun hHeld => ?_)
            · exact KS.out _ B0'.out
            have hHd := hHeld
            have B0 := B0'
            clear B0'
            generalize w.drew = w_0 at *
            (refine tk (i := 0) (oi := ⟨some 24, _, _, _, _, _⟩) (v := ?v0_g51) rfl ?hy0_g51 ?rest0_g51; (case hy0_g51 => intro w hSw; (try dsimp only at hSw); go_simp; first | done | with_reducible rfl))
            (try simp only [Act.put, pq])
            (refine tk (i := 1) (oi := ⟨some 25, _, _, _, _, _⟩) (v := ?v1_g52) rfl ?hy1_g52 ?rest1_g52; (case hy1_g52 => intro w hSw; (try dsimp only at hSw); go_simp; first | done | with_reducible rfl))
            (try simp only [Act.put, pq])
            (refine tk (i := 2) (oi := ⟨some 26, _, _, _, _, _⟩) (v := ?v2_g53) rfl ?hy2_g53 ?rest2_g53; (case hy2_g53 => intro w hSw; (try dsimp only at hSw); go_simp; first | done | with_reducible rfl))
            (try simp only [Act.put, pq])
            (refine tk (i := 3) (oi := ⟨some 27, _, _, _, _, _⟩) (v := ?v3_g54) rfl ?hy3_g54 ?rest3_g54; (case hy3_g54 => intro w hSw; (try dsimp only at hSw); go_simp; first | done | with_reducible rfl))
            (try simp only [Act.put, pq])
            (refine tk (i := 4) (oi := ⟨some 28, _, _, _, _, _⟩) (v := ?v4_g55) rfl ?hy4_g55 ?rest4_g55; (case hy4_g55 => intro w hSw; (try dsimp only at hSw); go_simp; first | done | with_reducible rfl))
            (try simp only [Act.put, pq])
            (refine tk (i := 5) (oi := ⟨some 29, _, _, _, _, _⟩) (v := ?v5_g56) rfl ?hy5_g56 ?rest5_g56; (case hy5_g56 => intro w hSw; (try dsimp only at hSw); go_simp; first | done | with_reducible rfl))
            (try simp only [Act.put, pq])
            refine wpAnyH_ready (rs := [6]) (by kernel_rfl) (by simp) ?_
            refine AllReadyH.cons (o := ⟨some 30, _, _, _, _, _⟩) rfl (fun K hK => ?_) (AllReadyH.nil)
            go_simp
            (go_at_call 204; (with_reducible refine (KE.out _ B0.out).mono ?_); rintro e w5 ⟨rfl, hb⟩; have B5 := Lib.hid (B0.out.trans (hb.mono B0.out.size)); clear hb)
            refine hK.out _ _ ?_ (fun hHeld => ?_)
            · (try dsimp only)
              exact KS.out _ B5.out
            clear hK K
            (try simp only [Act.put, pq])
            (refine tk (i := 7) (oi := ⟨some 31, _, _, _, _, _⟩) (v := ?v7_g57) rfl ?hy7_g57 ?rest7_g57; (case hy7_g57 => intro w hSw; (try dsimp only at hSw); go_simp; first | done | with_reducible rfl))
            (try simp only [Act.put, pq])
            (refine tk (i := 8) (oi := ⟨some 32, _, _, _, _, _⟩) (v := ?v8_g58) rfl ?hy8_g58 ?rest8_g58; (case hy8_g58 => intro w hSw; (try dsimp only at hSw); go_simp; first | done | with_reducible rfl))
            (try simp only [Act.put, pq])
            (refine tk (i := 9) (oi := ⟨some 33, _, _, _, _, _⟩) (v := ?v9_g59) rfl ?hy9_g59 ?rest9_g59; (case hy9_g59 => intro w hSw; (try dsimp only at hSw); go_simp; first | done | with_reducible rfl))
            (try simp only [Act.put, pq])
            (refine tk (i := 10) (oi := ⟨some 34, _, _, _, _, _⟩) (v := ?v10_g510) rfl ?hy10_g510 ?rest10_g510; (case hy10_g510 => intro w hSw; (try dsimp only at hSw); go_simp; first | done | with_reducible rfl))
            (try simp only [Act.put, pq])
            (refine tk (i := 11) (oi := ⟨some 35, _, _, _, _, _⟩) (v := ?v11_g511) rfl ?hy11_g511 ?rest11_g511; (case hy11_g511 => intro w hSw; (try dsimp only at hSw); go_simp; first | done | with_reducible rfl))
            (try simp only [Act.put, pq])
            (refine tk (i := 12) (oi := ⟨some 36, _, _, _, _, _⟩) (v := ?v12_g512) rfl ?hy12_g512 ?rest12_g512; (case hy12_g512 => intro w hSw; (try dsimp only at hSw); go_simp; first | done | with_reducible rfl))
            (try simp only [Act.put, pq])
            (refine tk (i := 13) (oi := ⟨some 37, _, _, _, _, _⟩) (v := ?v13_g513) rfl ?hy13_g513 ?rest13_g513; (case hy13_g513 => intro w hSw; (try dsimp only at hSw); go_simp; first | done | with_reducible rfl))
            (try simp only [Act.put, pq])
            (refine tk (i := 14) (oi := ⟨some 38, _, _, _, _, _⟩) (v := ?v14_g514) rfl ?hy14_g514 ?rest14_g514; (case hy14_g514 => intro w hSw; (try dsimp only at hSw); go_simp; first | done | with_reducible rfl))
            (try simp only [Act.put, pq])
            (refine tk (i := 15) (oi := ⟨some 39, _, _, _, _, _⟩) (v := ?v15_g515) rfl ?hy15_g515 ?rest15_g515; (case hy15_g515 => intro w hSw; (try dsimp only at hSw); go_simp; first | done | with_reducible rfl))
            (try simp only [Act.put, pq])
            (refine tk (i := 16) (oi := ⟨some 40, _, _, _, _, _⟩) (v := ?v16_g516) rfl ?hy16_g516 ?rest16_g516; (case hy16_g516 => intro w hSw; (try dsimp only at hSw); go_simp; first | done | with_reducible rfl))
            (try simp only [Act.put, pq])
            (refine tk (i := 17) (oi := ⟨some 41, _, _, _, _, _⟩) (v := ?v17_g517) rfl ?hy17_g517 ?rest17_g517; (case hy17_g517 => intro w hSw; (try dsimp only at hSw); go_simp; first | done | with_reducible rfl))
            (try simp only [Act.put, pq])
            (refine tk (i := 18) (oi := ⟨some 42, _, _, _, _, _⟩) (v := ?v18_g518) rfl ?hy18_g518 ?rest18_g518; (case hy18_g518 => intro w hSw; (try dsimp only at hSw); go_simp; first | done | with_reducible rfl))
            (try simp only [Act.put, pq])
            (refine tk (i := 19) (oi := ⟨some 43, _, _, _, _, _⟩) (v := ?v19_g519) rfl ?hy19_g519 ?rest19_g519; (case hy19_g519 => intro w hSw; (try dsimp only at hSw); go_simp; first | done | with_reducible rfl))
            (try simp only [Act.put, pq])
            (refine tk (i := 20) (oi := ⟨some 4, _, _, _, _, _⟩) (v := ?v20_g520) rfl ?hy20_g520 ?rest20_g520; (case hy20_g520 => intro w hSw; (try dsimp only at hSw); go_simp; first | done | with_reducible rfl))
            (try simp only [Act.put, pq])
            refine wpAnyH_done (by kernel_rfl) ?_ _
            go_wp2
            go_ret
            exact ⟨by rw [HE.out]; rfl, B5.out⟩
          | true =>
            go_enter Tryz.func163, Tryz.ntmps163
            go_upto_region 4 with (fail)
            refine wp_region_held_drew (S := fun W => W.cell? ⟨ba, fa + m, none⟩ = some (.int .i64 (x)) ∧ W.cell? ⟨bb, fb' + n, none⟩ = some (.int .i64 (y))) (by kernel_rfl) ?_ (fun hHeld => ?_)
            · exact KS.out _ B0'.out
            have hHd := hHeld
            have B0 := B0'
            clear B0'
            generalize w.drew = w_0 at *
            (refine tk (i := 0) (oi := ⟨some 24, _, _, _, _, _⟩) (v := ?v0_g61) rfl ?hy0_g61 ?rest0_g61; (case hy0_g61 => intro w hSw; (try dsimp only at hSw); go_simp; first | done | with_reducible rfl))
            (try simp only [Act.put, pq])
            (refine tk (i := 1) (oi := ⟨some 25, _, _, _, _, _⟩) (v := ?v1_g62) rfl ?hy1_g62 ?rest1_g62; (case hy1_g62 => intro w hSw; (try dsimp only at hSw); go_simp; first | done | with_reducible rfl))
            (try simp only [Act.put, pq])
            (refine tk (i := 2) (oi := ⟨some 26, _, _, _, _, _⟩) (v := ?v2_g63) rfl ?hy2_g63 ?rest2_g63; (case hy2_g63 => intro w hSw; (try dsimp only at hSw); go_simp; first | done | with_reducible rfl))
            (try simp only [Act.put, pq])
            (refine tk (i := 3) (oi := ⟨some 27, _, _, _, _, _⟩) (v := ?v3_g64) rfl ?hy3_g64 ?rest3_g64; (case hy3_g64 => intro w hSw; (try dsimp only at hSw); go_simp; first | done | with_reducible rfl))
            (try simp only [Act.put, pq])
            (refine tk (i := 4) (oi := ⟨some 28, _, _, _, _, _⟩) (v := ?v4_g65) rfl ?hy4_g65 ?rest4_g65; (case hy4_g65 => intro w hSw; (try dsimp only at hSw); go_simp; first | done | with_reducible rfl))
            (try simp only [Act.put, pq])
            (refine tk (i := 5) (oi := ⟨some 29, _, _, _, _, _⟩) (v := ?v5_g66) rfl ?hy5_g66 ?rest5_g66; (case hy5_g66 => intro w hSw; (try dsimp only at hSw); go_simp; first | done | with_reducible rfl))
            (try simp only [Act.put, pq])
            refine wpAnyH_ready (rs := [6]) (by kernel_rfl) (by simp) ?_
            refine AllReadyH.cons (o := ⟨some 30, _, _, _, _, _⟩) rfl (fun K hK => ?_) (AllReadyH.nil)
            go_simp
            (go_at_call 204; (with_reducible refine (KE.out _ B0.out).mono ?_); rintro e w5 ⟨rfl, hb⟩; have B5 := Lib.hid (B0.out.trans (hb.mono B0.out.size)); clear hb)
            refine hK.out _ _ ?_ (fun hHeld => ?_)
            · (try dsimp only)
              exact KS.out _ B5.out
            clear hK K
            (try simp only [Act.put, pq])
            (refine tk (i := 7) (oi := ⟨some 31, _, _, _, _, _⟩) (v := ?v7_g67) rfl ?hy7_g67 ?rest7_g67; (case hy7_g67 => intro w hSw; (try dsimp only at hSw); go_simp; first | done | with_reducible rfl))
            (try simp only [Act.put, pq])
            (refine tk (i := 8) (oi := ⟨some 32, _, _, _, _, _⟩) (v := ?v8_g68) rfl ?hy8_g68 ?rest8_g68; (case hy8_g68 => intro w hSw; (try dsimp only at hSw); go_simp; first | done | with_reducible rfl))
            (try simp only [Act.put, pq])
            (refine tk (i := 9) (oi := ⟨some 33, _, _, _, _, _⟩) (v := ?v9_g69) rfl ?hy9_g69 ?rest9_g69; (case hy9_g69 => intro w hSw; (try dsimp only at hSw); go_simp; first | done | with_reducible rfl))
            (try simp only [Act.put, pq])
            (refine tk (i := 10) (oi := ⟨some 34, _, _, _, _, _⟩) (v := ?v10_g610) rfl ?hy10_g610 ?rest10_g610; (case hy10_g610 => intro w hSw; (try dsimp only at hSw); go_simp; first | done | with_reducible rfl))
            (try simp only [Act.put, pq])
            (refine tk (i := 11) (oi := ⟨some 35, _, _, _, _, _⟩) (v := ?v11_g611) rfl ?hy11_g611 ?rest11_g611; (case hy11_g611 => intro w hSw; (try dsimp only at hSw); go_simp; first | done | with_reducible rfl))
            (try simp only [Act.put, pq])
            (refine tk (i := 12) (oi := ⟨some 36, _, _, _, _, _⟩) (v := ?v12_g612) rfl ?hy12_g612 ?rest12_g612; (case hy12_g612 => intro w hSw; (try dsimp only at hSw); go_simp; first | done | with_reducible rfl))
            (try simp only [Act.put, pq])
            (refine tk (i := 13) (oi := ⟨some 37, _, _, _, _, _⟩) (v := ?v13_g613) rfl ?hy13_g613 ?rest13_g613; (case hy13_g613 => intro w hSw; (try dsimp only at hSw); go_simp; first | done | with_reducible rfl))
            (try simp only [Act.put, pq])
            (refine tk (i := 14) (oi := ⟨some 38, _, _, _, _, _⟩) (v := ?v14_g614) rfl ?hy14_g614 ?rest14_g614; (case hy14_g614 => intro w hSw; (try dsimp only at hSw); go_simp; first | done | with_reducible rfl))
            (try simp only [Act.put, pq])
            (refine tk (i := 15) (oi := ⟨some 39, _, _, _, _, _⟩) (v := ?v15_g615) rfl ?hy15_g615 ?rest15_g615; (case hy15_g615 => intro w hSw; (try dsimp only at hSw); go_simp; first | done | with_reducible rfl))
            (try simp only [Act.put, pq])
            (refine tk (i := 16) (oi := ⟨some 40, _, _, _, _, _⟩) (v := ?v16_g616) rfl ?hy16_g616 ?rest16_g616; (case hy16_g616 => intro w hSw; (try dsimp only at hSw); go_simp; first | done | with_reducible rfl))
            (try simp only [Act.put, pq])
            (refine tk (i := 17) (oi := ⟨some 41, _, _, _, _, _⟩) (v := ?v17_g617) rfl ?hy17_g617 ?rest17_g617; (case hy17_g617 => intro w hSw; (try dsimp only at hSw); go_simp; first | done | with_reducible rfl))
            (try simp only [Act.put, pq])
            (refine tk (i := 18) (oi := ⟨some 42, _, _, _, _, _⟩) (v := ?v18_g618) rfl ?hy18_g618 ?rest18_g618; (case hy18_g618 => intro w hSw; (try dsimp only at hSw); go_simp; first | done | with_reducible rfl))
            (try simp only [Act.put, pq])
            (refine tk (i := 19) (oi := ⟨some 43, _, _, _, _, _⟩) (v := ?v19_g619) rfl ?hy19_g619 ?rest19_g619; (case hy19_g619 => intro w hSw; (try dsimp only at hSw); go_simp; first | done | with_reducible rfl))
            (try simp only [Act.put, pq])
            (refine tk (i := 20) (oi := ⟨some 4, _, _, _, _, _⟩) (v := ?v20_g620) rfl ?hy20_g620 ?rest20_g620; (case hy20_g620 => intro w hSw; (try dsimp only at hSw); go_simp; first | done | with_reducible rfl))
            (try simp only [Act.put, pq])
            refine wpAnyH_done (by kernel_rfl) ?_ _
            go_wp2
            go_ret
            exact ⟨by rw [HE.out]; rfl, B5.out⟩
    · as_aux_lemma =>
      have HE : Hid (mfit a b = false) := Lib.hid (by
        unfold mfit
        rw [show (decide (b.length = 2) || decide (b.length = a.length)) = false by simp; omega]; simp)
      have q0 : decide ((a.length : Int) < 2) = false := decide_eq_false (by omega)
      have c1 : ((b.length : Int) != 2) = true := by rw [bne_iff_ne]; omega
      have c2 : ((b.length : Int) != (a.length : Int)) = true := by rw [bne_iff_ne]; omega
      clear h1 h2 hxa hxb hca hcb
      go_enter Tryz.func163, Tryz.ntmps163
      go_wp2
      go_ret
      exact ⟨by rw [HE.out]; rfl, Below.refl _ _⟩
  · as_aux_lemma =>
    have HE : Hid (mfit a b = false) := Lib.hid (by unfold mfit; rw [decide_eq_false h1]; simp)
    have q0 : decide ((a.length : Int) < 2) = true := decide_eq_true (by omega)
    clear h1 hxa hxb hca hcb
    go_enter Tryz.func163, Tryz.ntmps163
    go_wp2
    go_ret
    exact ⟨by rw [HE.out]; rfl, Below.refl _ _⟩
end Go.Proofs.YtmafgdinegboeaaGreat
