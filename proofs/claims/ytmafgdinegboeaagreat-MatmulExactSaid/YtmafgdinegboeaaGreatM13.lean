
import Derived.Test.YtmafgdinegboeaaGreatM01
import Derived.Test.YtmafgdinegboeaaGreatM12
namespace Go.Proofs.YtmafgdinegboeaaGreat
open Go Go.RowKit Go.Shelf

theorem may_take {a : List Int} (k : Nat) (h : may a = true) : may (a.take k) = true := by
  obtain ⟨h1, h2, h3⟩ := (may_iff a).1 h
  refine (may_iff _).2 ⟨by simp; omega, fun d hd => h2 d (List.mem_of_mem_take hd), ?_⟩
  have e : prod a = prod (a.take k) * prod (a.drop k) := by rw [← prod_app, List.take_append_drop]
  have p1 : 1 ≤ prod (a.take k) := prod_pos (fun d hd => (may_pos h) d (List.mem_of_mem_take hd))
  have p2 : 1 ≤ prod (a.drop k) := prod_pos (pos_drop (may_pos h) k)
  have := Int.mul_le_mul_of_nonneg_left p2 (show 0 ≤ prod (a.take k) by omega)
  rw [Int.mul_one, ← e] at this
  omega
def NoP (w : World) (E : Int) (e : Ending) (w' : World) : Prop := e = .returned (.tuple #[.agg #[.slice none 0 0, .int .i64 0, .int .i64 0, .int .i64 0], .int .i64 E]) ∧ Below w.heap.size w w'
def SomeP (w : World) (S : List Int) (R D C : Int) (e : Ending) (w' : World) : Prop := ∃ o c, e = .returned (.tuple #[.agg #[.slice o S.length c, .int .i64 R, .int .i64 D, .int .i64 C], .int .i64 0]) ∧ Hid (w'.ownsRow w.heap.size 3 1 (.slice o S.length c) S.length (ints S)) ∧ Below w.heap.size w w'
theorem bel4 {B P : Nat} {w W : World} {u0 u1 u2 u3 : Value} (h : Below B w W) (hp : B ≤ P) : Below B w ((((W.setCell ⟨P, 0, none⟩ u0).setCell ⟨P, 1, none⟩ u1).setCell ⟨P, 2, none⟩ u2).setCell ⟨P, 3, none⟩ u3) :=
  (((h.setCell (p := ⟨P, 0, none⟩) hp _).setCell (p := ⟨P, 1, none⟩) hp _).setCell (p := ⟨P, 2, none⟩) hp _).setCell (p := ⟨P, 3, none⟩) hp _
theorem blk_put4 {W : World} {P : Nat} {t : TypeId} {v0 v1 v2 v3 u0 u1 u2 u3 : Value} (h : Blk W P t #[v0, v1, v2, v3]) : Blk ((((W.setCell ⟨P, 0, none⟩ u0).setCell ⟨P, 1, none⟩ u1).setCell ⟨P, 2, none⟩ u2).setCell ⟨P, 3, none⟩ u3) P t #[u0, u1, u2, u3] :=
  (((h.set_ 0 u0).set_ 1 u1).set_ 2 u2).set_ 3 u3
theorem own_put4 {W : World} {P base n : Nat} {v : Value} {xs : List Value} {cs : Array Value} {u0 u1 u2 u3 : Value} (h : W.ownsRow base 3 1 v n xs) (hb : Blk W P 172 cs) : ((((W.setCell ⟨P, 0, none⟩ u0).setCell ⟨P, 1, none⟩ u1).setCell ⟨P, 2, none⟩ u2).setCell ⟨P, 3, none⟩ u3).ownsRow base 3 1 v n xs :=
  own_setx (i := 3) (own_setx (i := 2) (own_setx (i := 1) (own_setx (i := 0) h hb (by decide)) (hb.set_ 0 u0) (by decide)) ((hb.set_ 0 u0).set_ 1 u1) (by decide)) (((hb.set_ 0 u0).set_ 1 u1).set_ 2 u2) (by decide)

set_option maxRecDepth 100000 in
set_option maxHeartbeats 8000000 in
theorem productof_any (va vb : Value) (a b : List Int) (w : World) (ha : Ld w va a) (hb : Ld w vb b) (ma : may a = true) (mb : may b = true) :
    Calls Tryz.prog 102 #[va, vb] w fun e w' =>
      if mfit a b = true then (if may (msh a b) = true then SomeP w (msh a b) (mrw a b) (a.getD (a.length - 1) 0) (b.getD (b.length - 1) 0) e w' else NoP w 5 e w') else NoP w 2 e w' := by
  obtain ⟨i0, hi0, hz0, hz1, hz2⟩ := info_parts infoI
  have la := may_len ma
  have lb := may_len mb
  have K0 := Lib.hid ((Below.refl w.heap.size w).alloc (Nat.le_refl _) (.cells #[.slice none 0 0, .int .i64 0, .int .i64 0, .int .i64 0] 172))
  have K1 := Lib.hid (Blk.new w 172 #[.slice none 0 0, .int .i64 0, .int .i64 0, .int .i64 0])
  have KF := Lib.hid (fit_any va vb a b _ (ha.below K0.out) (hb.below K0.out) la lb)
  have HLA := Lib.hid ha
  have HLB := Lib.hid hb
  obtain ⟨oa, ca, rfl, hca, hxa⟩ := ha
  obtain ⟨ob, cb, rfl, _, hxb⟩ := hb
  cases hf : mfit a b with
  | false =>
    as_aux_lemma =>
    rw [hf] at KF
    clear hf hxa hxb
    simp only [Bool.false_eq_true, if_false]
    go_enter Tryz.func102, Tryz.ntmps102
    go_wp2_with (go_at_call 163; (with_reducible refine KF.out.mono ?_); rintro e w2 ⟨rfl, hb2⟩; have B2 := Lib.hid (K0.out.trans (hb2.mono (by simp))); have Q2 := Lib.hid (K1.out.below hb2 K1.out.lt); obtain ⟨d0, d1, d2, d3⟩ := blk4 Q2.out; obtain ⟨f0, f1, f2, f3⟩ := frz4 Q2.out; clear hb2)
    refine bodyPost_ret (v := .tuple #[.agg #[.slice none 0 0, .int .i64 0, .int .i64 0, .int .i64 0], .int .i64 2]) (by simp [results, Tryz.results102, go_sem, d0, d1, d2, d3]) rfl ?_
    exact ⟨rfl, bel4 B2.out (Nat.le_refl _)⟩
  | true =>
    rw [hf] at KF
    simp only [if_true]
    cases hm : may (msh a b) with
    | false =>
      skip
      simp only [Bool.false_eq_true, if_false]
      have HM := Lib.hid hm
      clear hm
      obtain ⟨h1, h2, h3, h4, h5⟩ := mfit_len hf
      obtain ⟨N1, hn⟩ : ∃ n, b.length = n + 1 := ⟨b.length - 1, by omega⟩
      obtain ⟨Q1, hq⟩ : ∃ q, a.length = q + 1 := ⟨a.length - 1, by omega⟩
      obtain ⟨q, hq2⟩ : ∃ q, Q1 = q + 1 := ⟨Q1 - 1, by omega⟩
      have HS : Hid (msh a b = a.set Q1 (b.getD N1 0) ∧ a.getD (a.length - 1) 0 = a.getD Q1 0 ∧ b.getD (b.length - 1) 0 = b.getD N1 0 ∧ mrw a b = if b.length = 2 then prod (a.take Q1) else a.getD q 0) := Lib.hid (by
        unfold msh mrw
        rw [hq, hn, Nat.add_sub_cancel, Nat.add_sub_cancel, show Q1 + 1 - 2 = q by omega]
        exact ⟨rfl, rfl, rfl, rfl⟩)
      have HSL := Lib.hid (msh_len a b)
      obtain ⟨ba, fa, rfl, na, xa⟩ := hxa q (by omega)
      obtain ⟨ba', fa', e', na2, xa2⟩ := hxa Q1 (by omega)
      simp only [Option.some.injEq, Addr.mk.injEq, and_true] at e'
      obtain ⟨rfl, rfl⟩ := e'
      obtain ⟨bb, fb', rfl, nb, xb⟩ := hxb N1 (by omega)
      have HC : Hid (∀ W, Below w.heap.size w W → W.cell? ⟨ba, fa + q, none⟩ = some (.int .i64 (a.getD q 0)) ∧ W.cell? ⟨ba, fa + Q1, none⟩ = some (.int .i64 (a.getD Q1 0)) ∧ W.cell? ⟨bb, fb' + N1, none⟩ = some (.int .i64 (b.getD N1 0))) := Lib.hid (fun W hW => ⟨(hW.cell (p := ⟨ba, fa + q, none⟩) na).trans xa, (hW.cell (p := ⟨ba, fa + Q1, none⟩) na2).trans xa2, (hW.cell (p := ⟨bb, fb' + N1, none⟩) nb).trans xb⟩)
      have KCL := Lib.hid (fun (W : World) (hW : Below w.heap.size w W) => cloned_any _ a W (HLA.out.below hW) (by omega))
      have g1 : (q : Int) < (a.length : Int) := by omega
      have g2 : (Q1 : Int) < (a.length : Int) := by omega
      have g3 : (N1 : Int) < (b.length : Int) := by omega
      have e1 : ((a.length : Int) - 1) = (Q1 : Int) := by omega
      have e2 : ((Q1 : Int) - 1) = (q : Int) := by omega
      have e3 : ((b.length : Int) - 1) = (N1 : Int) := by omega
      have ew : IntKind.i64.wrap ((q : Nat) : Int) = (q : Int) := IntWalk.i64_in _ ⟨by omega, by omega⟩
      have ew1 : IntKind.i64.wrap (Q1 : Int) = (Q1 : Int) := IntWalk.i64_in _ ⟨by omega, by omega⟩
      have ew2 : IntKind.i64.wrap (N1 : Int) = (N1 : Int) := IntWalk.i64_in _ ⟨by omega, by omega⟩
      have hs1 := fun wx : World => run_to (P := Tryz.prog) (t := 23) Tryz.underlying23 hi0 (some ⟨ba, fa, none⟩) a.length ca Q1 (by omega) wx
      have HQ := Lib.hid (And.intro hq (And.intro hq2 hn))
      clear na xa na2 xa2 nb xb hxa hxb h1 h2 h3 h4 h5 hq hq2 hn hf hca
      go_enter Tryz.func102, Tryz.ntmps102
      go_upto_region 4 with (go_at_call 163; (with_reducible refine KF.out.mono ?_); rintro e w2 ⟨rfl, hb2⟩; have B2 := Lib.hid (K0.out.trans (hb2.mono (by simp))); have Q2 := Lib.hid (K1.out.below hb2 K1.out.lt); clear hb2)
      go_cut [7] (fun s7 wx => ∃ (P : Nat) (oc : Option Addr) (cc : Nat), s7 = .pointer (some ⟨P, 0, none⟩) ∧ Blk wx P 172 #[.slice oc a.length cc, .int .i64 (a.getD q 0), .int .i64 (a.getD Q1 0), .int .i64 (b.getD N1 0)] ∧ Hid (wx.ownsRow w2.heap.size 3 1 (.slice oc a.length cc) a.length (ints a)) ∧ Hid (Below w2.heap.size w2 wx) ∧ w2.heap.size ≤ P)
      case first =>
        skip
        have KC := Lib.hid (fun (W : World) (hW : Below w2.heap.size w2 W) => KCL.out W (B2.out.trans (hW.mono B2.out.size)))
        have KS : Hid (∀ W, Below w2.heap.size w2 W → W.cell? ⟨ba, fa + q, none⟩ = some (.int .i64 (a.getD q 0)) ∧ W.cell? ⟨ba, fa + Q1, none⟩ = some (.int .i64 (a.getD Q1 0)) ∧ W.cell? ⟨bb, fb' + N1, none⟩ = some (.int .i64 (b.getD N1 0))) := Lib.hid (fun W hW => HC.out W (B2.out.trans (hW.mono B2.out.size)))
        have B0 : Hid (Below w2.heap.size w2 w2.drew) := Lib.hid (below_drw (Below.refl _ _) 1)
        clear HC KCL K0 K1 KF
        generalize a.getD q 0 = xq at *
        generalize a.getD Q1 0 = xq1 at *
        generalize b.getD N1 0 = xn1 at *
        refine wp_region_held_drew (S := fun W => W.cell? ⟨ba, fa + q, none⟩ = some (.int .i64 xq) ∧ W.cell? ⟨ba, fa + Q1, none⟩ = some (.int .i64 xq1) ∧ W.cell? ⟨bb, fb' + N1, none⟩ = some (.int .i64 xn1)) (by kernel_rfl) ?_ (fun hHeld => ?_)
        · exact KS.out _ B0.out
        have hHd := hHeld
        generalize w2.drew = w_0 at *
        (refine tk (i := 0) (oi := ⟨some 16, _, _, _, _, _⟩) (v := ?v0_p1) rfl ?hy0_p1 ?rest0_p1; (case hy0_p1 => intro w hSw; (try dsimp only at hSw); go_simp; first | done | with_reducible rfl))
        (try simp only [Act.put, pq])
        (refine tk (i := 2) (oi := ⟨some 18, _, _, _, _, _⟩) (v := ?v2_p2) rfl ?hy2_p2 ?rest2_p2; (case hy2_p2 => intro w hSw; (try dsimp only at hSw); go_simp; first | done | with_reducible rfl))
        (try simp only [Act.put, pq])
        (refine tk (i := 3) (oi := ⟨some 19, _, _, _, _, _⟩) (v := ?v3_p3) rfl ?hy3_p3 ?rest3_p3; (case hy3_p3 => intro w hSw; (try dsimp only at hSw); go_simp; first | done | with_reducible rfl))
        (try simp only [Act.put, pq])
        (refine tk (i := 4) (oi := ⟨some 20, _, _, _, _, _⟩) (v := ?v4_p4) rfl ?hy4_p4 ?rest4_p4; (case hy4_p4 => intro w hSw; (try dsimp only at hSw); go_simp; first | done | with_reducible rfl))
        (try simp only [Act.put, pq])
        (refine tk (i := 5) (oi := ⟨some 21, _, _, _, _, _⟩) (v := ?v5_p5) rfl ?hy5_p5 ?rest5_p5; (case hy5_p5 => intro w hSw; (try dsimp only at hSw); go_simp; first | done | with_reducible rfl))
        (try simp only [Act.put, pq])
        (refine tk (i := 6) (oi := ⟨some 22, _, _, _, _, _⟩) (v := ?v6_p6) rfl ?hy6_p6 ?rest6_p6; (case hy6_p6 => intro w hSw; (try dsimp only at hSw); go_simp; first | done | with_reducible rfl))
        (try simp only [Act.put, pq])
        (refine tk (i := 7) (oi := ⟨some 23, _, _, _, _, _⟩) (v := ?v7_p7) rfl ?hy7_p7 ?rest7_p7; (case hy7_p7 => intro w hSw; (try dsimp only at hSw); go_simp; first | done | with_reducible rfl))
        (try simp only [Act.put, pq])
        (refine tk (i := 8) (oi := ⟨some 24, _, _, _, _, _⟩) (v := ?v8_p8) rfl ?hy8_p8 ?rest8_p8; (case hy8_p8 => intro w hSw; (try dsimp only at hSw); go_simp; first | done | with_reducible rfl))
        (try simp only [Act.put, pq])
        (refine tk (i := 9) (oi := ⟨some 25, _, _, _, _, _⟩) (v := ?v9_p9) rfl ?hy9_p9 ?rest9_p9; (case hy9_p9 => intro w hSw; (try dsimp only at hSw); go_simp; first | done | with_reducible rfl))
        (try simp only [Act.put, pq])
        (refine tk (i := 10) (oi := ⟨some 26, _, _, _, _, _⟩) (v := ?v10_p10) rfl ?hy10_p10 ?rest10_p10; (case hy10_p10 => intro w hSw; (try dsimp only at hSw); go_simp; first | done | with_reducible rfl))
        (try simp only [Act.put, pq])
        (refine tk (i := 11) (oi := ⟨some 27, _, _, _, _, _⟩) (v := ?v11_p11) rfl ?hy11_p11 ?rest11_p11; (case hy11_p11 => intro w hSw; (try dsimp only at hSw); go_simp; first | done | with_reducible rfl))
        (try simp only [Act.put, pq])
        (refine tk (i := 12) (oi := ⟨some 28, _, _, _, _, _⟩) (v := ?v12_p12) rfl ?hy12_p12 ?rest12_p12; (case hy12_p12 => intro w hSw; (try dsimp only at hSw); go_simp; first | done | with_reducible rfl))
        (try simp only [Act.put, pq])
        (refine tk (i := 13) (oi := ⟨some 29, _, _, _, _, _⟩) (v := ?v13_p13) rfl ?hy13_p13 ?rest13_p13; (case hy13_p13 => intro w hSw; (try dsimp only at hSw); go_simp; first | done | with_reducible rfl))
        (try simp only [Act.put, pq])
        (refine tk (i := 14) (oi := ⟨some 30, _, _, _, _, _⟩) (v := ?v14_p14) rfl ?hy14_p14 ?rest14_p14; (case hy14_p14 => intro w hSw; (try dsimp only at hSw); go_simp; first | done | with_reducible rfl))
        (try simp only [Act.put, pq])
        (refine tk (i := 15) (oi := ⟨some 31, _, _, _, _, _⟩) (v := ?v15_p15) rfl ?hy15_p15 ?rest15_p15; (case hy15_p15 => intro w hSw; (try dsimp only at hSw); go_simp; first | done | with_reducible rfl))
        (try simp only [Act.put, pq])
        (refine tk (i := 16) (oi := ⟨some 32, _, _, _, _, _⟩) (v := ?v16_p16) rfl ?hy16_p16 ?rest16_p16; (case hy16_p16 => intro w hSw; (try dsimp only at hSw); go_simp; first | done | with_reducible rfl))
        (try simp only [Act.put, pq])
        refine wpAnyH_ready (rs := [1, 18]) (by kernel_rfl) (by simp) ?_
        refine AllReadyH.cons (o := ⟨some 17, _, _, _, _, _⟩) rfl (fun K hK => ?_) (AllReadyH.cons (o := ⟨some 7, _, _, _, _, _⟩) rfl (fun K hK => ?_) (AllReadyH.nil))
        · go_simp
          (go_at_call 145; (with_reducible refine (KC.out _ B0.out).mono ?_); rintro e w_5 ⟨oc, cc, rfl, hown, _, hb⟩; have B_5 := Lib.hid (B0.out.trans (hb.mono B0.out.size)); have O5 := Lib.hid (own_base hown B0.out.size); clear hown hb)
          refine hK.out _ _ ?_ (fun hHeld => ?_)
          · (try dsimp only)
            exact KS.out _ B_5.out
          clear hK K
          (try simp only [Act.put, pq])
          (refine tk (i := 17) (oi := ⟨some 33, _, _, _, _, _⟩) (v := ?v17_p17) rfl ?hy17_p17 ?rest17_p17; (case hy17_p17 => intro w hSw; (try dsimp only at hSw); go_simp; first | done | with_reducible rfl))
          (try simp only [Act.put, pq])
          refine wpAnyH_ready (rs := [18]) (by kernel_rfl) (by simp) ?_
          refine AllReadyH.cons (o := ⟨some 7, _, _, _, _, _⟩) rfl (fun K hK => ?_) (AllReadyH.nil)
          go_simp
          have Z6 := Lib.hid (And.intro (Blk.new w_5 172 #[.slice none 0 0, .int .i64 0, .int .i64 0, .int .i64 0]) B_5.out.size)
          have O6 := Lib.hid (O5.out.alloc (.cells #[.slice none 0 0, .int .i64 0, .int .i64 0, .int .i64 0] 172))
          have B_6 := Lib.hid (B_5.out.alloc B_5.out.size (.cells #[.slice none 0 0, .int .i64 0, .int .i64 0, .int .i64 0] 172))
          refine hK.out _ _ ?_ (fun hHeld => ?_)
          · (try dsimp only)
            exact KS.out _ B_6.out
          clear hK K
          generalize w_5.alloc (.cells #[.slice none 0 0, .int .i64 0, .int .i64 0, .int .i64 0] 172) = w_6 at *
          (try simp only [Act.put, pq])
          refine wpAnyH_ready (rs := [19]) (by kernel_rfl) (by simp) ?_
          refine AllReadyH.cons (o := ⟨none, _, _, _, _, _⟩) rfl (fun K hK => ?_) (AllReadyH.nil)
          obtain ⟨p0, p1, p2, p3⟩ := blk4 Z6.out.1
          obtain ⟨f0, f1, f2, f3⟩ := frz4 Z6.out.1
          go_simp
          refine hK.out _ _ ?_ (fun hHeld => ?_)
          · (try dsimp only)
            exact KS.out _ (bel4 B_6.out Z6.out.2)
          clear hK K
          (try simp only [Act.put, pq])
          refine wpAnyH_done (by kernel_rfl) ?_ _
          go_wp2
          go_meet
          exact ⟨_, oc, cc, rfl, blk_put4 Z6.out.1, Lib.hid (own_put4 O6.out Z6.out.1), Lib.hid (bel4 B_6.out Z6.out.2), Z6.out.2⟩
        · go_simp
          have Z7 := Lib.hid (And.intro (Blk.new w_0 172 #[.slice none 0 0, .int .i64 0, .int .i64 0, .int .i64 0]) B0.out.size)
          have B_7 := Lib.hid (B0.out.alloc B0.out.size (.cells #[.slice none 0 0, .int .i64 0, .int .i64 0, .int .i64 0] 172))
          refine hK.out _ _ ?_ (fun hHeld => ?_)
          · (try dsimp only)
            exact KS.out _ B_7.out
          clear hK K
          generalize w_0.alloc (.cells #[.slice none 0 0, .int .i64 0, .int .i64 0, .int .i64 0] 172) = w_7 at *
          (try simp only [Act.put, pq])
          refine wpAnyH_ready (rs := [1]) (by kernel_rfl) (by simp) ?_
          refine AllReadyH.cons (o := ⟨some 17, _, _, _, _, _⟩) rfl (fun K hK => ?_) (AllReadyH.nil)
          go_simp
          (go_at_call 145; (with_reducible refine (KC.out _ B_7.out).mono ?_); rintro e w_8 ⟨oc, cc, rfl, hown, _, hb⟩; have B_8 := Lib.hid (B_7.out.trans (hb.mono B_7.out.size)); have Z8 := Lib.hid (And.intro (Z7.out.1.below hb Z7.out.1.lt) Z7.out.2); have O8 := Lib.hid (own_base hown B_7.out.size); clear hown hb)
          refine hK.out _ _ ?_ (fun hHeld => ?_)
          · (try dsimp only)
            exact KS.out _ B_8.out
          clear hK K
          (try simp only [Act.put, pq])
          (refine tk (i := 17) (oi := ⟨some 33, _, _, _, _, _⟩) (v := ?v17_p18) rfl ?hy17_p18 ?rest17_p18; (case hy17_p18 => intro w hSw; (try dsimp only at hSw); go_simp; first | done | with_reducible rfl))
          (try simp only [Act.put, pq])
          refine wpAnyH_ready (rs := [19]) (by kernel_rfl) (by simp) ?_
          refine AllReadyH.cons (o := ⟨none, _, _, _, _, _⟩) rfl (fun K hK => ?_) (AllReadyH.nil)
          obtain ⟨p0, p1, p2, p3⟩ := blk4 Z8.out.1
          obtain ⟨f0, f1, f2, f3⟩ := frz4 Z8.out.1
          go_simp
          refine hK.out _ _ ?_ (fun hHeld => ?_)
          · (try dsimp only)
            exact KS.out _ (bel4 B_8.out Z8.out.2)
          clear hK K
          (try simp only [Act.put, pq])
          refine wpAnyH_done (by kernel_rfl) ?_ _
          go_wp2
          go_meet
          exact ⟨_, oc, cc, rfl, blk_put4 Z8.out.1, Lib.hid (own_put4 O8.out Z8.out.1), Lib.hid (bel4 B_8.out Z8.out.2), Z8.out.2⟩
      case rest =>
        skip
        obtain ⟨P, oc, cc, rfl, hbp, HOW, HB, hP⟩ := hcut
        generalize a.getD q 0 = xq at *
        generalize a.getD Q1 0 = xq1 at *
        generalize b.getD N1 0 = xn1 at *
        obtain ⟨wv, hwv⟩ : ∃ wv, wv = wc := ⟨_, rfl⟩
        rw [← hwv] at hbp HOW HB ⊢
        clear hwv
        have hla2 : a.length = Q1 + 1 := HQ.out.1
        obtain ⟨g, c9, hg9⟩ := ownsRow_succ (k := Q1) (by have h := HOW.out; rw [hla2] at h; exact h)
        simp only [Value.slice.injEq] at hg9
        obtain ⟨rfl, _, rfl⟩ := hg9
        clear hla2
        have BV := Lib.hid (B2.out.trans (HB.out.mono B2.out.size))
        have hgl := (HOW.out.lt g rfl).1
        have hQ1a : Q1 < a.length := by have := HQ.out.1; omega
        have hne : ¬ g = P := fun e => tens_not_row HOW.out hbp (by decide) (by rw [e]; rfl)
        have kc := own_at HOW.out rfl hQ1a
        have kf := own_frozen HOW.out Q1
        have HSET : Hid ((wv.setCell ⟨g, Q1, none⟩ (.int .i64 xn1)).ownsRow w2.heap.size 3 1 (.slice (some ⟨g, 0, none⟩) a.length cc) a.length (ints (msh a b))) := Lib.hid (by rw [HS.out.1]; exact own_setn HOW.out rfl hQ1a _)
        have HBP := Lib.hid (hbp.far (p := ⟨g, Q1, none⟩) (fun e => hne e.symm) (.int .i64 xn1))
        have HBV := Lib.hid (BV.out.setCell (p := ⟨g, Q1, none⟩) (Nat.le_trans B2.out.size hgl) (.int .i64 xn1))
        have HB2 := Lib.hid (HB.out.setCell (p := ⟨g, Q1, none⟩) hgl (.int .i64 xn1))
        obtain ⟨y0, y1, y2, y3⟩ := blk4 hbp
        obtain ⟨z0, z1, z2, z3⟩ := blk4 HBP.out
        have HR : Hid (Blk (wv.setCell ⟨g, Q1, none⟩ (.int .i64 xn1)) w.heap.size 172 #[.slice none 0 0, .int .i64 0, .int .i64 0, .int .i64 0]) := Lib.hid ((Q2.out.below HB.out Q2.out.lt).far (p := ⟨g, Q1, none⟩) (by have := Q2.out.lt; show ¬ w.heap.size = g; omega) _)
        have LS := Lib.hid (own_ld HSET.out (msh_len a b))
        have hRP : ¬ w.heap.size = P := by have := Q2.out.lt; omega
        go_upto_region 6 with (fail)
        generalize wv.setCell ⟨g, Q1, none⟩ (.int .i64 xn1) = ws at *
        clear kc kf y0 y1 y2 y3
        have KCH := Lib.hid (check_no _ _ _ LS.out HM.out)
        obtain ⟨d0, d1, d2, d3⟩ := blk4 HR.out
        obtain ⟨f0, f1, f2, f3⟩ := frz4 HR.out
        go_wp2_with (go_at_call 124; (with_reducible refine KCH.out.mono ?_); rintro e w' ⟨rfl, rfl⟩)
        have RZ := Lib.hid (And.intro (blk_put4 (u0 := .slice none 0 0) (u1 := .int .i64 0) (u2 := .int .i64 0) (u3 := .int .i64 0) HR.out) (bel4 (u0 := .slice none 0 0) (u1 := .int .i64 0) (u2 := .int .i64 0) (u3 := .int .i64 0) HBV.out (Nat.le_refl _)))
        generalize (((ws.setCell ⟨w.heap.size, 0, none⟩ (.slice none 0 0)).setCell ⟨w.heap.size, 1, none⟩ (.int .i64 0)).setCell ⟨w.heap.size, 2, none⟩ (.int .i64 0)).setCell ⟨w.heap.size, 3, none⟩ (.int .i64 0) = wz at *
        obtain ⟨r0, r1, r2, r3⟩ := blk4 RZ.out.1
        refine bodyPost_ret (v := .tuple #[.agg #[.slice none 0 0, .int .i64 0, .int .i64 0, .int .i64 0], .int .i64 5]) (by simp [results, Tryz.results102, go_sem, r0, r1, r2, r3]) rfl ?_
        exact ⟨rfl, RZ.out.2⟩
    | true =>
      skip
      simp only [if_true]
      have HM := Lib.hid hm
      clear hm
      obtain ⟨h1, h2, h3, h4, h5⟩ := mfit_len hf
      obtain ⟨N1, hn⟩ : ∃ n, b.length = n + 1 := ⟨b.length - 1, by omega⟩
      obtain ⟨Q1, hq⟩ : ∃ q, a.length = q + 1 := ⟨a.length - 1, by omega⟩
      obtain ⟨q, hq2⟩ : ∃ q, Q1 = q + 1 := ⟨Q1 - 1, by omega⟩
      have HS : Hid (msh a b = a.set Q1 (b.getD N1 0) ∧ a.getD (a.length - 1) 0 = a.getD Q1 0 ∧ b.getD (b.length - 1) 0 = b.getD N1 0 ∧ mrw a b = if b.length = 2 then prod (a.take Q1) else a.getD q 0) := Lib.hid (by
        unfold msh mrw
        rw [hq, hn, Nat.add_sub_cancel, Nat.add_sub_cancel, show Q1 + 1 - 2 = q by omega]
        exact ⟨rfl, rfl, rfl, rfl⟩)
      have HSL := Lib.hid (msh_len a b)
      obtain ⟨ba, fa, rfl, na, xa⟩ := hxa q (by omega)
      obtain ⟨ba', fa', e', na2, xa2⟩ := hxa Q1 (by omega)
      simp only [Option.some.injEq, Addr.mk.injEq, and_true] at e'
      obtain ⟨rfl, rfl⟩ := e'
      obtain ⟨bb, fb', rfl, nb, xb⟩ := hxb N1 (by omega)
      have HC : Hid (∀ W, Below w.heap.size w W → W.cell? ⟨ba, fa + q, none⟩ = some (.int .i64 (a.getD q 0)) ∧ W.cell? ⟨ba, fa + Q1, none⟩ = some (.int .i64 (a.getD Q1 0)) ∧ W.cell? ⟨bb, fb' + N1, none⟩ = some (.int .i64 (b.getD N1 0))) := Lib.hid (fun W hW => ⟨(hW.cell (p := ⟨ba, fa + q, none⟩) na).trans xa, (hW.cell (p := ⟨ba, fa + Q1, none⟩) na2).trans xa2, (hW.cell (p := ⟨bb, fb' + N1, none⟩) nb).trans xb⟩)
      have KCL := Lib.hid (fun (W : World) (hW : Below w.heap.size w W) => cloned_any _ a W (HLA.out.below hW) (by omega))
      have g1 : (q : Int) < (a.length : Int) := by omega
      have g2 : (Q1 : Int) < (a.length : Int) := by omega
      have g3 : (N1 : Int) < (b.length : Int) := by omega
      have e1 : ((a.length : Int) - 1) = (Q1 : Int) := by omega
      have e2 : ((Q1 : Int) - 1) = (q : Int) := by omega
      have e3 : ((b.length : Int) - 1) = (N1 : Int) := by omega
      have ew : IntKind.i64.wrap ((q : Nat) : Int) = (q : Int) := IntWalk.i64_in _ ⟨by omega, by omega⟩
      have ew1 : IntKind.i64.wrap (Q1 : Int) = (Q1 : Int) := IntWalk.i64_in _ ⟨by omega, by omega⟩
      have ew2 : IntKind.i64.wrap (N1 : Int) = (N1 : Int) := IntWalk.i64_in _ ⟨by omega, by omega⟩
      have hs1 := fun wx : World => run_to (P := Tryz.prog) (t := 23) Tryz.underlying23 hi0 (some ⟨ba, fa, none⟩) a.length ca Q1 (by omega) wx
      have HQ := Lib.hid (And.intro hq (And.intro hq2 hn))
      clear na xa na2 xa2 nb xb hxa hxb h1 h2 h3 h4 h5 hq hq2 hn hf hca
      go_enter Tryz.func102, Tryz.ntmps102
      go_upto_region 4 with (go_at_call 163; (with_reducible refine KF.out.mono ?_); rintro e w2 ⟨rfl, hb2⟩; have B2 := Lib.hid (K0.out.trans (hb2.mono (by simp))); have Q2 := Lib.hid (K1.out.below hb2 K1.out.lt); clear hb2)
      go_cut [7] (fun s7 wx => ∃ (P : Nat) (oc : Option Addr) (cc : Nat), s7 = .pointer (some ⟨P, 0, none⟩) ∧ Blk wx P 172 #[.slice oc a.length cc, .int .i64 (a.getD q 0), .int .i64 (a.getD Q1 0), .int .i64 (b.getD N1 0)] ∧ Hid (wx.ownsRow w2.heap.size 3 1 (.slice oc a.length cc) a.length (ints a)) ∧ Hid (Below w2.heap.size w2 wx) ∧ w2.heap.size ≤ P)
      case first =>
        skip
        have KC := Lib.hid (fun (W : World) (hW : Below w2.heap.size w2 W) => KCL.out W (B2.out.trans (hW.mono B2.out.size)))
        have KS : Hid (∀ W, Below w2.heap.size w2 W → W.cell? ⟨ba, fa + q, none⟩ = some (.int .i64 (a.getD q 0)) ∧ W.cell? ⟨ba, fa + Q1, none⟩ = some (.int .i64 (a.getD Q1 0)) ∧ W.cell? ⟨bb, fb' + N1, none⟩ = some (.int .i64 (b.getD N1 0))) := Lib.hid (fun W hW => HC.out W (B2.out.trans (hW.mono B2.out.size)))
        have B0 : Hid (Below w2.heap.size w2 w2.drew) := Lib.hid (below_drw (Below.refl _ _) 1)
        clear HC KCL K0 K1 KF
        generalize a.getD q 0 = xq at *
        generalize a.getD Q1 0 = xq1 at *
        generalize b.getD N1 0 = xn1 at *
        refine wp_region_held_drew (S := fun W => W.cell? ⟨ba, fa + q, none⟩ = some (.int .i64 xq) ∧ W.cell? ⟨ba, fa + Q1, none⟩ = some (.int .i64 xq1) ∧ W.cell? ⟨bb, fb' + N1, none⟩ = some (.int .i64 xn1)) (by kernel_rfl) ?_ (fun hHeld => ?_)
        · exact KS.out _ B0.out
        have hHd := hHeld
        generalize w2.drew = w_0 at *
        (refine tk (i := 0) (oi := ⟨some 16, _, _, _, _, _⟩) (v := ?v0_r1) rfl ?hy0_r1 ?rest0_r1; (case hy0_r1 => intro w hSw; (try dsimp only at hSw); go_simp; first | done | with_reducible rfl))
        (try simp only [Act.put, pq])
        (refine tk (i := 2) (oi := ⟨some 18, _, _, _, _, _⟩) (v := ?v2_r2) rfl ?hy2_r2 ?rest2_r2; (case hy2_r2 => intro w hSw; (try dsimp only at hSw); go_simp; first | done | with_reducible rfl))
        (try simp only [Act.put, pq])
        (refine tk (i := 3) (oi := ⟨some 19, _, _, _, _, _⟩) (v := ?v3_r3) rfl ?hy3_r3 ?rest3_r3; (case hy3_r3 => intro w hSw; (try dsimp only at hSw); go_simp; first | done | with_reducible rfl))
        (try simp only [Act.put, pq])
        (refine tk (i := 4) (oi := ⟨some 20, _, _, _, _, _⟩) (v := ?v4_r4) rfl ?hy4_r4 ?rest4_r4; (case hy4_r4 => intro w hSw; (try dsimp only at hSw); go_simp; first | done | with_reducible rfl))
        (try simp only [Act.put, pq])
        (refine tk (i := 5) (oi := ⟨some 21, _, _, _, _, _⟩) (v := ?v5_r5) rfl ?hy5_r5 ?rest5_r5; (case hy5_r5 => intro w hSw; (try dsimp only at hSw); go_simp; first | done | with_reducible rfl))
        (try simp only [Act.put, pq])
        (refine tk (i := 6) (oi := ⟨some 22, _, _, _, _, _⟩) (v := ?v6_r6) rfl ?hy6_r6 ?rest6_r6; (case hy6_r6 => intro w hSw; (try dsimp only at hSw); go_simp; first | done | with_reducible rfl))
        (try simp only [Act.put, pq])
        (refine tk (i := 7) (oi := ⟨some 23, _, _, _, _, _⟩) (v := ?v7_r7) rfl ?hy7_r7 ?rest7_r7; (case hy7_r7 => intro w hSw; (try dsimp only at hSw); go_simp; first | done | with_reducible rfl))
        (try simp only [Act.put, pq])
        (refine tk (i := 8) (oi := ⟨some 24, _, _, _, _, _⟩) (v := ?v8_r8) rfl ?hy8_r8 ?rest8_r8; (case hy8_r8 => intro w hSw; (try dsimp only at hSw); go_simp; first | done | with_reducible rfl))
        (try simp only [Act.put, pq])
        (refine tk (i := 9) (oi := ⟨some 25, _, _, _, _, _⟩) (v := ?v9_r9) rfl ?hy9_r9 ?rest9_r9; (case hy9_r9 => intro w hSw; (try dsimp only at hSw); go_simp; first | done | with_reducible rfl))
        (try simp only [Act.put, pq])
        (refine tk (i := 10) (oi := ⟨some 26, _, _, _, _, _⟩) (v := ?v10_r10) rfl ?hy10_r10 ?rest10_r10; (case hy10_r10 => intro w hSw; (try dsimp only at hSw); go_simp; first | done | with_reducible rfl))
        (try simp only [Act.put, pq])
        (refine tk (i := 11) (oi := ⟨some 27, _, _, _, _, _⟩) (v := ?v11_r11) rfl ?hy11_r11 ?rest11_r11; (case hy11_r11 => intro w hSw; (try dsimp only at hSw); go_simp; first | done | with_reducible rfl))
        (try simp only [Act.put, pq])
        (refine tk (i := 12) (oi := ⟨some 28, _, _, _, _, _⟩) (v := ?v12_r12) rfl ?hy12_r12 ?rest12_r12; (case hy12_r12 => intro w hSw; (try dsimp only at hSw); go_simp; first | done | with_reducible rfl))
        (try simp only [Act.put, pq])
        (refine tk (i := 13) (oi := ⟨some 29, _, _, _, _, _⟩) (v := ?v13_r13) rfl ?hy13_r13 ?rest13_r13; (case hy13_r13 => intro w hSw; (try dsimp only at hSw); go_simp; first | done | with_reducible rfl))
        (try simp only [Act.put, pq])
        (refine tk (i := 14) (oi := ⟨some 30, _, _, _, _, _⟩) (v := ?v14_r14) rfl ?hy14_r14 ?rest14_r14; (case hy14_r14 => intro w hSw; (try dsimp only at hSw); go_simp; first | done | with_reducible rfl))
        (try simp only [Act.put, pq])
        (refine tk (i := 15) (oi := ⟨some 31, _, _, _, _, _⟩) (v := ?v15_r15) rfl ?hy15_r15 ?rest15_r15; (case hy15_r15 => intro w hSw; (try dsimp only at hSw); go_simp; first | done | with_reducible rfl))
        (try simp only [Act.put, pq])
        (refine tk (i := 16) (oi := ⟨some 32, _, _, _, _, _⟩) (v := ?v16_r16) rfl ?hy16_r16 ?rest16_r16; (case hy16_r16 => intro w hSw; (try dsimp only at hSw); go_simp; first | done | with_reducible rfl))
        (try simp only [Act.put, pq])
        refine wpAnyH_ready (rs := [1, 18]) (by kernel_rfl) (by simp) ?_
        refine AllReadyH.cons (o := ⟨some 17, _, _, _, _, _⟩) rfl (fun K hK => ?_) (AllReadyH.cons (o := ⟨some 7, _, _, _, _, _⟩) rfl (fun K hK => ?_) (AllReadyH.nil))
        · go_simp
          (go_at_call 145; (with_reducible refine (KC.out _ B0.out).mono ?_); rintro e w_9 ⟨oc, cc, rfl, hown, _, hb⟩; have B_9 := Lib.hid (B0.out.trans (hb.mono B0.out.size)); have O9 := Lib.hid (own_base hown B0.out.size); clear hown hb)
          refine hK.out _ _ ?_ (fun hHeld => ?_)
          · (try dsimp only)
            exact KS.out _ B_9.out
          clear hK K
          (try simp only [Act.put, pq])
          (refine tk (i := 17) (oi := ⟨some 33, _, _, _, _, _⟩) (v := ?v17_r17) rfl ?hy17_r17 ?rest17_r17; (case hy17_r17 => intro w hSw; (try dsimp only at hSw); go_simp; first | done | with_reducible rfl))
          (try simp only [Act.put, pq])
          refine wpAnyH_ready (rs := [18]) (by kernel_rfl) (by simp) ?_
          refine AllReadyH.cons (o := ⟨some 7, _, _, _, _, _⟩) rfl (fun K hK => ?_) (AllReadyH.nil)
          go_simp
          have Z10 := Lib.hid (And.intro (Blk.new w_9 172 #[.slice none 0 0, .int .i64 0, .int .i64 0, .int .i64 0]) B_9.out.size)
          have O10 := Lib.hid (O9.out.alloc (.cells #[.slice none 0 0, .int .i64 0, .int .i64 0, .int .i64 0] 172))
          have B_10 := Lib.hid (B_9.out.alloc B_9.out.size (.cells #[.slice none 0 0, .int .i64 0, .int .i64 0, .int .i64 0] 172))
          refine hK.out _ _ ?_ (fun hHeld => ?_)
          · (try dsimp only)
            exact KS.out _ B_10.out
          clear hK K
          generalize w_9.alloc (.cells #[.slice none 0 0, .int .i64 0, .int .i64 0, .int .i64 0] 172) = w_10 at *
          (try simp only [Act.put, pq])
          refine wpAnyH_ready (rs := [19]) (by kernel_rfl) (by simp) ?_
          refine AllReadyH.cons (o := ⟨none, _, _, _, _, _⟩) rfl (fun K hK => ?_) (AllReadyH.nil)
          obtain ⟨p0, p1, p2, p3⟩ := blk4 Z10.out.1
          obtain ⟨f0, f1, f2, f3⟩ := frz4 Z10.out.1
          go_simp
          refine hK.out _ _ ?_ (fun hHeld => ?_)
          · (try dsimp only)
            exact KS.out _ (bel4 B_10.out Z10.out.2)
          clear hK K
          (try simp only [Act.put, pq])
          refine wpAnyH_done (by kernel_rfl) ?_ _
          go_wp2
          go_meet
          exact ⟨_, oc, cc, rfl, blk_put4 Z10.out.1, Lib.hid (own_put4 O10.out Z10.out.1), Lib.hid (bel4 B_10.out Z10.out.2), Z10.out.2⟩
        · go_simp
          have Z11 := Lib.hid (And.intro (Blk.new w_0 172 #[.slice none 0 0, .int .i64 0, .int .i64 0, .int .i64 0]) B0.out.size)
          have B_11 := Lib.hid (B0.out.alloc B0.out.size (.cells #[.slice none 0 0, .int .i64 0, .int .i64 0, .int .i64 0] 172))
          refine hK.out _ _ ?_ (fun hHeld => ?_)
          · (try dsimp only)
            exact KS.out _ B_11.out
          clear hK K
          generalize w_0.alloc (.cells #[.slice none 0 0, .int .i64 0, .int .i64 0, .int .i64 0] 172) = w_11 at *
          (try simp only [Act.put, pq])
          refine wpAnyH_ready (rs := [1]) (by kernel_rfl) (by simp) ?_
          refine AllReadyH.cons (o := ⟨some 17, _, _, _, _, _⟩) rfl (fun K hK => ?_) (AllReadyH.nil)
          go_simp
          (go_at_call 145; (with_reducible refine (KC.out _ B_11.out).mono ?_); rintro e w_12 ⟨oc, cc, rfl, hown, _, hb⟩; have B_12 := Lib.hid (B_11.out.trans (hb.mono B_11.out.size)); have Z12 := Lib.hid (And.intro (Z11.out.1.below hb Z11.out.1.lt) Z11.out.2); have O12 := Lib.hid (own_base hown B_11.out.size); clear hown hb)
          refine hK.out _ _ ?_ (fun hHeld => ?_)
          · (try dsimp only)
            exact KS.out _ B_12.out
          clear hK K
          (try simp only [Act.put, pq])
          (refine tk (i := 17) (oi := ⟨some 33, _, _, _, _, _⟩) (v := ?v17_r18) rfl ?hy17_r18 ?rest17_r18; (case hy17_r18 => intro w hSw; (try dsimp only at hSw); go_simp; first | done | with_reducible rfl))
          (try simp only [Act.put, pq])
          refine wpAnyH_ready (rs := [19]) (by kernel_rfl) (by simp) ?_
          refine AllReadyH.cons (o := ⟨none, _, _, _, _, _⟩) rfl (fun K hK => ?_) (AllReadyH.nil)
          obtain ⟨p0, p1, p2, p3⟩ := blk4 Z12.out.1
          obtain ⟨f0, f1, f2, f3⟩ := frz4 Z12.out.1
          go_simp
          refine hK.out _ _ ?_ (fun hHeld => ?_)
          · (try dsimp only)
            exact KS.out _ (bel4 B_12.out Z12.out.2)
          clear hK K
          (try simp only [Act.put, pq])
          refine wpAnyH_done (by kernel_rfl) ?_ _
          go_wp2
          go_meet
          exact ⟨_, oc, cc, rfl, blk_put4 Z12.out.1, Lib.hid (own_put4 O12.out Z12.out.1), Lib.hid (bel4 B_12.out Z12.out.2), Z12.out.2⟩
      case rest =>
        skip
        obtain ⟨P, oc, cc, rfl, hbp, HOW, HB, hP⟩ := hcut
        generalize a.getD q 0 = xq at *
        generalize a.getD Q1 0 = xq1 at *
        generalize b.getD N1 0 = xn1 at *
        obtain ⟨wv, hwv⟩ : ∃ wv, wv = wc := ⟨_, rfl⟩
        rw [← hwv] at hbp HOW HB ⊢
        clear hwv
        have hla2 : a.length = Q1 + 1 := HQ.out.1
        obtain ⟨g, c9, hg9⟩ := ownsRow_succ (k := Q1) (by have h := HOW.out; rw [hla2] at h; exact h)
        simp only [Value.slice.injEq] at hg9
        obtain ⟨rfl, _, rfl⟩ := hg9
        clear hla2
        have BV := Lib.hid (B2.out.trans (HB.out.mono B2.out.size))
        have hgl := (HOW.out.lt g rfl).1
        have hQ1a : Q1 < a.length := by have := HQ.out.1; omega
        have hne : ¬ g = P := fun e => tens_not_row HOW.out hbp (by decide) (by rw [e]; rfl)
        have kc := own_at HOW.out rfl hQ1a
        have kf := own_frozen HOW.out Q1
        have HSET : Hid ((wv.setCell ⟨g, Q1, none⟩ (.int .i64 xn1)).ownsRow w2.heap.size 3 1 (.slice (some ⟨g, 0, none⟩) a.length cc) a.length (ints (msh a b))) := Lib.hid (by rw [HS.out.1]; exact own_setn HOW.out rfl hQ1a _)
        have HBP := Lib.hid (hbp.far (p := ⟨g, Q1, none⟩) (fun e => hne e.symm) (.int .i64 xn1))
        have HBV := Lib.hid (BV.out.setCell (p := ⟨g, Q1, none⟩) (Nat.le_trans B2.out.size hgl) (.int .i64 xn1))
        have HB2 := Lib.hid (HB.out.setCell (p := ⟨g, Q1, none⟩) hgl (.int .i64 xn1))
        obtain ⟨y0, y1, y2, y3⟩ := blk4 hbp
        obtain ⟨z0, z1, z2, z3⟩ := blk4 HBP.out
        have HR : Hid (Blk (wv.setCell ⟨g, Q1, none⟩ (.int .i64 xn1)) w.heap.size 172 #[.slice none 0 0, .int .i64 0, .int .i64 0, .int .i64 0]) := Lib.hid ((Q2.out.below HB.out Q2.out.lt).far (p := ⟨g, Q1, none⟩) (by have := Q2.out.lt; show ¬ w.heap.size = g; omega) _)
        have LS := Lib.hid (own_ld HSET.out (msh_len a b))
        have hRP : ¬ w.heap.size = P := by have := Q2.out.lt; omega
        go_upto_region 6 with (fail)
        generalize wv.setCell ⟨g, Q1, none⟩ (.int .i64 xn1) = ws at *
        clear kc kf y0 y1 y2 y3
        have KCH := Lib.hid (check_ok _ _ _ LS.out HM.out)
        by_cases hb2 : b.length = 2
        · skip
          have c1 : ((b.length : Int) == 2) = true := by simp [hb2]
          rw [if_pos hb2] at HS
          clear hb2
          have KCO := Lib.hid (fun (W : World) (hW : Below w.heap.size w W) => count_ok (.slice (some ⟨ba, fa, none⟩) Q1 ca) (a.take Q1) W (ld_to (HLA.out.below hW) (by omega)) (may_take Q1 ma))
          have HR2 := Lib.hid (HR.out.far (p := ⟨P, 1, none⟩) (by exact hRP) (.int .i64 (prod (a.take Q1))))
          have HP2 := Lib.hid (HBP.out.set_ 1 (.int .i64 (prod (a.take Q1))))
          have X1 := Lib.hid (own_setx (i := 1) (z := .int .i64 (prod (a.take Q1))) (own_base HSET.out B2.out.size) HBP.out (by decide))
          have X2 := Lib.hid (HBV.out.setCell (p := ⟨P, 1, none⟩) (Nat.le_trans B2.out.size hP) (.int .i64 (prod (a.take Q1))))
          have PF := HBP.out.frozen 1
          have u0 := HP2.out.cell 0
          have u1 := HP2.out.cell 1
          have u2 := HP2.out.cell 2
          have u3 := HP2.out.cell 3
          obtain ⟨d0, d1, d2, d3⟩ := blk4 HR2.out
          obtain ⟨f0, f1, f2, f3⟩ := frz4 HR2.out
          generalize prod (a.take Q1) = PT at *
          go_wp2_with (first | (go_at_call 124; (with_reducible refine KCH.out.mono ?_); rintro e w' ⟨rfl, rfl⟩) | (go_at_call 147; (with_reducible refine (KCO.out _ HBV.out).mono ?_); rintro e w' ⟨rfl, rfl⟩))
          have RZ := Lib.hid (And.intro (blk_put4 (u0 := .slice (some ⟨g, 0, none⟩) a.length cc) (u1 := .int .i64 PT) (u2 := .int .i64 xq1) (u3 := .int .i64 xn1) HR2.out) (And.intro (bel4 (u0 := .slice (some ⟨g, 0, none⟩) a.length cc) (u1 := .int .i64 PT) (u2 := .int .i64 xq1) (u3 := .int .i64 xn1) X2.out (Nat.le_refl _)) (own_put4 (u0 := .slice (some ⟨g, 0, none⟩) a.length cc) (u1 := .int .i64 PT) (u2 := .int .i64 xq1) (u3 := .int .i64 xn1) X1.out HR2.out)))
          generalize ((((ws.setCell ⟨P, 1, none⟩ (.int .i64 PT)).setCell ⟨w.heap.size, 0, none⟩ (.slice (some ⟨g, 0, none⟩) a.length cc)).setCell ⟨w.heap.size, 1, none⟩ (.int .i64 PT)).setCell ⟨w.heap.size, 2, none⟩ (.int .i64 xq1)).setCell ⟨w.heap.size, 3, none⟩ (.int .i64 xn1) = wz at *
          obtain ⟨r0, r1, r2, r3⟩ := blk4 RZ.out.1
          refine bodyPost_ret (v := .tuple #[.agg #[.slice (some ⟨g, 0, none⟩) a.length cc, .int .i64 PT, .int .i64 xq1, .int .i64 xn1], .int .i64 0]) (by simp [results, Tryz.results102, go_sem, r0, r1, r2, r3]) rfl ?_
          have hl9 := HSL.out
          unfold SomeP
          rw [hl9, HS.out.2.1, HS.out.2.2.1, HS.out.2.2.2]
          exact ⟨_, _, rfl, Lib.hid RZ.out.2.2, RZ.out.2.1⟩
        · skip
          have c1 : ((b.length : Int) == 2) = false := by simp; omega
          rw [if_neg hb2] at HS
          clear hb2
          have X1 := Lib.hid (own_base HSET.out B2.out.size)
          obtain ⟨d0, d1, d2, d3⟩ := blk4 HR.out
          obtain ⟨f0, f1, f2, f3⟩ := frz4 HR.out
          go_wp2_with (go_at_call 124; (with_reducible refine KCH.out.mono ?_); rintro e w' ⟨rfl, rfl⟩)
          have RZ := Lib.hid (And.intro (blk_put4 (u0 := .slice (some ⟨g, 0, none⟩) a.length cc) (u1 := .int .i64 xq) (u2 := .int .i64 xq1) (u3 := .int .i64 xn1) HR.out) (And.intro (bel4 (u0 := .slice (some ⟨g, 0, none⟩) a.length cc) (u1 := .int .i64 xq) (u2 := .int .i64 xq1) (u3 := .int .i64 xn1) HBV.out (Nat.le_refl _)) (own_put4 (u0 := .slice (some ⟨g, 0, none⟩) a.length cc) (u1 := .int .i64 xq) (u2 := .int .i64 xq1) (u3 := .int .i64 xn1) X1.out HR.out)))
          generalize (((ws.setCell ⟨w.heap.size, 0, none⟩ (.slice (some ⟨g, 0, none⟩) a.length cc)).setCell ⟨w.heap.size, 1, none⟩ (.int .i64 xq)).setCell ⟨w.heap.size, 2, none⟩ (.int .i64 xq1)).setCell ⟨w.heap.size, 3, none⟩ (.int .i64 xn1) = wz at *
          obtain ⟨r0, r1, r2, r3⟩ := blk4 RZ.out.1
          refine bodyPost_ret (v := .tuple #[.agg #[.slice (some ⟨g, 0, none⟩) a.length cc, .int .i64 xq, .int .i64 xq1, .int .i64 xn1], .int .i64 0]) (by simp [results, Tryz.results102, go_sem, r0, r1, r2, r3]) rfl ?_
          have hl9 := HSL.out
          unfold SomeP
          rw [hl9, HS.out.2.1, HS.out.2.2.1, HS.out.2.2.2]
          exact ⟨_, _, rfl, Lib.hid RZ.out.2.2, RZ.out.2.1⟩
end Go.Proofs.YtmafgdinegboeaaGreat
