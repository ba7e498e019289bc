/-
  ViewCopies' loop.
-/
import Derived.BigQuiet
import Derived.Deep.DeepBigQuietO
import Derived.Test.YtdefgmkkkeemoaaM09
import Derived.Test.YtdefgmkkkeemoaaM12
import Derived.Test.YtdefgmkkkeemoaaM13
import Derived.Test.YtdefgmkkkeemoaaM20
namespace Go.Proofs.Ytdefgmkkkeemoaa
open Go.RowKit Go.Shelf

set_option maxRecDepth 100000 in
set_option maxHeartbeats 100000000 in
theorem viewcopies_any (HWK : ∀ W : World, Calls Try.prog 29 #[] W fun e w' => e = .returned (.bool true) ∧ Below W.heap.size W w') (bb oo len cap : Nat) (es : Nat → Ak) (w : World) (_hl : len ≤ 9223372036854775807) (hb : bb < w.heap.size) (hT : ∀ i, i < len → AkAt w bb (oo + i * 11) (es i)) (hok : ∀ i, i < len → (es i).ok w) :
    Calls Try.prog 4 #[.slice (some ⟨bb, oo, none⟩) len cap] w fun e w' => e = .returned (.bool true) ∧ Below w.heap.size w w' := by
  have HT := Lib.hid (And.intro hT hok)
  have HK := Lib.hid HWK
  clear hT hok HWK
  go_enter Try.func4, Try.ntmps4
  go_wp2
  go_loopw [3] (fun s3 wr => ∃ k : Nat, k ≤ len ∧ s3 = .int .i64 k ∧ Below w.heap.size w wr) (fun s3 _ => len - (intOf s3).toNat)
  case atStart => exact ⟨0, Nat.zero_le _, rfl, Below.refl _ _⟩
  case round =>
    obtain ⟨k, hk, rfl, hB⟩ := hrel
    have hBs := hB.size
    by_cases g : k < len ∧ k < 15
    · obtain ⟨g1, g2⟩ := g
      obtain ⟨t0, t1, t2, t3, t4, t5, t6, t7, t8, t9, t10⟩ := (HT.out.1 k (by omega)).below hB hb
      obtain ⟨⟨hU, hT, hD, hX, hV, hP, hR⟩, ⟨l0, l1, l2, l3, l4, l5, l6⟩, ⟨a0, a1⟩, ⟨b0, b1⟩, ⟨c0, c1⟩, ⟨f0, f1⟩⟩ := HT.out.2 k (by omega)
      replace hU := hU.below hB
      replace hT := hT.below hB
      replace hD := hD.below hB
      replace hX := hX.below hB
      replace hV := hV.below hB
      replace hP := hP.below hB
      replace hR := hR.below hB
      generalize es k = p at *
      obtain ⟨U, T, D, X, V, P, R, sh, st, ds, ax, s, ts, tds, off, A, B, C⟩ := p
      simp only at t0 t1 t2 t3 t4 t5 t6 t7 t8 t9 t10 hU hT hD hX hV hP hR l0 l1 l2 l3 l4 l5 l6 a0 a1 b0 b1 c0 c1 f0 f1
      obtain ⟨oU, cU, rfl, _, _⟩ := id hU
      obtain ⟨oT, cT, rfl, _, _⟩ := id hT
      obtain ⟨oD, cD, rfl, _, _⟩ := id hD
      obtain ⟨oX, cX, rfl, _, _⟩ := id hX
      obtain ⟨oV, cV, rfl, _, _⟩ := id hV
      obtain ⟨oP, cP, rfl, _, _⟩ := id hP
      obtain ⟨oR, cR, rfl, _, _⟩ := id hR
      have K0 := Lib.hid (fun o => (Below.refl wr.heap.size wr).alloc (Nat.le_refl _) o)
      have LG := Lib.hid (fun (W : World) (hW : Below wr.heap.size wr W) => heavy_any oU cU sh (.slice oT st.length cT) off oD oX oV oP oR ds.length cD ax.length cX s.length cV ts.length cP tds.length cR A B C W (hU.below hW) l0 l2 l3 l4 l5 l6)
      have K4 := Lib.hid (Blk.new wr 30 #[.slice oU sh.length cU, .slice oT st.length cT, .int .i64 off, .slice oD ds.length cD, .slice oX ax.length cX, .slice oV s.length cV, .int .i64 A, .int .i64 B, .int .i64 C, .slice oP ts.length cP, .slice oR tds.length cR])
      cases lg : hvy sh ds.length ax.length s.length ts.length tds.length with
      | true =>
        rw [lg] at LG
        clear lg hU hT hD hX hV hP hR
        go_wp2_with (go_at_call 7; (with_reducible refine (LG.out _ (K0.out _)).mono ?_); rintro e w2 ⟨rfl, hb2⟩; have B2 := (K0.out _).trans (hb2.mono (by simp)); clear hb2)
        go_ret
        exact ⟨rfl, hB.trans (B2.mono hBs)⟩
      | false =>
        rw [lg] at LG
        obtain ⟨m0, m1, m2, m3, m4, m5, m6⟩ := hvy_no lg
        have M6 := Lib.hid m6
        obtain ⟨N, hN⟩ : ∃ N : Nat, (vwb sh st off ds.length && wds ds) = true → (N : Int) = prod sh := ⟨(prod sh).toNat, fun h => by
          simp only [Bool.and_eq_true] at h
          have := may_prod (vwb_iff.1 h.1).1
          omega⟩
        have HN := Lib.hid hN
        clear hN
        obtain ⟨FR, hFR⟩ : ∃ FR : World → Prop, FR = fun W => Below wr.heap.size wr W ∧ Blk W wr.heap.size 30 #[.slice oU sh.length cU, .slice oT st.length cT, .int .i64 off, .slice oD ds.length cD, .slice oX ax.length cX, .slice oV s.length cV, .int .i64 A, .int .i64 B, .int .i64 C, .slice oP ts.length cP, .slice oR tds.length cR] := ⟨_, rfl⟩
        have FRb : Hid (∀ W, FR W → Below wr.heap.size wr W) := Lib.hid (fun W h => by rw [hFR] at h; exact h.1)
        have FRk := Lib.hid (fun (W : World) (h : FR W) => blk11 (by rw [hFR] at h; exact h.2 : Blk W wr.heap.size 30 #[.slice oU sh.length cU, .slice oT st.length cT, .int .i64 off, .slice oD ds.length cD, .slice oX ax.length cX, .slice oV s.length cV, .int .i64 A, .int .i64 B, .int .i64 C, .slice oP ts.length cP, .slice oR tds.length cR]))
        have FRl : Hid (∀ W, FR W → wr.heap.size < W.heap.size) := Lib.hid (fun W h => by rw [hFR] at h; exact h.2.lt)
        have FRn : Hid (∀ W W', FR W → Below W.heap.size W W' → FR W') := Lib.hid (fun W W' h hb => by rw [hFR] at h ⊢; exact ⟨h.1.trans (hb.mono h.1.size), h.2.below hb h.2.lt⟩)
        have FRs : Hid (∀ W', Below (wr.alloc (.cells #[.slice oU sh.length cU, .slice oT st.length cT, .int .i64 off, .slice oD ds.length cD, .slice oX ax.length cX, .slice oV s.length cV, .int .i64 A, .int .i64 B, .int .i64 C, .slice oP ts.length cP, .slice oR tds.length cR] 30)).heap.size (wr.alloc (.cells #[.slice oU sh.length cU, .slice oT st.length cT, .int .i64 off, .slice oD ds.length cD, .slice oX ax.length cX, .slice oV s.length cV, .int .i64 A, .int .i64 B, .int .i64 C, .slice oP ts.length cP, .slice oR tds.length cR] 30)) W' → FR W') := Lib.hid (fun W' hb => by rw [hFR]; exact ⟨(K0.out _).trans (hb.mono (by simp)), K4.out.below hb (by simp)⟩)
        have FRc : Hid (∀ W b i v, FR W → wr.heap.size < b → FR (W.setCell ⟨b, i, none⟩ v)) := Lib.hid (fun W b i v h hb => by rw [hFR] at h ⊢; exact ⟨h.1.setCell (p := ⟨b, i, none⟩) (Nat.le_of_lt hb) v, h.2.far (p := ⟨b, i, none⟩) (Nat.ne_of_lt hb) v⟩)
        clear hFR
        have KM : Hid (∀ (W : World) (_ : Below wr.heap.size wr W), Calls Try.prog 9 #[.agg #[.slice oU sh.length cU, .slice oT st.length cT, .int .i64 off], .int .i64 (ds.length : Int)] W fun e w' => e = .returned (.bool (vwb sh st off ds.length)) ∧ Below W.heap.size W w') := Lib.hid (fun W hW => rmayview_any _ _ sh st off ds.length W (hU.below hW) (hT.below hW) (by omega) (by omega))
        have KD := Lib.hid (fun (W : World) (hW : Below wr.heap.size wr W) => words_any _ ds W (hD.below hW) (by omega))
        have KM8 := Lib.hid (fun (W : World) (hW : Below wr.heap.size wr W) => rmay8_any _ _ ts tds W (hP.below hW) (hR.below hW) (by omega) (by omega))
        have KRC := Lib.hid (fun (hG : (vwb sh st off ds.length && wds ds) = true) (W : World) (hW : Below wr.heap.size wr W) => rcopyt_any _ _ _ sh st ds off N W (hU.below hW) (hT.below hW) (hD.below hW) (vwb_iff.1 (by simp only [Bool.and_eq_true] at hG; exact hG.1)) (HN.out hG))
        have KEN := Lib.hid (fun (W : World) (hW : Below wr.heap.size wr W) => eqn_any _ _ ts sh W (hP.below hW) (hU.below hW) (by omega) (by omega))
        have KON := Lib.hid (fun (hG : (vwb sh st off ds.length && wds ds) = true) (W : World) (hW : Below wr.heap.size wr W) => ronce_any _ _ sh st off ds.length N W (hU.below hW) (hT.below hW) (vwb_iff.1 (by simp only [Bool.and_eq_true] at hG; exact hG.1)) (HN.out hG))
        have KRL := Lib.hid (fun (hG : (vwb sh st off ds.length && wds ds) = true) (htl : tds.length = N) (W : World) (hW : Below wr.heap.size wr W) => rlay_any (.slice oU sh.length cU) (.slice oT st.length cT) (.slice oP ts.length cP) (.slice oR tds.length cR) _ sh st tds ds off N W (hU.below hW) (hT.below hW) (hR.below hW) (hD.below hW) (vwb_iff.1 (by simp only [Bool.and_eq_true] at hG; exact hG.1)) (HN.out hG) htl)
        have KCW := Lib.hid (fun (W : World) (hW : Below wr.heap.size wr W) => copywords_any _ ds W (hD.below hW) (by omega))
        obtain ⟨e1, he1⟩ : ∃ e : Int, e = if vwb sh st off ds.length && wds ds then 0 else 1 := ⟨_, rfl⟩
        obtain ⟨e2, he2⟩ : ∃ e : Int, e = lye sh st ts tds ds off N := ⟨_, rfl⟩
        obtain ⟨l1', hl1⟩ : ∃ e : Int, e = if tnb ts tds then e1 else 1 := ⟨_, rfl⟩
        have E1 := Lib.hid he1
        have E2 := Lib.hid he2
        have EL := Lib.hid hl1
        have KCP : Hid (∀ (W : World) (v : Value), Ld W v ds → Below wr.heap.size wr W → Calls Try.prog 37 #[.agg #[.slice oU sh.length cU, .slice oT st.length cT, .int .i64 off], v] W (SomeT W e1 (unl e1 sh) (unl e1 (cps sh st off ds N)))) := Lib.hid (fun W v hv hW => copy_both _ _ v sh st ds off N W (hU.below hW) (hT.below hW) hv (by omega) (by omega) (by omega) HN.out he1)
        have KLY : Hid (∀ (W : World) (v : Value), Ld W v ds → Below wr.heap.size wr W → Calls Try.prog 38 #[.agg #[.slice oU sh.length cU, .slice oT st.length cT, .int .i64 off], .agg #[.slice oP ts.length cP, .slice oR tds.length cR], v] W (SomeLd W e2 (unl e2 (lys sh st off ds tds N)))) := Lib.hid (fun W v hv hW => lay_both _ _ _ _ v sh st ts tds ds off N W (hU.below hW) (hT.below hW) (hP.below hW) (hR.below hW) hv (by omega) (by omega) (by omega) (by omega) (by omega) HN.out he2)
        have HDD := Lib.hid (fun (W : World) (hW : Below wr.heap.size wr W) => hD.below hW)
        clear lg hU hT hD hX hV hP hR m6 he1 he2 hl1
        go_upto_region 8 with (first | (go_at_call 7; (with_reducible refine (LG.out _ (K0.out _)).mono ?_); rintro e w2 ⟨rfl, hb2⟩; have F2 := Lib.hid (FRs.out _ hb2); obtain ⟨x0, x1, x2, x3, x4, x5, x6, x7, x8, x9, x10⟩ := FRk.out _ F2.out; clear hb2))
        go_cut [42] (fun s42 wx => s42 = .bool (!(vwb sh st off ds.length && wds ds)) ∧ Hid (FR wx))
        case first => as_aux_lemma =>
          cases hv : vwb sh st off ds.length with
          | false =>
            rw [hv] at KM
            go_wp2_with (first | (go_at_call 9; (with_reducible refine (KM.out _ (FRb.out _ F2.out)).mono ?_); rintro e w3 ⟨rfl, hb3⟩; have F3 := Lib.hid (FRn.out _ _ F2.out hb3); obtain ⟨x0, x1, x2, x3, x4, x5, x6, x7, x8, x9, x10⟩ := FRk.out _ F3.out; clear hb3))
            go_meet
            exact ⟨by simp [hv], F3⟩
          | true =>
            rw [hv] at KM
            cases hw : wds ds with
            | false =>
              rw [hw] at KD
              go_wp2_with (first | (go_at_call 9; (with_reducible refine (KM.out _ (FRb.out _ F2.out)).mono ?_); rintro e w3 ⟨rfl, hb3⟩; have F3 := Lib.hid (FRn.out _ _ F2.out hb3); obtain ⟨x0, x1, x2, x3, x4, x5, x6, x7, x8, x9, x10⟩ := FRk.out _ F3.out; clear hb3) | (go_at_call 30; (with_reducible refine (KD.out _ (FRb.out _ F3.out)).mono ?_); rintro e w' ⟨rfl, rfl⟩))
              go_meet
              exact ⟨by simp [hv, hw], F3⟩
            | true =>
              rw [hw] at KD
              go_wp2_with (first | (go_at_call 9; (with_reducible refine (KM.out _ (FRb.out _ F2.out)).mono ?_); rintro e w3 ⟨rfl, hb3⟩; have F3 := Lib.hid (FRn.out _ _ F2.out hb3); obtain ⟨x0, x1, x2, x3, x4, x5, x6, x7, x8, x9, x10⟩ := FRk.out _ F3.out; clear hb3) | (go_at_call 30; (with_reducible refine (KD.out _ (FRb.out _ F3.out)).mono ?_); rintro e w' ⟨rfl, rfl⟩))
              go_meet
              exact ⟨by simp [hv, hw], F3⟩
        case rest => as_aux_lemma =>
          obtain ⟨rfl, F4⟩ := hcut
          clear LG KM KD K0 K4 F2 x0 x1 x2 x3 x4 x5 x6 x7 x8 x9 x10
          go_upto_if 42 with fail
          go_cut [5] (fun s5 wx => s5 = .int .i64 e1 ∧ wc = wx)
          case first => as_aux_lemma =>
            cases hG : (vwb sh st off ds.length && wds ds) with
            | false => go_wp2; go_meet; exact ⟨by rw [E1.out, hG]; rfl, rfl⟩
            | true => go_wp2; go_meet; exact ⟨by rw [E1.out, hG]; rfl, rfl⟩
          case rest => as_aux_lemma =>
            obtain ⟨rfl, rfl⟩ := hcut
            obtain ⟨x0, x1, x2, x3, x4, x5, x6, x7, x8, x9, x10⟩ := FRk.out _ F4.out
            go_upto_if 47 with (go_at_call 31; (with_reducible refine (KM8.out _ (FRb.out _ F4.out)).mono ?_); rintro e w5 ⟨rfl, hb5⟩; have F5 := Lib.hid (FRn.out _ _ F4.out hb5); clear hb5)
            go_cut [6] (fun s6 wx => s6 = .int .i64 l1' ∧ w5 = wx)
            case first => as_aux_lemma =>
              cases htn : tnb ts tds with
              | false => go_wp2; go_meet; exact ⟨by rw [EL.out, htn]; rfl, rfl⟩
              | true => go_wp2; go_meet; exact ⟨by rw [EL.out, htn]; rfl, rfl⟩
            case rest => as_aux_lemma =>
              obtain ⟨rfl, rfl⟩ := hcut
              clear x0 x1 x2 x3 x4 x5 x6 x7 x8 x9 x10 KM8 F4
              have f5l := FRl.out _ F5.out
              have F6 := Lib.hid (FRn.out _ _ F5.out ((Below.refl _ _).alloc (Nat.le_refl _) (.cells #[.slice none 0 0, .slice none 0 0] 28)))
              have K7 := Lib.hid (Blk.new w5 28 #[.slice none 0 0, .slice none 0 0])
              obtain ⟨x0, x1, x2, x3, x4, x5, x6, x7, x8, x9, x10⟩ := FRk.out _ F6.out
              go_upto_if 49 with fail
              go_cut [54] (fun _ wx => Hid (FR wx) ∧ ∃ os cs od cd, Hid (Blk wx w5.heap.size 28 #[.slice os (unl e1 sh).length cs, .slice od (unl e1 (cps sh st off ds N)).length cd] ∧ Ld wx (.slice os (unl e1 sh).length cs) (unl e1 sh) ∧ Ld wx (.slice od (unl e1 (cps sh st off ds N)).length cd) (unl e1 (cps sh st off ds N))))
              case first => as_aux_lemma =>
                cases hG : (vwb sh st off ds.length && wds ds) with
                | false =>
                  obtain rfl : e1 = 1 := by rw [E1.out, hG]; rfl
                  go_wp2
                  go_meet
                  exact ⟨F6, none, 0, none, 0, K7.out, Ld.nil _, Ld.nil _⟩
                | true =>
                  obtain rfl : e1 = 0 := by rw [E1.out, hG]; rfl
                  go_wp2_with (go_at_call 32; (with_reducible refine (KRC.out hG _ (FRb.out _ F6.out)).mono ?_); rintro e w7 ⟨os, cs, od, cd, rfl, h1, h2, hb7⟩; have F7 := Lib.hid (FRn.out _ _ F6.out hb7); have K8 := Lib.hid (K7.out.below hb7 K7.out.lt); obtain ⟨u0, u1, uf0, uf1⟩ := blk2 K8.out; have V7 := Lib.hid (And.intro h1 h2); clear h1 h2 hb7)
                  go_meet
                  exact ⟨FRc.out _ _ _ _ (FRc.out _ _ _ _ F7.out f5l) f5l, os, cs, od, cd, (K8.out.set_ 0 _).set_ 1 _, ld_sets K8.out V7.out.1, ld_sets K8.out V7.out.2⟩
              case rest => as_aux_lemma =>
                obtain ⟨F8, oWS, cWS, oWD, cWD, KW⟩ := hcut
                obtain ⟨w8, hw8⟩ : ∃ w8, w8 = wc := ⟨wc, rfl⟩
                subst hw8
                clear x0 x1 x2 x3 x4 x5 x6 x7 x8 x9 x10 F6 K7 KRC F5 f5l
                obtain ⟨T7, hT7⟩ : ∃ T7, T7 = w5.heap.size := ⟨_, rfl⟩
                rw [← hT7] at KW
                rw [← hT7]
                clear hT7
                obtain ⟨x0, x1, x2, x3, x4, x5, x6, x7, x8, x9, x10⟩ := FRk.out _ F8.out
                go_upto_if 56 with fail
                go_cut [6, 8] (fun s6 s8 wx => ∃ oA cA, s6 = .int .i64 e2 ∧ s8 = .slice oA (unl e2 (lys sh st off ds tds N)).length cA ∧ Hid (Ld wx (.slice oA (unl e2 (lys sh st off ds tds N)).length cA) (unl e2 (lys sh st off ds tds N))) ∧ Hid (Below w8.heap.size w8 wx))
                case first => as_aux_lemma =>
                  have R0 := Lib.hid (Below.refl w8.heap.size w8)
                  cases hG : (vwb sh st off ds.length && wds ds) with
                  | false =>
                    obtain rfl : e1 = 1 := by rw [E1.out, hG]; rfl
                    obtain rfl : e2 = 1 := by rw [E2.out]; unfold lye; rw [hG]; rfl
                    obtain rfl : l1' = 1 := by rw [EL.out]; split <;> rfl
                    go_wp2
                    go_meet
                    exact ⟨none, 0, rfl, rfl, Ld.nil _, R0.out⟩
                  | true =>
                    obtain rfl : e1 = 0 := by rw [E1.out, hG]; rfl
                    cases htn : tnb ts tds with
                    | false =>
                      obtain rfl : e2 = 1 := by rw [E2.out]; unfold lye; rw [hG, htn]; rfl
                      obtain rfl : l1' = 1 := by rw [EL.out, htn]; rfl
                      go_wp2
                      go_meet
                      exact ⟨none, 0, rfl, rfl, Ld.nil _, R0.out⟩
                    | true =>
                      obtain rfl : l1' = 0 := by rw [EL.out, htn]; rfl
                      have KON2 := Lib.hid (KON.out hG)
                      have htl : ts = sh → tds.length = N := fun e => by
                        subst e
                        have h1 := HN.out hG
                        unfold tnb at htn
                        simp only [Bool.and_eq_true, decide_eq_true_eq] at htn
                        omega
                      by_cases hq : ts = sh
                      · rw [decide_eq_true hq] at KEN
                        have KRL2 := Lib.hid (KRL.out hG (htl hq))
                        cases hdp : dup sh st off N with
                        | true =>
                          rw [hdp] at KON2
                          obtain rfl : e2 = 2 := by rw [E2.out]; unfold lye; rw [hG, htn, decide_eq_true hq, hdp]; rfl
                          clear hq htl hG htn
                          go_wp2_with (first | (go_at_call 33; (with_reducible refine (KEN.out _ (FRb.out _ F8.out)).mono ?_); rintro e wq1 ⟨rfl, hbq⟩; have G1 := Lib.hid (FRn.out _ _ F8.out hbq); have RB1 := Lib.hid hbq; clear hbq; obtain ⟨x0, x1, x2, x3, x4, x5, x6, x7, x8, x9, x10⟩ := FRk.out _ G1.out) | (go_at_call 34; (with_reducible refine (KON2.out _ (FRb.out _ G1.out)).mono ?_); rintro e wq2 ⟨rfl, hbq⟩; have G2 := Lib.hid (FRn.out _ _ G1.out hbq); have RB2 := Lib.hid (RB1.out.trans (hbq.mono RB1.out.size)); clear hbq; obtain ⟨x0, x1, x2, x3, x4, x5, x6, x7, x8, x9, x10⟩ := FRk.out _ G2.out))
                          go_meet
                          exact ⟨none, 0, rfl, rfl, Ld.nil _, RB2.out⟩
                        | false =>
                          rw [hdp] at KON2
                          obtain rfl : e2 = 0 := by rw [E2.out]; unfold lye; rw [hG, htn, decide_eq_true hq, hdp]; rfl
                          clear hq htl hG htn
                          go_wp2_with (first | (go_at_call 33; (with_reducible refine (KEN.out _ (FRb.out _ F8.out)).mono ?_); rintro e wq1 ⟨rfl, hbq⟩; have G1 := Lib.hid (FRn.out _ _ F8.out hbq); have RB1 := Lib.hid hbq; clear hbq; obtain ⟨x0, x1, x2, x3, x4, x5, x6, x7, x8, x9, x10⟩ := FRk.out _ G1.out) | (go_at_call 34; (with_reducible refine (KON2.out _ (FRb.out _ G1.out)).mono ?_); rintro e wq2 ⟨rfl, hbq⟩; have G2 := Lib.hid (FRn.out _ _ G1.out hbq); have RB2 := Lib.hid (RB1.out.trans (hbq.mono RB1.out.size)); clear hbq; obtain ⟨x0, x1, x2, x3, x4, x5, x6, x7, x8, x9, x10⟩ := FRk.out _ G2.out) | (go_at_call 35; (with_reducible refine (KRL2.out _ (FRb.out _ G2.out)).mono ?_); rintro e wq3 ⟨oA, cA, rfl, _, hla, hbq⟩; have LA := Lib.hid hla; have RB3 := Lib.hid (RB2.out.trans (hbq.mono RB2.out.size)); clear hbq hla))
                          go_meet
                          exact ⟨oA, cA, rfl, rfl, LA.out, RB3.out⟩
                      · rw [decide_eq_false hq] at KEN
                        obtain rfl : e2 = 2 := by rw [E2.out]; unfold lye; rw [hG, htn, decide_eq_false hq]; rfl
                        clear hq htl hG htn
                        go_wp2_with (first | (go_at_call 33; (with_reducible refine (KEN.out _ (FRb.out _ F8.out)).mono ?_); rintro e wq1 ⟨rfl, hbq⟩; have G1 := Lib.hid (FRn.out _ _ F8.out hbq); have RB1 := Lib.hid hbq; clear hbq; obtain ⟨x0, x1, x2, x3, x4, x5, x6, x7, x8, x9, x10⟩ := FRk.out _ G1.out))
                        go_meet
                        exact ⟨none, 0, rfl, rfl, Ld.nil _, RB1.out⟩
                case rest => as_aux_lemma =>
                  obtain ⟨oA, cA, rfl, rfl, LA, RA⟩ := hcut
                  obtain ⟨w9, hw9⟩ : ∃ w9, w9 = wc := ⟨wc, rfl⟩
                  subst hw9
                  clear x0 x1 x2 x3 x4 x5 x6 x7 x8 x9 x10
                  have F9 := Lib.hid (FRn.out _ _ F8.out RA.out)
                  have KW9 := Lib.hid (And.intro (KW.out.1.below RA.out KW.out.1.lt) (And.intro (KW.out.2.1.below RA.out) (KW.out.2.2.below RA.out)))
                  have BN := Lib.hid (Below.refl w9.heap.size w9)
                  have LE1 : Hid ((unl e1 sh).length ≤ 65536 ∧ (unl e1 (cps sh st off ds N)).length ≤ 65536) := by
                    cases hG : (vwb sh st off ds.length && wds ds) with
                    | false =>
                      obtain rfl : e1 = 1 := by rw [E1.out, hG]; rfl
                      exact Lib.hid ⟨by simp [unl], by simp [unl]⟩
                    | true =>
                      obtain rfl : e1 = 0 := by rw [E1.out, hG]; rfl
                      have hq := HN.out hG
                      simp only [Bool.and_eq_true] at hG
                      have hq2 := may_prod (vwb_iff.1 hG.1).1
                      exact Lib.hid ⟨by simp [unl]; omega, by simp [unl, cps_len]; omega⟩
                  have LE2 : Hid ((unl e2 (lys sh st off ds tds N)).length ≤ 65536) := by
                    unfold unl
                    split
                    · exact Lib.hid (by rw [lys_len]; omega)
                    · exact Lib.hid (by simp)
                  clear KW F8 RA KON KRL KEN EL E1 E2 HN
                  generalize unl e1 sh = W1 at *
                  generalize unl e1 (cps sh st off ds N) = W2 at *
                  generalize unl e2 (lys sh st off ds tds N) = A1 at *
                  obtain ⟨x0, x1, x2, x3, x4, x5, x6, x7, x8, x9, x10⟩ := FRk.out _ F9.out
                  go_wp2_with (first
                    | (go_at_call 36; (with_reducible refine (KCW.out _ (FRb.out _ F9.out)).mono ?_); rintro e wd ⟨oN, cN, rfl, _, hN1, hb⟩; have FD := Lib.hid (FRn.out _ _ F9.out hb); have DN := Lib.hid hN1; have KWd := Lib.hid (And.intro (KW9.out.1.below hb KW9.out.1.lt) (And.intro (KW9.out.2.1.below hb) (And.intro (KW9.out.2.2.below hb) (LA.out.below hb)))); obtain ⟨x0, x1, x2, x3, x4, x5, x6, x7, x8, x9, x10⟩ := FRk.out _ FD.out; clear hb hN1)
                    | (go_at_call 37; (with_reducible refine (KCP.out _ _ DN.out (FRb.out _ FD.out)).mono ?_); rintro e we ⟨os, cs, od, cd, rfl, h1, h2, hb⟩; have FE := Lib.hid (FRn.out _ _ FD.out hb); have BE := Lib.hid hb; have H1 := Lib.hid (And.intro h1 h2); have fel := FRl.out _ FE.out; have t7e : T7 < we.heap.size := Nat.lt_of_lt_of_le KWd.out.1.lt hb.size; obtain ⟨x0, x1, x2, x3, x4, x5, x6, x7, x8, x9, x10⟩ := FRk.out _ FE.out; clear hb h1 h2)
                    | (go_at_call 38; (with_reducible refine (KLY.out _ _ (DN.out.below (BE.out.alloc BE.out.size _)) (FRb.out _ (FRn.out _ _ FE.out ((Below.refl _ _).alloc (Nat.le_refl _) _)))).mono ?_); rintro e wf ⟨oy, cy, rfl, hy, hb⟩; have FF := Lib.hid (FRn.out _ _ (FRn.out _ _ FE.out ((Below.refl _ _).alloc (Nat.le_refl _) (.cells #[.slice os W1.length cs, .slice od W2.length cd] 28))) hb); have BF := Lib.hid ((BE.out.alloc BE.out.size (.cells #[.slice os W1.length cs, .slice od W2.length cd] 28)).trans (hb.mono (by have := BE.out.size; simp; omega))); have K10 := Lib.hid ((Blk.new we 28 #[.slice os W1.length cs, .slice od W2.length cd]).below hb (by simp)); have H1f := Lib.hid (And.intro (Below.keepOwn (H1.out.1.alloc _) hb (Nat.le_refl _)) (Below.keepOwn (H1.out.2.alloc _) hb (Nat.le_refl _))); have HY := Lib.hid (own_base hy (show we.heap.size ≤ _ by simp)); have AP := Lib.hid (And.intro (own_apart H1.out.1 (own_base hy (show we.heap.size ≤ _ by simp)) (Nat.le_refl _)).2 (own_apart H1.out.2 (own_base hy (show we.heap.size ≤ _ by simp)) (Nat.le_refl _)).2); obtain ⟨v0, v1, _⟩ := blk2 K10.out; obtain ⟨u0, u1, _⟩ := blk2 (KWd.out.1.below BF.out KWd.out.1.lt); clear hb hy)
                    | (go_at_call 27; (with_reducible refine (num7_any _ _).mono ?_); rintro e w' ⟨rfl, rfl⟩)
                    | (go_at_call 39; (with_reducible refine (eqtensor_same _ _ _ _ W1 W2 _ (ld_own H1f.out.1) (ld_own H1f.out.2) (KWd.out.2.1.below BF.out) (KWd.out.2.2.1.below BF.out) (by have := LE1.out.1; omega) (by have := LE1.out.2; omega)).mono ?_); rintro e wg ⟨rfl, hb⟩; have BG := Lib.hid (BF.out.trans (hb.mono BF.out.size)); have HFG := Lib.hid hb; clear hb)
                    | (go_at_call 40; (with_reducible refine (eqw_same _ _ A1 _ ((ld_own HY.out).below HFG.out) (KWd.out.2.2.2.below BG.out) (by have := LE2.out; omega)).mono ?_); rintro e wh ⟨rfl, hb⟩; have BH := Lib.hid (BG.out.trans (hb.mono BG.out.size)); have HFH := Lib.hid (HFG.out.trans (hb.mono HFG.out.size)); obtain ⟨v0, v1, _⟩ := blk2 (K10.out.below HFH.out K10.out.lt); clear hb)
                    | (go_at_call 41; (with_reducible refine (spoilt_any wd.heap.size _ _ W1 W2 _ (Below.keepOwn H1f.out.1 HFH.out (Nat.le_refl _)) (Below.keepOwn H1f.out.2 HFH.out (Nat.le_refl _)) BH.out.size LE1.out.1 LE1.out.2).mono ?_); rintro e wi ⟨rfl, hb, kr⟩; have BI := Lib.hid (BH.out.trans hb); have wei : we.heap.size ≤ wi.heap.size := Nat.le_trans (Nat.le_trans (Nat.le_of_lt K10.out.lt) HFH.out.size) hb.size; have YI := Lib.hid (kr _ _ _ _ _ (Below.keepOwn HY.out HFH.out (Nat.le_refl _)) AP.out.1 AP.out.2); clear hb kr)
                    | (go_at_call 42; (with_reducible refine (wordso_any we.heap.size _ A1 _ YI.out wei LE2.out).mono ?_); rintro e wj ⟨rfl, hg⟩; have BJ := Lib.hid (BI.out.grown hg (BI.out.size) (fun g e => Nat.le_trans BE.out.size (YI.out.lt g e).1)); have FJ := Lib.hid (FRn.out _ _ FD.out BJ.out); obtain ⟨x0, x1, x2, x3, x4, x5, x6, x7, x8, x9, x10⟩ := FRk.out _ FJ.out; clear hg)
                    | (go_at_call 40; (with_reducible refine (eqw_same _ _ ds _ (DN.out.below BJ.out) (HDD.out _ (FRb.out _ FJ.out)) (by omega)).mono ?_); rintro e wk ⟨rfl, hb⟩; have FK := Lib.hid (FRn.out _ _ FJ.out hb); clear hb))
                  exact ⟨⟨k + 1, by omega, by go_num, hB.trans ((FRb.out _ FK.out).mono hBs)⟩, by simp [intOf]; omega⟩
    · as_aux_lemma =>
      by_cases g1 : k < len
      · have g2 : 15 ≤ k := by omega
        clear g
        go_wp2_with (go_at_call 29; (with_reducible refine (HK.out _).mono ?_); rintro e w9 ⟨rfl, hb9⟩)
        go_ret
        exact ⟨rfl, hB.trans (hb9.mono hBs)⟩
      · have g2 : len ≤ k := by omega
        clear g g1
        go_wp2_with (go_at_call 29; (with_reducible refine (HK.out _).mono ?_); rintro e w9 ⟨rfl, hb9⟩)
        go_ret
        exact ⟨rfl, hB.trans (hb9.mono hBs)⟩
end Go.Proofs.Ytdefgmkkkeemoaa
