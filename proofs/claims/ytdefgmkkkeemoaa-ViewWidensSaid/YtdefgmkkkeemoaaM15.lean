/-
  ViewWidens' loop.
-/
import Derived.BigQuiet
import Derived.Deep.DeepBigQuietO
import Derived.Test.YtdefgmkkkeemoaaM09
import Derived.Test.YtdefgmkkkeemoaaM12
import Derived.Test.YtdefgmkkkeemoaaM13
import Derived.Test.YtdefgmkkkeemoaaM14
namespace Go.Proofs.Ytdefgmkkkeemoaa
open Go.RowKit Go.Shelf

set_option maxRecDepth 100000 in
set_option maxHeartbeats 100000000 in
theorem viewwidens_any (HWK : ∀ W : World, Calls Try.prog 29 #[] W fun e w' => e = .returned (.bool true) ∧ Below W.heap.size W w') (bb oo len cap : Nat) (es : Nat → Ak) (w : World) (_hl : len ≤ 9223372036854775807) (hb : bb < w.heap.size) (hT : ∀ i, i < len → AkAt w bb (oo + i * 11) (es i)) (hok : ∀ i, i < len → (es i).ok w) :
    Calls Try.prog 6 #[.slice (some ⟨bb, oo, none⟩) len cap] w fun e w' => e = .returned (.bool true) ∧ Below w.heap.size w w' := by
  have HT := Lib.hid (And.intro hT hok)
  have HK := Lib.hid HWK
  clear hT hok HWK
  go_enter Try.func6, Try.ntmps6
  go_wp2
  go_loopw [3] (fun s3 wr => ∃ k : Nat, k ≤ len ∧ s3 = .int .i64 k ∧ Below w.heap.size w wr) (fun s3 _ => len - (intOf s3).toNat)
  case atStart => exact ⟨0, Nat.zero_le _, rfl, Below.refl _ _⟩
  case round =>
    obtain ⟨k, hk, rfl, hB⟩ := hrel
    have hBs := hB.size
    by_cases g : k < len ∧ k < 15
    · obtain ⟨g1, g2⟩ := g
      obtain ⟨t0, t1, t2, t3, t4, t5, t6, t7, t8, t9, t10⟩ := (HT.out.1 k (by omega)).below hB hb
      obtain ⟨⟨hU, hT, hD, hX, hV, hP, hR⟩, ⟨l0, l1, l2, l3, l4, l5, l6⟩, ⟨a0, a1⟩, ⟨b0, b1⟩, ⟨c0, c1⟩, ⟨f0, f1⟩⟩ := HT.out.2 k (by omega)
      replace hU := hU.below hB
      replace hT := hT.below hB
      replace hD := hD.below hB
      replace hX := hX.below hB
      replace hV := hV.below hB
      replace hP := hP.below hB
      replace hR := hR.below hB
      generalize es k = p at *
      obtain ⟨U, T, D, X, V, P, R, sh, st, ds, ax, s, ts, tds, off, A, B, C⟩ := p
      simp only at t0 t1 t2 t3 t4 t5 t6 t7 t8 t9 t10 hU hT hD hX hV hP hR l0 l1 l2 l3 l4 l5 l6 a0 a1 b0 b1 c0 c1 f0 f1
      obtain ⟨oU, cU, rfl, _, _⟩ := id hU
      obtain ⟨oT, cT, rfl, _, _⟩ := id hT
      obtain ⟨oD, cD, rfl, _, _⟩ := id hD
      obtain ⟨oX, cX, rfl, _, _⟩ := id hX
      obtain ⟨oV, cV, rfl, _, _⟩ := id hV
      obtain ⟨oP, cP, rfl, _, _⟩ := id hP
      obtain ⟨oR, cR, rfl, _, _⟩ := id hR
      have K0 := Lib.hid (fun o => (Below.refl wr.heap.size wr).alloc (Nat.le_refl _) o)
      have LG := Lib.hid (fun (W : World) (hW : Below wr.heap.size wr W) => heavy_any oU cU sh (.slice oT st.length cT) off oD oX oV oP oR ds.length cD ax.length cX s.length cV ts.length cP tds.length cR A B C W (hU.below hW) l0 l2 l3 l4 l5 l6)
      have K4 := Lib.hid (Blk.new wr 30 #[.slice oU sh.length cU, .slice oT st.length cT, .int .i64 off, .slice oD ds.length cD, .slice oX ax.length cX, .slice oV s.length cV, .int .i64 A, .int .i64 B, .int .i64 C, .slice oP ts.length cP, .slice oR tds.length cR])
      cases lg : hvy sh ds.length ax.length s.length ts.length tds.length with
      | true =>
        rw [lg] at LG
        clear lg hU hT hD hX hV hP hR
        go_wp2_with (go_at_call 7; (with_reducible refine (LG.out _ (K0.out _)).mono ?_); rintro e w2 ⟨rfl, hb2⟩; have B2 := (K0.out _).trans (hb2.mono (by simp)); clear hb2)
        go_ret
        exact ⟨rfl, hB.trans (B2.mono hBs)⟩
      | false =>
        rw [lg] at LG
        obtain ⟨m0, m1, m2, m3, m4, m5, m6⟩ := hvy_no lg
        have HL := Lib.hid (And.intro hU (And.intro hT (And.intro hD hX)))
        have KM : Hid (∀ (W : World) (_ : Below wr.heap.size wr W), Calls Try.prog 9 #[.agg #[.slice oU sh.length cU, .slice oT st.length cT, .int .i64 off], .int .i64 (ds.length : Int)] W fun e w' => e = .returned (.bool (vwb sh st off ds.length)) ∧ Below W.heap.size W w') := Lib.hid (fun W hW => rmayview_any _ _ sh st off ds.length W (hU.below hW) (hT.below hW) (by omega) (by omega))
        have KD := Lib.hid (fun (W : World) (hW : Below wr.heap.size wr W) => words_any _ ds W (hD.below hW) (by omega))
        have M6 := Lib.hid m6
        clear lg hX hV hP hR m6
        cases hv : vwb sh st off ds.length with
        | false =>
          rw [hv] at KM
          clear hv hU hT hD
          go_wp2_with (first | (go_at_call 7; (with_reducible refine (LG.out _ (K0.out _)).mono ?_); rintro e w2 ⟨rfl, hb2⟩; have B2 := (K0.out _).trans (hb2.mono (by simp)); replace K4 := Lib.hid (K4.out.below hb2 (by simp)); obtain ⟨x0, x1, x2, x3, x4, x5, x6, x7, x8, x9, x10⟩ := blk11 K4.out; have z4 := K4.out.lt; clear hb2) | (go_at_call 9; (with_reducible refine (KM.out _ B2).mono ?_); rintro e w3 ⟨rfl, hb3⟩; have B3 := B2.trans (hb3.mono B2.size); replace K4 := Lib.hid (K4.out.below hb3 z4); obtain ⟨x0, x1, x2, x3, x4, x5, x6, x7, x8, x9, x10⟩ := blk11 K4.out; replace z4 := K4.out.lt; clear hb3))
          exact ⟨⟨k + 1, by omega, by go_num, hB.trans (B3.mono hBs)⟩, by simp [intOf]; omega⟩
        | true =>
          rw [hv] at KM
          cases hw : wds ds with
          | false =>
            rw [hw] at KD
            clear hv hw hU hT hD
            go_wp2_with (first | (go_at_call 7; (with_reducible refine (LG.out _ (K0.out _)).mono ?_); rintro e w2 ⟨rfl, hb2⟩; have B2 := (K0.out _).trans (hb2.mono (by simp)); replace K4 := Lib.hid (K4.out.below hb2 (by simp)); obtain ⟨x0, x1, x2, x3, x4, x5, x6, x7, x8, x9, x10⟩ := blk11 K4.out; have z4 := K4.out.lt; clear hb2) | (go_at_call 9; (with_reducible refine (KM.out _ B2).mono ?_); rintro e w3 ⟨rfl, hb3⟩; have B3 := B2.trans (hb3.mono B2.size); replace K4 := Lib.hid (K4.out.below hb3 z4); obtain ⟨x0, x1, x2, x3, x4, x5, x6, x7, x8, x9, x10⟩ := blk11 K4.out; replace z4 := K4.out.lt; clear hb3) | (go_at_call 30; (with_reducible refine (KD.out _ B3).mono ?_); rintro e w' ⟨rfl, rfl⟩))
            exact ⟨⟨k + 1, by omega, by go_num, hB.trans (B3.mono hBs)⟩, by simp [intOf]; omega⟩
          | true =>
            rw [hw] at KD
            have hVw := vwb_iff.1 hv
            have l4 := may_len hVw.1
            by_cases h4 : sh.length = 4
            · have b4 : ((sh.length : Int) == 4) = true := by rw [beq_iff_eq]; omega
              clear hv hw hU hT hD hVw l4 h4
              go_wp2_with (first | (go_at_call 7; (with_reducible refine (LG.out _ (K0.out _)).mono ?_); rintro e w2 ⟨rfl, hb2⟩; have B2 := (K0.out _).trans (hb2.mono (by simp)); replace K4 := Lib.hid (K4.out.below hb2 (by simp)); obtain ⟨x0, x1, x2, x3, x4, x5, x6, x7, x8, x9, x10⟩ := blk11 K4.out; have z4 := K4.out.lt; clear hb2) | (go_at_call 9; (with_reducible refine (KM.out _ B2).mono ?_); rintro e w3 ⟨rfl, hb3⟩; have B3 := B2.trans (hb3.mono B2.size); replace K4 := Lib.hid (K4.out.below hb3 z4); obtain ⟨x0, x1, x2, x3, x4, x5, x6, x7, x8, x9, x10⟩ := blk11 K4.out; replace z4 := K4.out.lt; clear hb3) | (go_at_call 30; (with_reducible refine (KD.out _ B3).mono ?_); rintro e w' ⟨rfl, rfl⟩))
              exact ⟨⟨k + 1, by omega, by go_num, hB.trans (B3.mono hBs)⟩, by simp [intOf]; omega⟩
            · have b4 : ((sh.length : Int) == 4) = false := by rw [beq_eq_false_iff_ne]; omega
              have l3 : sh.length ≤ 3 := by omega
              have HV := Lib.hid (And.intro hVw (And.intro hv hw))
              clear hv hw hVw l4 h4 hU hT hD
              obtain ⟨i0, hi0, hz0, hz1, hz2⟩ := info_parts infoI
              obtain ⟨nn, hnn⟩ : ∃ nn : Nat, (nn : Int) = 2 + A % 18446744073709551616 % 2 := ⟨(2 + A % 18446744073709551616 % 2).toNat, by omega⟩
              have hn2 : 2 ≤ nn ∧ nn ≤ 3 := by omega
              have HN := Lib.hid hnn
              have HWI : Hid (∀ W : World, Calls Try.prog 26 #[.int .i64 A, .int .i64 2] W fun e w' => e = .returned (.int .i64 (A % 18446744073709551616 % 2)) ∧ W = w') := Lib.hid (fun W => win_any A 2 W (by decide) (by decide))
              generalize A % 18446744073709551616 % 2 = rr at *
              go_upto_region 8 with (first | (go_at_call 7; (with_reducible refine (LG.out _ (K0.out _)).mono ?_); rintro e w2 ⟨rfl, hb2⟩; have B2 := (K0.out _).trans (hb2.mono (by simp)); replace K4 := Lib.hid (K4.out.below hb2 (by simp)); obtain ⟨x0, x1, x2, x3, x4, x5, x6, x7, x8, x9, x10⟩ := blk11 K4.out; have z4 := K4.out.lt; clear hb2) | (go_at_call 9; (with_reducible refine (KM.out _ B2).mono ?_); rintro e w3 ⟨rfl, hb3⟩; have B3 := B2.trans (hb3.mono B2.size); replace K4 := Lib.hid (K4.out.below hb3 z4); obtain ⟨x0, x1, x2, x3, x4, x5, x6, x7, x8, x9, x10⟩ := blk11 K4.out; replace z4 := K4.out.lt; clear hb3) | (go_at_call 30; (with_reducible refine (KD.out _ B3).mono ?_); rintro e w' ⟨rfl, rfl⟩))
              go_cut [5] (fun s5 wx => s5 = .int .i64 (nn : Int) ∧ w3 = wx)
              case first => as_aux_lemma =>
                have hr : 0 ≤ rr ∧ rr ≤ 1 := by omega
                go_wp2_with (go_at_call 26; (with_reducible refine (HWI.out _).mono ?_); rintro e w' ⟨rfl, rfl⟩)
                go_meet
                exact ⟨by rw [HN.out], rfl⟩
              case rest => as_aux_lemma =>
                obtain ⟨rfl, rfl⟩ := hcut
                clear hnn HN HWI LG KM KD
                have B3h := Lib.hid B3
                go_upto_region 9 with fail
                go_cut [6] (fun s6 wx => ∃ o6 c6, s6 = .slice o6 (sh.length + 1) c6 ∧ Hid (Ld wx (.slice o6 (sh.length + 1) c6) ((nn : Int) :: sh)) ∧ Hid (Below w3.heap.size w3 wx))
                case first => as_aux_lemma =>
                  have HO := Lib.hid (World.ownsRow_lit (base := w3.heap.size) (e := 3) (size := 1) w3 #[.int .i64 (nn : Int)] 1 (Nat.le_refl _) (by decide) rfl)
                  have BA : Below w3.heap.size w3 (w3.alloc (.cells #[.int .i64 (nn : Int)] 3)) := (Below.refl _ _).alloc (Nat.le_refl _) _
                  have HLs := (HL.out.1.below B3).below BA
                  cases oU with
                  | none =>
                    have hs0 : sh = [] := by
                      cases sh with
                      | nil => rfl
                      | cons x r =>
                        obtain ⟨o, c, e, _, hx⟩ := HLs
                        simp only [Value.slice.injEq] at e
                        obtain ⟨rfl, _, _⟩ := e
                        obtain ⟨b, f, e2, _⟩ := hx 0 (by simp)
                        cases e2
                    subst hs0
                    go_wp2_with (at_builtin; refine wpList_append_noneC rfl _ _ 23 rfl w3.heap.size 3 i0 1 Try.underlying23 hi0 _ 1 cU [.int .i64 (nn : Int)] rfl HO.out rfl ?_)
                    go_meet
                    exact ⟨_, _, rfl, Lib.hid (Ld.of_blk (ls := [(nn : Int)]) (Blk.new w3 3 _) (Nat.le_refl _)), Lib.hid BA⟩
                  | some ad =>
                    go_wp2_with (at_builtin; refine wpList_append_own _ rfl _ _ 23 rfl w3.heap.size 3 i0 (.int .i64 0) 1 8 Try.underlying23 hi0 hz0 hz1 hz2 rfl (by decide) _ 1 [.int .i64 (nn : Int)] rfl HO.out ad sh.length cU (ints sh) rfl ?c1 ?c2 ?c3 ?c4 ?c5 ?c6 ?_)
                    case c1 => simp [ints]
                    case c2 =>
                      intro j u hj
                      have hjl : j < sh.length := by
                        have := (List.getElem?_eq_some_iff.1 hj).1
                        simpa [ints] using this
                      obtain ⟨o, c, e, _, hx⟩ := HLs
                      simp only [Value.slice.injEq] at e
                      obtain ⟨rfl, _, _⟩ := e
                      obtain ⟨b, f, e2, _, hc⟩ := hx j hjl
                      simp only [Option.some.injEq] at e2
                      subst e2
                      rw [Go.WideShapes.add_plain, hc, ← ints_at hjl]
                      simpa using hj
                    case c3 =>
                      intro u hu
                      obtain ⟨x, _, rfl⟩ := List.mem_map.1 hu
                      rfl
                    case c4 => unfold maxLen; omega
                    case c5 => omega
                    intro v6 w9 hown hgrow _
                    have h9 : w9.ownsRow w3.heap.size 3 1 v6 ((nn : Int) :: sh).length (ints ((nn : Int) :: sh)) := by
                      have h := hown
                      rw [Nat.add_comm] at h
                      exact h
                    have b9 : Below w3.heap.size w3 w9 := BA.grown hgrow (by simp) (fun j hj => by
                      simp only [Value.ownBlock, Option.some.injEq] at hj
                      omega)
                    obtain ⟨o6, c6, rfl, h6⟩ := Ld.of_owns h9
                    have H6 := Lib.hid (And.intro h6 b9)
                    clear hown hgrow h9 h6 b9
                    go_wp2
                    go_meet
                    exact ⟨o6, c6, rfl, H6.out.1, H6.out.2⟩
                case rest => as_aux_lemma =>
                  obtain ⟨o6, c6, rfl, H6, B6⟩ := hcut
                  obtain ⟨wa, hwa⟩ : ∃ wa, wa = wc := ⟨wc, rfl⟩
                  subst hwa
                  have BA := Lib.hid (B3h.out.trans (B6.out.mono B3h.out.size))
                  have K5 := Lib.hid (K4.out.below B6.out z4)
                  obtain ⟨x0, x1, x2, x3, x4, x5, x6, x7, x8, x9, x10⟩ := blk11 K5.out
                  have z5 := K5.out.lt
                  have KMY := Lib.hid (rmay_any (.slice o6 (sh.length + 1) c6) ((nn : Int) :: sh) wa H6.out (by simp; omega))
                  clear K4 z4 B3 B3h B6 K0 B2 hi0 hz0 hz1 hz2
                  cases hm : may ((nn : Int) :: sh) with
                  | false =>
                    rw [hm] at KMY
                    clear hm
                    go_wp2_with (go_at_call 13; (with_reducible refine KMY.out.mono ?_); rintro e w' ⟨rfl, rfl⟩)
                    exact ⟨⟨k + 1, by omega, by go_num, hB.trans (BA.out.mono hBs)⟩, by simp [intOf]; omega⟩
                  | true =>
                    rw [hm] at KMY
                    obtain ⟨N, hN⟩ : ∃ N : Nat, (N : Int) = prod sh := ⟨(prod sh).toNat, by have := may_prod HV.out.1.1; omega⟩
                    have hN1 : 1 ≤ N ∧ N ≤ 65536 := by have := may_prod HV.out.1.1; omega
                    obtain ⟨M, hM⟩ : ∃ M : Nat, M = nn * N := ⟨_, rfl⟩
                    have hM2 : (M : Int) = prod ((nn : Int) :: sh) := by rw [prod_cons, ← hN, hM]; simp
                    have hM1 : 1 ≤ M ∧ M ≤ 65536 := by have := may_prod hm; omega
                    have e1 : (nn : Int) * (N : Int) = (M : Int) := by rw [hM]; simp
                    have HNM := Lib.hid (And.intro hN (And.intro hM (And.intro hM2 hm)))
                    have HU := Lib.hid (And.intro (HL.out.1.below BA.out) (And.intro (HL.out.2.1.below BA.out) (HL.out.2.2.1.below BA.out)))
                    have KW := Lib.hid (fun (W : World) (hW : Below wa.heap.size wa W) => widen_cons _ _ _ sh st off ds.length (nn : Int) W (HU.out.1.below hW) (HU.out.2.1.below hW) (H6.out.below hW) HV.out.1 HNM.out.2.2.2)
                    have KC := Lib.hid (fun (W : World) (hW : Below wa.heap.size wa W) => copyt_ok _ _ _ sh st ds off N sh.length W (HU.out.1.below hW) (HU.out.2.1.below hW) (HU.out.2.2.below hW) HV.out.1 HV.out.2.2 HNM.out.1 rfl)
                    have KB : Hid (∀ (W : World) (vs vt : Value), Ld W vs ((nn : Int) :: sh) → Ld W vt (0 :: st) → Below wa.heap.size wa W → Calls Try.prog 37 #[.agg #[vs, vt, .int .i64 off], .slice oD ds.length cD] W (NewT W ((nn : Int) :: sh) (cps ((nn : Int) :: sh) (0 :: st) off ds M) (sh.length + 1) M)) := Lib.hid (fun W vs vt h1 h2 hW => copyt_ok vs vt _ ((nn : Int) :: sh) (0 :: st) ds off M (sh.length + 1) W h1 h2 (HU.out.2.2.below hW) (vw_cons HV.out.1 HNM.out.2.2.2) HV.out.2.2 HNM.out.2.2.1 rfl)
                    have KEN : Hid (∀ (W : World) (va : Value), Ld W va ((nn : Int) :: sh) → Below wa.heap.size wa W → Calls Try.prog 33 #[va, .slice o6 (sh.length + 1) c6] W fun e w' => e = .returned (.bool true) ∧ Below W.heap.size W w') := Lib.hid (fun W va h hW => by
                      have := eqn_any va _ ((nn : Int) :: sh) ((nn : Int) :: sh) W h (H6.out.below hW) (by simp; omega) (by simp; omega)
                      rwa [show decide (((nn : Int) :: sh) = (nn : Int) :: sh) = true by simp] at this)
                    have B0 := Lib.hid (Below.refl wa.heap.size wa)
                    clear hm hN hM hM2
                    go_upto_if 122 with (first
                      | (go_at_call 13; (with_reducible refine KMY.out.mono ?_); rintro e w' ⟨rfl, rfl⟩)
                      | (go_at_call 22; (with_reducible refine (KW.out _ B0.out).mono ?_); rintro e w5 ⟨os, cs, ot, ct, rfl, h1, h2, hb⟩; have B5 := Lib.hid hb; have n5 : wr.heap.size < w5.heap.size := Nat.lt_of_lt_of_le z5 hb.size; have V5 := Lib.hid (And.intro h1 h2); have Q5 := Lib.hid (Blk.new w5 25 #[.slice os (sh.length + 1) cs, .slice ot (st.length + 1) ct, .int .i64 off]); obtain ⟨x0, x1, x2, x3, x4, x5, x6, x7, x8, x9, x10⟩ := blk11 (K5.out.below hb z5); clear hb h1 h2)
                      | (go_at_call 37; (with_reducible refine (KC.out _ (B5.out.alloc B5.out.size _)).mono ?_); rintro e w6 ⟨oa, ca, ga, da, rfl, h1, h2, hb⟩; have B56 := Lib.hid (((Below.refl w5.heap.size w5).alloc (Nat.le_refl _) (.cells #[.slice os (sh.length + 1) cs, .slice ot (st.length + 1) ct, .int .i64 off] 25)).trans (hb.mono (by simp))); have B6 := Lib.hid (B5.out.trans (B56.out.mono B5.out.size)); have A6 := Lib.hid (And.intro h1 h2); have P7 := Lib.hid (Q5.out.below hb (by simp)); obtain ⟨y0, y1, y2, _⟩ := blk3 P7.out; obtain ⟨x0, x1, x2, x3, x4, x5, x6, x7, x8, x9, x10⟩ := blk11 (K5.out.below B6.out z5); have q6 := P7.out.lt; have n6 : wr.heap.size < w6.heap.size := Nat.lt_of_lt_of_le z5 B6.out.size; clear hb h1 h2)
                      | (go_at_call 37; (with_reducible refine (KB.out _ _ _ ((V5.out.1.below B56.out).below ((Below.refl _ _).alloc (Nat.le_refl _) _)) ((V5.out.2.below B56.out).below ((Below.refl _ _).alloc (Nat.le_refl _) _)) (B6.out.alloc B6.out.size _)).mono ?_); rintro e w7 ⟨ob, cb, gb, db, rfl, h1, h2, hb⟩; have B67 := Lib.hid (((Below.refl w6.heap.size w6).alloc (Nat.le_refl _) (.cells #[.slice oa sh.length ca, .slice (some ⟨ga, 0, none⟩) N da] 28)).trans (hb.mono (by simp))); have B7 := Lib.hid (B6.out.trans (B67.out.mono B6.out.size)); have A7 := Lib.hid (And.intro h1 h2); have P9 := Lib.hid ((Blk.new w6 28 #[.slice oa sh.length ca, .slice (some ⟨ga, 0, none⟩) N da]).below hb (by simp)); obtain ⟨u0, u1, _⟩ := blk2 P9.out; have q7 := P9.out.lt; clear hb h1 h2)
                      | (go_at_call 33; (with_reducible refine (KEN.out _ _ (A7.out.1.below ((Below.refl _ _).alloc (Nat.le_refl _) _)) (B7.out.alloc B7.out.size _)).mono ?_); rintro e w8 ⟨rfl, hb⟩; have B78 := Lib.hid (((Below.refl w7.heap.size w7).alloc (Nat.le_refl _) (.cells #[.slice ob (sh.length + 1) cb, .slice (some ⟨gb, 0, none⟩) M db] 28)).trans (hb.mono (by simp))); have B8 := Lib.hid (B7.out.trans (B78.out.mono B7.out.size)); have P11 := Lib.hid ((Blk.new w7 28 #[.slice ob (sh.length + 1) cb, .slice (some ⟨gb, 0, none⟩) M db]).below hb (by simp)); obtain ⟨v0, v1, _⟩ := blk2 P11.out; have P98 := Lib.hid (P9.out.below B78.out q7); obtain ⟨u0, u1, _⟩ := blk2 P98.out; clear hb)
                      | (go_at_call 27; (with_reducible refine (num7_any _ _).mono ?_); rintro e w' ⟨rfl, rfl⟩))
                    go_cut [13] (fun _ wx => w8 = wx)
                    case first => as_aux_lemma =>
                      go_wp2
                      go_meet
                      exact rfl
                    case rest => as_aux_lemma =>
                      obtain rfl := hcut
                      clear x0 x1 x2 x3 x4 x5 x6 x7 x8 x9 x10 y0 y1 y2 u0 u1 v0 v1 KW KC KB KEN KMY n5 n6 q6 B5 V5 Q5 B6 P7 P9 e1
                      obtain ⟨w1, hw1⟩ : ∃ w1, w1 = wr := ⟨wr, rfl⟩
                      subst hw1
                      have EB : Hid (∀ W, Below wa.heap.size wa W → Below w.heap.size w W) := Lib.hid (fun W hW => hB.trans ((BA.out.trans (hW.mono BA.out.size)).mono hBs))
                      have HAB := Lib.hid (And.intro (A7.out.2.below B78.out) ((A6.out.2.below B67.out).below B78.out))
                      have HSZ := Lib.hid (And.intro P11.out.lt P98.out.lt)
                      clear B56 B67 B7 B78 A6 A7 BA q7
                      go_wp2
                      go_loopw [13] (fun s13 wy => ∃ j : Nat, j ≤ nn ∧ s13 = .int .i64 j ∧ Hid (Below w8.heap.size w8 wy)) (fun s13 _ => nn - (intOf s13).toNat)
                      case atStart => exact ⟨0, Nat.zero_le _, rfl, Lib.hid (Below.refl _ _)⟩
                      case round =>
                        obtain ⟨j, hj, rfl, HY⟩ := hrel
                        by_cases hlt : j < nn
                        · as_aux_lemma =>
                          obtain ⟨j0, jn0, jn1⟩ := info_int64
                          obtain ⟨Pj, hPj⟩ : ∃ P : Nat, P = j * N := ⟨_, rfl⟩
                          have hPM : Pj + N ≤ M := by
                            rw [hPj, HNM.out.2.1]
                            have := Nat.mul_le_mul_right N hlt
                            rw [Nat.succ_mul] at this
                            exact this
                          have e2 : (j : Int) * (N : Int) = (Pj : Int) := by rw [hPj]; simp
                          have e3 : ((j : Int) + 1) * (N : Int) = (Pj : Int) + (N : Int) := by rw [Int.add_mul, e2]; simp
                          have KEQ : Hid (∀ W : World, Below w8.heap.size w8 W → Calls Try.prog 40 #[.slice (some ⟨gb, Pj, none⟩) N (db - Pj), .slice (some ⟨ga, 0, none⟩) N da] W fun e w' => e = .returned (.bool true) ∧ Below W.heap.size W w') := Lib.hid (fun W hW => by
                            have h1 := ld_sub (lo := Pj) (N := N) (HAB.out.1.below hW) (by rw [cps_len]; exact hPM)
                            rw [hPj, show cps ((nn : Int) :: sh) (0 :: st) off ds M = cps ((nn : Int) :: sh) (0 :: st) off ds (nn * N) by rw [HNM.out.2.1], cps_cons HNM.out.1 hlt] at h1
                            have := eqw_any _ _ _ _ W h1 (HAB.out.2.below hW) (by rw [cps_len]; omega) (by rw [cps_len]; omega)
                            rw [hPj]
                            rwa [show decide (cps sh st off ds N = cps sh st off ds N) = true by simp] at this)
                          have BD : Hid (Below w8.heap.size w8 wr.drew) := below_drw HY.out 1
                          obtain ⟨v0, v1, _⟩ := blk2 (P11.out.below HY.out HSZ.out.1)
                          obtain ⟨u0, u1, _⟩ := blk2 (P98.out.below HY.out HSZ.out.2)
                          have hdb : M ≤ db := by
                            obtain ⟨o, c, e, hc, _⟩ := HAB.out.1
                            simp only [Value.slice.injEq, cps_len] at e
                            obtain ⟨_, _, rfl⟩ := e
                            rw [cps_len] at hc
                            exact hc
                          clear hPj
                          have p0 : (0 : Int) ≤ (Pj : Int) := by omega
                          have p1 : (Pj : Int) ≤ (Pj : Int) + (N : Int) := by omega
                          have p2 : (Pj : Int) + (N : Int) ≤ (db : Int) := by omega
                          have qa : (-9223372036854775808 : Int) ≤ (Pj : Int) ∧ (Pj : Int) ≤ 9223372036854775807 := by omega
                          have qb : (-9223372036854775808 : Int) ≤ (j : Int) + 1 ∧ (j : Int) + 1 ≤ 9223372036854775807 := by omega
                          have qc : (-9223372036854775808 : Int) ≤ (Pj : Int) + (N : Int) ∧ (Pj : Int) + (N : Int) ≤ 9223372036854775807 := by omega
                          have hsl := fun wx : World => run_sub (P := Try.prog) (t := 26) Try.underlying26 jn0 jn1 gb M db Pj N (by omega) (by omega) wx
                          have q1 : IntKind.i64.wrap (Pj : Int) = (Pj : Int) := wrap_in qa
                          have q2 : IntKind.i64.wrap ((j : Int) + 1) = (j : Int) + 1 := wrap_in qb
                          have q3 : IntKind.i64.wrap ((Pj : Int) + (N : Int)) = (Pj : Int) + (N : Int) := wrap_in qc
                          clear qa qb qc
                          go_wp2
                          go_region_held3 (fun W => W.cell? ⟨w7.heap.size, 1, none⟩ = some (.slice (some ⟨gb, 0, none⟩) M db) ∧ W.cell? ⟨w6.heap.size, 1, none⟩ = some (.slice (some ⟨ga, 0, none⟩) N da)) (first | exact ⟨v1, u1⟩ | exact ⟨v3, u3⟩ | go_keep)
                            ((go_at_call 40; (with_reducible refine (KEQ.out _ BD.out).mono ?_); rintro e w9 ⟨rfl, hb9⟩; have B9 := Lib.hid (BD.out.trans (hb9.mono BD.out.size)); obtain ⟨_, v3, _⟩ := blk2 (P11.out.below B9.out HSZ.out.1); obtain ⟨_, u3, _⟩ := blk2 (P98.out.below B9.out HSZ.out.2); clear hb9))
                          all_goals
                            clear q1 q2 q3 hsl
                            go_wp2
                            exact ⟨⟨j + 1, by omega, by go_num, B9⟩, by simp [intOf]; omega⟩
                        · as_aux_lemma =>
                          have BZ := Lib.hid (B8.out.trans (HY.out.mono B8.out.size))
                          obtain ⟨x0, x1, x2, x3, x4, x5, x6, x7, x8, x9, x10⟩ := blk11 (K5.out.below BZ.out z5)
                          have KCT : Hid (Calls Try.prog 17 #[.slice oU sh.length cU] wr fun e w' => e = .returned (.int .i64 (N : Int)) ∧ wr = w') := Lib.hid (by
                            have h := rcount_any _ sh wr (HU.out.1.below BZ.out) (may_dms HV.out.1.1) (by omega)
                            rwa [rct_may HV.out.1.1, ← HNM.out.1] at h)
                          have KMF := Lib.hid (rmay_any (.slice (some ⟨wr.heap.size, 0, none⟩) 1 1) [(N : Int)] (wr.alloc (.cells #[.int .i64 (N : Int)] 3)) (Ld.of_blk (ls := [(N : Int)]) (Blk.new wr 3 _) (Nat.le_refl _)) (by simp))
                          have LF := Lib.hid (Ld.of_blk (ls := [(N : Int)]) (Blk.new wr 3 #[.int .i64 (N : Int)]) (Nat.le_refl 1))
                          have BZ1 := Lib.hid (BZ.out.alloc BZ.out.size (.cells #[.int .i64 (N : Int)] 3))
                          have zz : w1.heap.size < wr.heap.size := Nat.lt_of_lt_of_le z5 BZ.out.size
                          clear HAB P11 P98 HSZ B0 B8
                          cases hf : may [(N : Int)] with
                          | false =>
                            rw [hf] at KMF
                            clear hf
                            go_wp2_with (first | (go_at_call 17; (with_reducible refine KCT.out.mono ?_); rintro e w' ⟨rfl, rfl⟩) | (go_at_call 13; (with_reducible refine KMF.out.mono ?_); rintro e w' ⟨rfl, rfl⟩))
                            exact ⟨⟨k + 1, by omega, by go_num, EB.out _ BZ1.out⟩, by simp [intOf]; omega⟩
                          | true =>
                            rw [hf] at KMF
                            have hp1 : prod sh = prod [(N : Int)] := by rw [← HNM.out.1]; simp [prod]
                            have HF := Lib.hid (And.intro hf hp1)
                            have KO := Lib.hid (fun (W : World) (hW : Below wa.heap.size wa W) => of_ok _ sh W (HU.out.1.below hW) HV.out.1.1)
                            have KR1 : Hid (∀ (W : World) (vs vt : Value), Ld W vs sh → Ld W vt (stl sh) → Below (wr.heap.size + 1) (wr.alloc (.cells #[.int .i64 (N : Int)] 3)) W → Calls Try.prog 23 #[.agg #[vs, vt, .int .i64 0], .slice (some ⟨wr.heap.size, 0, none⟩) 1 1] W (NewV W [(N : Int)] (stl [(N : Int)]) 0 1 1)) := Lib.hid (fun W vs vt h1 h2 hW => reshape_ok vs vt _ sh [(N : Int)] W h1 h2 (LF.out.keep (by simp) hW) HV.out.1.1 HF.out.1 HF.out.2)
                            have KR2 : Hid (∀ (W : World) (vs vt : Value), Ld W vs [(N : Int)] → Ld W vt (stl [(N : Int)]) → Below wa.heap.size wa W → Calls Try.prog 23 #[.agg #[vs, vt, .int .i64 0], .slice oU sh.length cU] W (NewV W sh (stl sh) 0 sh.length sh.length)) := Lib.hid (fun W vs vt h1 h2 hW => reshape_ok vs vt _ [(N : Int)] sh W h1 h2 (HU.out.1.below hW) HF.out.1 HV.out.1.1 HF.out.2.symm)
                            have KE := Lib.hid (fun (W : World) (va vb ua ub : Value) (ha : Ld W va sh) (hb : Ld W vb (stl sh)) (hc : Ld W ua sh) (hd : Ld W ub (stl sh)) => eqview_same va vb ua ub sh (stl sh) 0 W ha hb hc hd (by omega) (by rw [stl_len]; omega))
                            clear hf hp1
                            go_wp2_with (first
                              | (go_at_call 17; (with_reducible refine KCT.out.mono ?_); rintro e w' ⟨rfl, rfl⟩)
                              | (go_at_call 13; (with_reducible refine KMF.out.mono ?_); rintro e w' ⟨rfl, rfl⟩)
                              | (go_at_call 24; (with_reducible refine (KO.out _ BZ1.out).mono ?_); rintro e w10 ⟨os, cs, ot, ct, rfl, h1, h2, hb⟩; have BZ10 := Lib.hid (BZ1.out.trans (hb.mono BZ1.out.size)); have BF10 := Lib.hid (show Below (wr.heap.size + 1) (wr.alloc (.cells #[.int .i64 (N : Int)] 3)) w10 from hb.mono (by simp)); have V10 := Lib.hid (And.intro h1 h2); have z10 : w1.heap.size < w10.heap.size := Nat.lt_of_lt_of_le z5 BZ10.out.size; obtain ⟨x0, x1, x2, x3, x4, x5, x6, x7, x8, x9, x10⟩ := blk11 (K5.out.below BZ10.out z5); clear hb h1 h2)
                              | (go_at_call 23; (with_reducible refine (KR1.out _ _ _ (V10.out.1.below ((Below.refl _ _).alloc (Nat.le_refl _) _)) (V10.out.2.below ((Below.refl _ _).alloc (Nat.le_refl _) _)) (BF10.out.alloc (by have := BF10.out.size; simp at this; omega) _)).mono ?_); rintro e w11 ⟨op, cp, oq, cq, rfl, h1, h2, hb⟩; have BU11 := Lib.hid (((Below.refl w10.heap.size w10).alloc (Nat.le_refl _) (.cells #[.slice os sh.length cs, .slice ot sh.length ct, .int .i64 0] 25)).trans (hb.mono (by simp))); have Q10 := Lib.hid ((Blk.new w10 25 #[.slice os sh.length cs, .slice ot sh.length ct, .int .i64 0]).below hb (by simp)); have BZ11 := Lib.hid (BZ10.out.trans (BU11.out.mono BZ10.out.size)); have V11 := Lib.hid (And.intro h1 h2); have z11 : w1.heap.size < w11.heap.size := Nat.lt_of_lt_of_le z5 BZ11.out.size; have t11 := Q10.out.lt; obtain ⟨x0, x1, x2, x3, x4, x5, x6, x7, x8, x9, x10⟩ := blk11 (K5.out.below BZ11.out z5); clear hb h1 h2)
                              | (go_at_call 23; (with_reducible refine (KR2.out _ _ _ (V11.out.1.below ((Below.refl _ _).alloc (Nat.le_refl _) _)) (V11.out.2.below ((Below.refl _ _).alloc (Nat.le_refl _) _)) (BZ11.out.alloc BZ11.out.size _)).mono ?_); rintro e w12 ⟨ox, cx, oy, cy, rfl, h1, h2, hb⟩; have BU12 := Lib.hid (((Below.refl w11.heap.size w11).alloc (Nat.le_refl _) (.cells #[.slice op 1 cp, .slice oq 1 cq, .int .i64 0] 25)).trans (hb.mono (by simp))); have Q12 := Lib.hid (Q10.out.below BU12.out t11); have BZ12 := Lib.hid (BZ11.out.trans (BU12.out.mono BZ11.out.size)); have V12 := Lib.hid (And.intro h1 h2); have U12 := Lib.hid (And.intro ((V10.out.1.below BU11.out).below BU12.out) ((V10.out.2.below BU11.out).below BU12.out)); obtain ⟨s0, s1, s2, _⟩ := blk3 Q12.out; have t12 := Q12.out.lt; clear hb h1 h2)
                              | (go_at_call 27; (with_reducible refine (num7_any _ _).mono ?_); rintro e w' ⟨rfl, rfl⟩)
                              | (go_at_call 25; (with_reducible refine (KE.out _ _ _ _ _ (V12.out.1.below ((Below.refl _ _).alloc (Nat.le_refl _) _)) (V12.out.2.below ((Below.refl _ _).alloc (Nat.le_refl _) _)) (U12.out.1.below ((Below.refl _ _).alloc (Nat.le_refl _) _)) (U12.out.2.below ((Below.refl _ _).alloc (Nat.le_refl _) _))).mono ?_); rintro e w13 ⟨rfl, hb⟩; have BZ13 := Lib.hid ((BZ12.out.alloc BZ12.out.size _).trans (hb.mono (by have := BZ12.out.size; simp; omega))); clear hb))
                            exact ⟨⟨k + 1, by omega, by go_num, EB.out _ BZ13.out⟩, by simp [intOf]; omega⟩
    · as_aux_lemma =>
      by_cases g1 : k < len
      · have g2 : 15 ≤ k := by omega
        clear g
        go_wp2_with (go_at_call 29; (with_reducible refine (HK.out _).mono ?_); rintro e w9 ⟨rfl, hb9⟩)
        go_ret
        exact ⟨rfl, hB.trans (hb9.mono hBs)⟩
      · have g2 : len ≤ k := by omega
        clear g g1
        go_wp2_with (go_at_call 29; (with_reducible refine (HK.out _).mono ?_); rintro e w9 ⟨rfl, hb9⟩)
        go_ret
        exact ⟨rfl, hB.trans (hb9.mono hBs)⟩
end Go.Proofs.Ytdefgmkkkeemoaa
