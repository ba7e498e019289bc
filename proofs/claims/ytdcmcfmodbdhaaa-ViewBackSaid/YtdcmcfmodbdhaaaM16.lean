/-
  ViewBack's loop.
  What each law of package view ends with: a transposed copy.
-/
import Derived.BigQuiet
import Derived.Deep.DeepBigQuietO
import Derived.Test.YtdcmcfmodbdhaaaM07
import Derived.Test.YtdcmcfmodbdhaaaM08
import Derived.Test.YtdcmcfmodbdhaaaM09
import Derived.Test.YtdcmcfmodbdhaaaM15
namespace Go.Proofs.Ytdcmcfmodbdhaaa
open Go.RowKit Go.Shelf

set_option maxRecDepth 100000 in
set_option maxHeartbeats 100000000 in
theorem viewback_any (HWK : ∀ W : World, Calls Try.prog 29 #[] W fun e w' => e = .returned (.bool true) ∧ Below W.heap.size W w') (bb oo len cap : Nat) (es : Nat → Ak) (w : World) (_hl : len ≤ 9223372036854775807) (hb : bb < w.heap.size) (hT : ∀ i, i < len → AkAt w bb (oo + i * 11) (es i)) (hok : ∀ i, i < len → (es i).ok w) :
    Calls Try.prog 5 #[.slice (some ⟨bb, oo, none⟩) len cap] w fun e w' => e = .returned (.bool true) ∧ Below w.heap.size w w' := by
  have HT := Lib.hid (And.intro hT hok)
  have HK := Lib.hid HWK
  clear hT hok HWK
  go_enter Try.func5, Try.ntmps5
  go_wp2
  go_loopw [3] (fun s3 wr => ∃ k : Nat, k ≤ len ∧ s3 = .int .i64 k ∧ Below w.heap.size w wr) (fun s3 _ => len - (intOf s3).toNat)
  case atStart => exact ⟨0, Nat.zero_le _, rfl, Below.refl _ _⟩
  case round =>
    obtain ⟨k, hk, rfl, hB⟩ := hrel
    have hBs := hB.size
    by_cases g : k < len ∧ k < 15
    · obtain ⟨g1, g2⟩ := g
      obtain ⟨t0, t1, t2, t3, t4, t5, t6, t7, t8, t9, t10⟩ := (HT.out.1 k (by omega)).below hB hb
      obtain ⟨⟨hU, hT, hD, hX, hV, hP, hR⟩, ⟨l0, l1, l2, l3, l4, l5, l6⟩, ⟨a0, a1⟩, ⟨b0, b1⟩, ⟨c0, c1⟩, ⟨f0, f1⟩⟩ := HT.out.2 k (by omega)
      replace hU := hU.below hB
      replace hT := hT.below hB
      replace hD := hD.below hB
      replace hX := hX.below hB
      replace hV := hV.below hB
      replace hP := hP.below hB
      replace hR := hR.below hB
      generalize es k = p at *
      obtain ⟨U, T, D, X, V, P, R, sh, st, ds, ax, s, ts, tds, off, A, B, C⟩ := p
      simp only at t0 t1 t2 t3 t4 t5 t6 t7 t8 t9 t10 hU hT hD hX hV hP hR l0 l1 l2 l3 l4 l5 l6 a0 a1 b0 b1 c0 c1 f0 f1
      obtain ⟨oU, cU, rfl, _, _⟩ := id hU
      obtain ⟨oT, cT, rfl, _, _⟩ := id hT
      obtain ⟨oD, cD, rfl, _, _⟩ := id hD
      obtain ⟨oX, cX, rfl, _, _⟩ := id hX
      obtain ⟨oV, cV, rfl, _, _⟩ := id hV
      obtain ⟨oP, cP, rfl, _, _⟩ := id hP
      obtain ⟨oR, cR, rfl, _, _⟩ := id hR
      have K0 := Lib.hid (fun o => (Below.refl wr.heap.size wr).alloc (Nat.le_refl _) o)
      have LG := Lib.hid (fun (W : World) (hW : Below wr.heap.size wr W) => heavy_any oU cU sh (.slice oT st.length cT) off oD oX oV oP oR ds.length cD ax.length cX s.length cV ts.length cP tds.length cR A B C W (hU.below hW) l0 l2 l3 l4 l5 l6)
      have K4 := Lib.hid (Blk.new wr 30 #[.slice oU sh.length cU, .slice oT st.length cT, .int .i64 off, .slice oD ds.length cD, .slice oX ax.length cX, .slice oV s.length cV, .int .i64 A, .int .i64 B, .int .i64 C, .slice oP ts.length cP, .slice oR tds.length cR])
      cases lg : hvy sh ds.length ax.length s.length ts.length tds.length with
      | true =>
        rw [lg] at LG
        clear lg hU hT hD hX hV hP hR
        go_wp2_with (go_at_call 7; (with_reducible refine (LG.out _ (K0.out _)).mono ?_); rintro e w2 ⟨rfl, hb2⟩; have B2 := (K0.out _).trans (hb2.mono (by simp)); clear hb2)
        go_ret
        exact ⟨rfl, hB.trans (B2.mono hBs)⟩
      | false =>
        rw [lg] at LG
        obtain ⟨m0, m1, m2, m3, m4, m5, m6⟩ := hvy_no lg
        have M6 := Lib.hid m6
        obtain ⟨FR, hFR⟩ : ∃ FR : World → Prop, FR = fun W => Below wr.heap.size wr W ∧ Blk W wr.heap.size 30 #[.slice oU sh.length cU, .slice oT st.length cT, .int .i64 off, .slice oD ds.length cD, .slice oX ax.length cX, .slice oV s.length cV, .int .i64 A, .int .i64 B, .int .i64 C, .slice oP ts.length cP, .slice oR tds.length cR] := ⟨_, rfl⟩
        have FRb : Hid (∀ W, FR W → Below wr.heap.size wr W) := Lib.hid (fun W h => by rw [hFR] at h; exact h.1)
        have FRk := Lib.hid (fun (W : World) (h : FR W) => blk11 (by rw [hFR] at h; exact h.2 : Blk W wr.heap.size 30 #[.slice oU sh.length cU, .slice oT st.length cT, .int .i64 off, .slice oD ds.length cD, .slice oX ax.length cX, .slice oV s.length cV, .int .i64 A, .int .i64 B, .int .i64 C, .slice oP ts.length cP, .slice oR tds.length cR]))
        have FRl : Hid (∀ W, FR W → wr.heap.size < W.heap.size) := Lib.hid (fun W h => by rw [hFR] at h; exact h.2.lt)
        have FRn : Hid (∀ W W', FR W → Below W.heap.size W W' → FR W') := Lib.hid (fun W W' h hb => by rw [hFR] at h ⊢; exact ⟨h.1.trans (hb.mono h.1.size), h.2.below hb h.2.lt⟩)
        have FRs : Hid (∀ W', Below (wr.alloc (.cells #[.slice oU sh.length cU, .slice oT st.length cT, .int .i64 off, .slice oD ds.length cD, .slice oX ax.length cX, .slice oV s.length cV, .int .i64 A, .int .i64 B, .int .i64 C, .slice oP ts.length cP, .slice oR tds.length cR] 30)).heap.size (wr.alloc (.cells #[.slice oU sh.length cU, .slice oT st.length cT, .int .i64 off, .slice oD ds.length cD, .slice oX ax.length cX, .slice oV s.length cV, .int .i64 A, .int .i64 B, .int .i64 C, .slice oP ts.length cP, .slice oR tds.length cR] 30)) W' → FR W') := Lib.hid (fun W' hb => by rw [hFR]; exact ⟨(K0.out _).trans (hb.mono (by simp)), K4.out.below hb (by simp)⟩)
        have FRc : Hid (∀ W b i v, FR W → wr.heap.size < b → FR (W.setCell ⟨b, i, none⟩ v)) := Lib.hid (fun W b i v h hb => by rw [hFR] at h ⊢; exact ⟨h.1.setCell (p := ⟨b, i, none⟩) (Nat.le_of_lt hb) v, h.2.far (p := ⟨b, i, none⟩) (Nat.ne_of_lt hb) v⟩)
        have FRd : Hid (∀ (W : World) (n : Nat), FR W → FR (W.drewN n)) := Lib.hid (fun W n h => by rw [hFR] at h ⊢; exact ⟨below_drw h.1 n, h.2⟩)
        clear hFR
        have HL := Lib.hid (And.intro hU (And.intro hT (And.intro hD hX)))
        have KM : Hid (∀ (W : World) (_ : Below wr.heap.size wr W), Calls Try.prog 9 #[.agg #[.slice oU sh.length cU, .slice oT st.length cT, .int .i64 off], .int .i64 (ds.length : Int)] W fun e w' => e = .returned (.bool (vwb sh st off ds.length)) ∧ Below W.heap.size W w') := Lib.hid (fun W hW => rmayview_any _ _ sh st off ds.length W (hU.below hW) (hT.below hW) (by omega) (by omega))
        have KD := Lib.hid (fun (W : World) (hW : Below wr.heap.size wr W) => words_any _ ds W (hD.below hW) (by omega))
        have KX := Lib.hid (fun (W : World) (hW : Below wr.heap.size wr W) => raxes_any _ ax sh.length W (hX.below hW) (by omega) (by omega))
        clear lg hU hT hD hX hV hP hR m6
        cases hv : vwb sh st off ds.length with
        | false =>
          rw [hv] at KM
          clear hv
          go_wp2_with (first | (go_at_call 7; (with_reducible refine (LG.out _ (K0.out _)).mono ?_); rintro e w2 ⟨rfl, hb2⟩; have F2 := Lib.hid (FRs.out _ hb2); obtain ⟨x0, x1, x2, x3, x4, x5, x6, x7, x8, x9, x10⟩ := FRk.out _ F2.out; clear hb2) | (go_at_call 9; (with_reducible refine (KM.out _ (FRb.out _ F2.out)).mono ?_); rintro e w3 ⟨rfl, hb3⟩; have F3 := Lib.hid (FRn.out _ _ F2.out hb3); obtain ⟨x0, x1, x2, x3, x4, x5, x6, x7, x8, x9, x10⟩ := FRk.out _ F3.out; clear hb3))
          exact ⟨⟨k + 1, by omega, by go_num, hB.trans ((FRb.out _ F3.out).mono hBs)⟩, by simp [intOf]; omega⟩
        | true =>
          rw [hv] at KM
          cases hw : wds ds with
          | false =>
            rw [hw] at KD
            clear hv hw
            go_wp2_with (first | (go_at_call 7; (with_reducible refine (LG.out _ (K0.out _)).mono ?_); rintro e w2 ⟨rfl, hb2⟩; have F2 := Lib.hid (FRs.out _ hb2); obtain ⟨x0, x1, x2, x3, x4, x5, x6, x7, x8, x9, x10⟩ := FRk.out _ F2.out; clear hb2) | (go_at_call 9; (with_reducible refine (KM.out _ (FRb.out _ F2.out)).mono ?_); rintro e w3 ⟨rfl, hb3⟩; have F3 := Lib.hid (FRn.out _ _ F2.out hb3); obtain ⟨x0, x1, x2, x3, x4, x5, x6, x7, x8, x9, x10⟩ := FRk.out _ F3.out; clear hb3) | (go_at_call 30; (with_reducible refine (KD.out _ (FRb.out _ F3.out)).mono ?_); rintro e w' ⟨rfl, rfl⟩))
            exact ⟨⟨k + 1, by omega, by go_num, hB.trans ((FRb.out _ F3.out).mono hBs)⟩, by simp [intOf]; omega⟩
          | true =>
            rw [hw] at KD
            cases hx : axs ax sh.length with
            | false =>
              rw [hx] at KX
              clear hv hw hx
              go_wp2_with (first | (go_at_call 7; (with_reducible refine (LG.out _ (K0.out _)).mono ?_); rintro e w2 ⟨rfl, hb2⟩; have F2 := Lib.hid (FRs.out _ hb2); obtain ⟨x0, x1, x2, x3, x4, x5, x6, x7, x8, x9, x10⟩ := FRk.out _ F2.out; clear hb2) | (go_at_call 9; (with_reducible refine (KM.out _ (FRb.out _ F2.out)).mono ?_); rintro e w3 ⟨rfl, hb3⟩; have F3 := Lib.hid (FRn.out _ _ F2.out hb3); obtain ⟨x0, x1, x2, x3, x4, x5, x6, x7, x8, x9, x10⟩ := FRk.out _ F3.out; clear hb3) | (go_at_call 30; (with_reducible refine (KD.out _ (FRb.out _ F3.out)).mono ?_); rintro e w' ⟨rfl, rfl⟩) | (go_at_call 10; (with_reducible refine (KX.out _ (FRb.out _ F3.out)).mono ?_); rintro e w' ⟨rfl, rfl⟩))
              exact ⟨⟨k + 1, by omega, by go_num, hB.trans ((FRb.out _ F3.out).mono hBs)⟩, by simp [intOf]; omega⟩
            | true =>
              rw [hx] at KX
              have hVw := vwb_iff.1 hv
              have hal := axs_len hx
              obtain ⟨N, hN⟩ : ∃ N : Nat, (N : Int) = prod sh := ⟨(prod sh).toNat, by have := may_prod hVw.1; omega⟩
              have hN1 : 1 ≤ N ∧ N ≤ 200 := by have := may_prod hVw.1; have := M6.out hVw.1; omega
              have l4 := may_len hVw.1
              have HV := Lib.hid (And.intro hVw (And.intro hw (And.intro hx hN)))
              obtain ⟨i0, hi0, hz0, hz1, hz2⟩ := info_parts infoI
              have mk : ∀ W : World, (Instr.makeSlice 23 (.int .i64 (ax.length : Int)) (.int .i64 (ax.length : Int))).run Try.prog W = .ok (.slice (some ⟨W.heap.size, 0, none⟩) ax.length ax.length) (W.alloc (.cells (ints (List.replicate ax.length 0)).toArray 3)) := by
                intro W
                have := run_make (w := W) 23 3 i0 (.int .i64 0) Try.underlying23 hi0 hz0 .i64 .i64 ax.length ax.length (by omega) (by omega) (by rw [hz2]; omega) (by omega)
                rw [this, hz1, ← made_ints]; simp [Value.cells]
              have HAL := Lib.hid hal
              clear hv hw hx hVw hN hi0 hz0 hz1 hz2 hal
              go_wp2_with (first | (go_at_call 7; (with_reducible refine (LG.out _ (K0.out _)).mono ?_); rintro e w2 ⟨rfl, hb2⟩; have F2 := Lib.hid (FRs.out _ hb2); obtain ⟨x0, x1, x2, x3, x4, x5, x6, x7, x8, x9, x10⟩ := FRk.out _ F2.out; clear hb2) | (go_at_call 9; (with_reducible refine (KM.out _ (FRb.out _ F2.out)).mono ?_); rintro e w3 ⟨rfl, hb3⟩; have F3 := Lib.hid (FRn.out _ _ F2.out hb3); obtain ⟨x0, x1, x2, x3, x4, x5, x6, x7, x8, x9, x10⟩ := FRk.out _ F3.out; clear hb3) | (go_at_call 30; (with_reducible refine (KD.out _ (FRb.out _ F3.out)).mono ?_); rintro e w' ⟨rfl, rfl⟩) | (go_at_call 10; (with_reducible refine (KX.out _ (FRb.out _ F3.out)).mono ?_); rintro e w' ⟨rfl, rfl⟩))
              clear mk LG KM KD KX x0 x1 x2 x3 x4 x5 x6 x7 x8 x9 x10
              have f3l : wr.heap.size < w3.heap.size := FRl.out _ F3.out
              have F4 := Lib.hid (FRn.out _ _ F3.out ((Below.refl _ _).alloc (Nat.le_refl _) (.cells (ints (List.replicate ax.length 0)).toArray 3)))
              have KB0 := Lib.hid (Blk.new w3 3 (ints (List.replicate ax.length 0)).toArray)
              obtain ⟨w1, hw1⟩ : ∃ w1, w1 = wr := ⟨wr, rfl⟩
              subst hw1
              have HXX := Lib.hid HL.out.2.2.2
              go_loopw [6] (fun s6 wy => ∃ j : Nat, j ≤ ax.length ∧ s6 = .int .i64 j ∧ Hid (FR wy) ∧ Hid (Blk wy w3.heap.size 3 (ints (bkf ax j)).toArray)) (fun s6 _ => ax.length - (intOf s6).toNat)
              case atStart => exact ⟨0, Nat.zero_le _, rfl, F4, KB0⟩
              case round =>
                obtain ⟨j, hj, rfl, F5, KB⟩ := hrel
                obtain ⟨x0, x1, x2, x3, x4, x5, x6, x7, x8, x9, x10⟩ := FRk.out _ F5.out
                by_cases hlt : j < ax.length
                · as_aux_lemma =>
                  obtain ⟨a, ea, ha⟩ := axs_at HV.out.2.2.1 hlt
                  have ha2 : a < ax.length := by have := HAL.out; omega
                  obtain ⟨o', c', e', _, hxx⟩ := HXX.out
                  simp only [Value.slice.injEq] at e'
                  obtain ⟨rfl, _, rfl⟩ := e'
                  obtain ⟨b, f, rfl, h1, c1⟩ := hxx j hlt
                  have c2 : wr.cell? ⟨b, f + j, none⟩ = some (.int .i64 (a : Int)) := by
                    rw [(FRb.out _ F5.out).cell (p := ⟨b, f + j, none⟩) h1, c1, ea]
                  have kc := KB.out.cell a
                  rw [ints_at (by rw [bkf_len]; exact ha2)] at kc
                  have kf := KB.out.frozen a
                  have R : Hid (Blk (wr.setCell ⟨w3.heap.size, a, none⟩ (.int .i64 (j : Int))) w3.heap.size 3 (ints (bkf ax (j + 1))).toArray) := by
                    have h := KB.out.put a (j : Int)
                    show Blk _ _ _ (ints ((bkf ax j).set (ax.getD j 0).toNat (j : Int))).toArray
                    rw [ea, Int.toNat_natCast]
                    exact h
                  have FS := Lib.hid (FRc.out _ _ a (.int .i64 (j : Int)) F5.out f3l)
                  generalize (bkf ax j).getD a 0 = l0 at kc
                  clear hxx c1 ea h1
                  go_wp2
                  exact ⟨⟨j + 1, by omega, by go_num, FS, R⟩, by simp [intOf]; omega⟩
                · as_aux_lemma =>
                  obtain rfl : j = ax.length := by omega
                  have hKB : Ld wr (.slice (some ⟨w3.heap.size, 0, none⟩) ax.length ax.length) (bks ax) := by
                    have h := Ld.of_blk KB.out (c := ax.length) (by rw [bkf_len]; exact Nat.le_refl _)
                    rw [bkf_len] at h
                    exact h
                  obtain ⟨w5, hw5⟩ : ∃ w5, w5 = wr := ⟨wr, rfl⟩
                  subst hw5
                  have KT1 := Lib.hid (fun (W : World) (hW : Below w1.heap.size w1 W) => transp_ok _ _ _ sh st ax off ds.length sh.length W (HL.out.1.below hW) (HL.out.2.1.below hW) (HL.out.2.2.2.below hW) HV.out.1 HV.out.2.2.1 rfl)
                  have KT2 : Hid (∀ (W : World) (vs vt : Value), Ld W vs (trl sh ax) → Ld W vt (trl st ax) → Below w5.heap.size w5 W → Calls Try.prog 19 #[.agg #[vs, vt, .int .i64 off], .slice (some ⟨w3.heap.size, 0, none⟩) ax.length ax.length] W (NewV W sh st off sh.length sh.length)) := Lib.hid (fun W vs vt h1 h2 hW => transp_back vs vt _ sh st ax off ds.length sh.length W h1 h2 (hKB.below hW) HV.out.1 HV.out.2.2.1 rfl)
                  have KC1 := Lib.hid (fun (W : World) (hW : Below w1.heap.size w1 W) => copyt_ok _ _ _ sh st ds off N sh.length W (HL.out.1.below hW) (HL.out.2.1.below hW) (HL.out.2.2.1.below hW) HV.out.1 HV.out.2.1 HV.out.2.2.2 rfl)
                  have KE : Hid (∀ (W : World) (va vb : Value), Below w1.heap.size w1 W → Ld W va sh → Ld W vb st → Calls Try.prog 25 #[.agg #[va, vb, .int .i64 off], .agg #[.slice oU sh.length cU, .slice oT st.length cT, .int .i64 off]] W fun e w' => e = .returned (.bool true) ∧ Below W.heap.size W w') := Lib.hid (fun W va vb hW h1 h2 => eqview_same va vb _ _ sh st off W h1 h2 (HL.out.1.below hW) (HL.out.2.1.below hW) (by omega) (by have := HV.out.1.2.1; omega))
                  have KEN : Hid (∀ (W : World) (va : Value), Ld W va sh → Below w1.heap.size w1 W → Calls Try.prog 33 #[va, .slice oU sh.length cU] W fun e w' => e = .returned (.bool true) ∧ Below W.heap.size W w') := Lib.hid (fun W va h hW => by
                    have := eqn_any va _ sh sh W h (HL.out.1.below hW) (by omega) (by omega)
                    rwa [show decide (sh = sh) = true by simp] at this)
                  clear hKB KB F4 KB0 F3 hlt hj HXX
                  go_upto_if 131 with (first | (go_at_call 19; (with_reducible refine (KT1.out _ (FRb.out _ F5.out)).mono ?_); rintro e w6 ⟨os, cs, ot, ct, rfl, h1, h2, hb⟩; have F6 := Lib.hid (FRn.out _ _ F5.out hb); have n6 : w1.heap.size < w6.heap.size := FRl.out _ F6.out; have B6 := Lib.hid hb; have V6 := Lib.hid (And.intro h1 h2); obtain ⟨x0, x1, x2, x3, x4, x5, x6, x7, x8, x9, x10⟩ := FRk.out _ F6.out; clear hb h1 h2) | (go_at_call 19; (with_reducible refine (KT2.out _ _ _ (V6.out.1.below ((Below.refl _ _).alloc (Nat.le_refl _) _)) (V6.out.2.below ((Below.refl _ _).alloc (Nat.le_refl _) _)) (B6.out.alloc B6.out.size _)).mono ?_); rintro e w7 ⟨op, cp, oq, cq, rfl, h1, h2, hb⟩; have F67 := Lib.hid (FRn.out _ _ F6.out ((Below.refl _ _).alloc (Nat.le_refl _) (.cells #[.slice os sh.length cs, .slice ot sh.length ct, .int .i64 off] 25))); have F7 := Lib.hid (FRn.out _ _ F67.out hb); have n7 : w1.heap.size < w7.heap.size := FRl.out _ F7.out; have V7 := Lib.hid (And.intro h1 h2); obtain ⟨x0, x1, x2, x3, x4, x5, x6, x7, x8, x9, x10⟩ := FRk.out _ F7.out; clear hb h1 h2) | (go_at_call 37; (with_reducible refine (KC1.out _ (FRb.out _ (FRn.out _ _ F7.out ((Below.refl _ _).alloc (Nat.le_refl _) _)))).mono ?_); rintro e w8 ⟨oa, ca, ga, da, rfl, h1, h2, hb⟩; have B78 := Lib.hid (((Below.refl w7.heap.size w7).alloc (Nat.le_refl _) (.cells #[.slice op sh.length cp, .slice oq sh.length cq, .int .i64 off] 25)).trans (hb.mono (by simp))); have F8 := Lib.hid (FRn.out _ _ F7.out B78.out); have n8 : w1.heap.size < w8.heap.size := FRl.out _ F8.out; have A8 := Lib.hid (And.intro h1 h2); have P9 := Lib.hid ((Blk.new w7 25 #[.slice op sh.length cp, .slice oq sh.length cq, .int .i64 off]).below hb (by simp)); obtain ⟨y0, y1, y2, _⟩ := blk3 P9.out; have q8 := P9.out.lt; obtain ⟨x0, x1, x2, x3, x4, x5, x6, x7, x8, x9, x10⟩ := FRk.out _ F8.out; clear hb h1 h2) | (go_at_call 27; (with_reducible refine (num7_any _ _).mono ?_); rintro e w' ⟨rfl, rfl⟩) | (go_at_call 25; (with_reducible refine (KE.out _ _ _ (FRb.out _ (FRn.out _ _ F8.out ((Below.refl _ _).alloc (Nat.le_refl _) _))) ((V7.out.1.below B78.out).below ((Below.refl _ _).alloc (Nat.le_refl _) _)) ((V7.out.2.below B78.out).below ((Below.refl _ _).alloc (Nat.le_refl _) _))).mono ?_); rintro e w9 ⟨rfl, hb⟩; have B89 := Lib.hid (((Below.refl w8.heap.size w8).alloc (Nat.le_refl _) (.cells #[.slice oa sh.length ca, .slice (some ⟨ga, 0, none⟩) N da] 28)).trans (hb.mono (by simp))); have F9 := Lib.hid (FRn.out _ _ F8.out B89.out); have P11 := Lib.hid ((Blk.new w8 28 #[.slice oa sh.length ca, .slice (some ⟨ga, 0, none⟩) N da]).below hb (by simp)); obtain ⟨v0, v1, _⟩ := blk2 P11.out; obtain ⟨x0, x1, x2, x3, x4, x5, x6, x7, x8, x9, x10⟩ := FRk.out _ F9.out; clear hb) | (go_at_call 33; (with_reducible refine (KEN.out _ _ (A8.out.1.below B89.out) (FRb.out _ F9.out)).mono ?_); rintro e w10 ⟨rfl, hb⟩; have F10 := Lib.hid (FRn.out _ _ F9.out hb); have P12 := Lib.hid (P11.out.below hb P11.out.lt); have A10 := Lib.hid (And.intro ((A8.out.1.below B89.out).below hb) ((A8.out.2.below B89.out).below hb)); clear hb))
                  go_cut [13] (fun _ wx => w10 = wx)
                  case first => as_aux_lemma =>
                    go_wp2
                    go_meet
                    exact rfl
                  case rest => as_aux_lemma =>
                    obtain rfl := hcut
                    clear x0 x1 x2 x3 x4 x5 x6 x7 x8 x9 x10 y0 y1 y2 v0 v1 KT1 KT2 KC1 KE KEN n6 n7 n8 q8 F5 F6 F67 F7 F8 F9 B6 V6 V7 A8 P9 P11 B78 B89 f3l
                    obtain ⟨T7, hT7⟩ : ∃ T7, T7 = w8.heap.size := ⟨_, rfl⟩
                    rw [← hT7] at P12
                    rw [← hT7]
                    clear hT7
                    have KL := Lib.hid (lay_back _ _ _ _ _ sh st ds off N w10 (HL.out.1.below (FRb.out _ F10.out)) (HL.out.2.1.below (FRb.out _ F10.out)) A10.out.1 A10.out.2 (HL.out.2.2.1.below (FRb.out _ F10.out)) HV.out.1 HV.out.2.1 HV.out.2.2.2)
                    obtain ⟨x0, x1, x2, x3, x4, x5, x6, x7, x8, x9, x10⟩ := FRk.out _ F10.out
                    obtain ⟨u0, u1, _⟩ := blk2 P12.out
                    go_upto_region 18 with fail
                    go_cut [13, 14] (fun s13 s14 wx => ∃ (er : Int) (l : List Int) (o : Option Addr) (c : Nat), s13 = .slice o l.length c ∧ s14 = .int .i64 er ∧ Hid (er = 0 → l = ds) ∧ Hid (Ld wx (.slice o l.length c) l) ∧ Hid (Below w10.heap.size w10 wx))
                    case first => as_aux_lemma =>
                      cases hd : dup sh st off N with
                      | true =>
                        have KL2 := KL.out
                        rw [hd, if_pos rfl] at KL2
                        replace KL2 := Lib.hid KL2
                        clear KL hd
                        go_wp2_with (go_at_call 38; (with_reducible refine KL2.out.mono ?_); rintro e w11 ⟨o, c, rfl, ho, hb⟩; have L11 := Lib.hid (And.intro (ld_own ho) hb); clear ho hb)
                        go_meet
                        exact ⟨2, [], o, c, rfl, rfl, Lib.hid (fun h => absurd h (by decide)), L11.out.1, L11.out.2⟩
                      | false =>
                        have KL2 := KL.out
                        rw [hd, if_neg (by decide)] at KL2
                        replace KL2 := Lib.hid KL2
                        clear KL hd
                        go_wp2_with (go_at_call 38; (with_reducible refine KL2.out.mono ?_); rintro e w11 ⟨o, c, rfl, ho, hb⟩; have L11 := Lib.hid (And.intro (ld_own ho) hb); clear ho hb)
                        go_meet
                        exact ⟨0, ds, o, c, rfl, rfl, Lib.hid (fun _ => rfl), L11.out.1, L11.out.2⟩
                    case rest => as_aux_lemma =>
                      obtain ⟨er, l, o, c, rfl, rfl, HE, HY, HB⟩ := hcut
                      obtain ⟨w11, hw11⟩ : ∃ w11, w11 = wc := ⟨wc, rfl⟩
                      subst hw11
                      have F11 := Lib.hid (FRn.out _ _ F10.out HB.out)
                      have P13 := Lib.hid (And.intro (P12.out.below HB.out P12.out.lt) (And.intro (A10.out.1.below HB.out) (A10.out.2.below HB.out)))
                      clear x0 x1 x2 x3 x4 x5 x6 x7 x8 x9 x10 u0 u1 KL F10 P12 A10 HB
                      obtain ⟨x0, x1, x2, x3, x4, x5, x6, x7, x8, x9, x10⟩ := FRk.out _ F11.out
                      go_upto_region 19 with fail
                      go_cut [150] (fun s150 wx => s150 = .bool false ∧ Hid (Below w11.heap.size w11 wx))
                      case first => as_aux_lemma =>
                        by_cases h0 : er = 0
                        · subst h0
                          obtain rfl := HE.out rfl
                          clear HE
                          go_wp2_with (first | (go_at_call 27; (with_reducible refine (num7_any _ _).mono ?_); rintro e w' ⟨rfl, rfl⟩) | (go_at_call 40; (with_reducible refine (eqw_same _ _ _ _ HY.out (HL.out.2.2.1.below (FRb.out _ F11.out)) (by omega)).mono ?_); rintro e w12 ⟨rfl, hb⟩; have B12 := Lib.hid hb; clear hb))
                          go_meet
                          exact ⟨rfl, B12.out⟩
                        · have b0 : (er == 0) = false := beq_eq_false_iff_ne.2 h0
                          clear h0 HE
                          go_wp2_with (first | (go_at_call 27; (with_reducible refine (num7_any _ _).mono ?_); rintro e w' ⟨rfl, rfl⟩))
                          go_meet
                          exact ⟨rfl, Below.refl _ _⟩
                      case rest => as_aux_lemma =>
                        obtain ⟨rfl, HB⟩ := hcut
                        obtain ⟨w12, hw12⟩ : ∃ w12, w12 = wc := ⟨wc, rfl⟩
                        subst hw12
                        have F12 := Lib.hid (FRn.out _ _ F11.out HB.out)
                        have P14 := Lib.hid (And.intro (P13.out.1.below HB.out P13.out.1.lt) (And.intro (P13.out.2.1.below HB.out) (P13.out.2.2.below HB.out)))
                        clear x0 x1 x2 x3 x4 x5 x6 x7 x8 x9 x10 F11 P13 HB HE HY
                        obtain ⟨x0, x1, x2, x3, x4, x5, x6, x7, x8, x9, x10⟩ := FRk.out _ F12.out
                        obtain ⟨u0, u1, _⟩ := blk2 P14.out.1
                        by_cases h0 : 0 < sh.length
                        · have d0 : decide (0 < (sh.length : Int)) = true := decide_eq_true (by omega)
                          have d1 : decide (0 < sh.length) = true := decide_eq_true h0
                          have KCT : Hid (∀ W, FR W → Calls Try.prog 17 #[.slice oU sh.length cU] W fun e w' => e = .returned (.int .i64 (N : Int)) ∧ w' = W) := Lib.hid (fun W hW => by
                            have h := rcount_any _ sh W (HL.out.1.below (FRb.out _ hW)) (may_dms HV.out.1.1) (by omega)
                            rw [rct_may HV.out.1.1, ← HV.out.2.2.2] at h
                            exact h.mono fun _ _ h => ⟨h.1, h.2.symm⟩)
                          go_upto_region 21 with fail
                          go_cut [165] (fun s165 wx => s165 = .bool true ∧ ∃ nq, w12.drewN nq = wx)
                          case first => as_aux_lemma =>
                            go_quiet ((go_at_call 17; exact Calls.quiet_of_same (KCT.out _ (FRd.out _ _ F12.out))))
                            go_wp2
                            go_meet
                            exact ⟨rfl, _, rfl⟩
                          case rest => as_aux_lemma =>
                            obtain ⟨rfl, nq, rfl⟩ := hcut
                            clear x0 x1 x2 x3 x4 x5 x6 x7 x8 x9 x10 u0 u1 KCT d0 d1
                            have F13 := Lib.hid (FRd.out _ nq F12.out)
                            have P15 : Hid (Blk (w12.drewN nq) T7 28 #[.slice oa sh.length ca, .slice (some ⟨ga, 0, none⟩) N da] ∧ Ld (w12.drewN nq) (.slice oa sh.length ca) sh ∧ Ld (w12.drewN nq) (.slice (some ⟨ga, 0, none⟩) N da) (cps sh st off ds N)) := P14
                            obtain ⟨w13, hw13⟩ : ∃ w13, w13 = w12.drewN nq := ⟨_, rfl⟩
                            rw [← hw13] at F13 P15
                            rw [← hw13]
                            clear hw13 F12 P14
                            obtain ⟨a, hA⟩ : ∃ a : Nat, (a : Int) = A % 18446744073709551616 % (sh.length : Int) := ⟨(A % 18446744073709551616 % (sh.length : Int)).toNat, by have := Int.emod_nonneg (A % 18446744073709551616) (show (sh.length : Int) ≠ 0 by omega); omega⟩
                            have ha : a < sh.length := by have := Int.emod_lt_of_pos (A % 18446744073709551616) (show (0 : Int) < (sh.length : Int) by omega); omega
                            have KWA : Hid (∀ W : World, Calls Try.prog 26 #[.int .i64 A, .int .i64 (sh.length : Int)] W fun e w' => e = .returned (.int .i64 (a : Int)) ∧ W = w') := Lib.hid (fun W => by
                              have h := win_any A sh.length W (by omega) (by omega)
                              rwa [← hA] at h)
                            obtain ⟨D, hD⟩ : ∃ D, D = sh.getD a 0 := ⟨_, rfl⟩
                            have hD1 : 1 ≤ D ∧ D ≤ 4096 := by
                              have h := may_dms HV.out.1.1 _ (getD_mem (show a < sh.length from ha))
                              rw [hD]; exact h
                            obtain ⟨K, hK⟩ : ∃ K : Int, K = B % 18446744073709551616 % D := ⟨_, rfl⟩
                            have hK1 : 0 ≤ K ∧ K < D := by rw [hK]; exact ⟨Int.emod_nonneg _ (by omega), Int.emod_lt_of_pos _ (by omega)⟩
                            have KWB : Hid (∀ W : World, Calls Try.prog 26 #[.int .i64 B, .int .i64 D] W fun e w' => e = .returned (.int .i64 K) ∧ w' = W) := Lib.hid (fun W => by
                              have h := win_any B D W (by omega) (by omega)
                              rw [← hK] at h
                              exact h.mono fun _ _ h => ⟨h.1, h.2.symm⟩)
                            obtain ⟨o', c', e', _, hxx⟩ := HL.out.1
                            simp only [Value.slice.injEq] at e'
                            obtain ⟨rfl, _, rfl⟩ := e'
                            obtain ⟨b, f, eU, h1, c1⟩ := hxx a ha
                            have HUX := Lib.hid (And.intro eU (And.intro h1 c1))
                            have HA := Lib.hid (And.intro hA (And.intro hD hK))
                            clear hA hD hK eU h1 c1 hxx
                            obtain ⟨x0, x1, x2, x3, x4, x5, x6, x7, x8, x9, x10⟩ := FRk.out _ F13.out
                            go_wp2_with (go_at_call 26; (with_reducible refine (KWA.out _).mono ?_); rintro e w' ⟨rfl, rfl⟩)
                            go_cut [16] (fun s16 wx => s16 = .int .i64 K ∧ ∃ nq, w13.drewN nq = wx)
                            case first => as_aux_lemma =>
                              have c2 : w13.cell? ⟨b, f + a, none⟩ = some (.int .i64 D) := by
                                rw [(FRb.out _ F13.out).cell (p := ⟨b, f + a, none⟩) HUX.out.2.1, HUX.out.2.2, ← HA.out.2.1]
                              obtain rfl := HUX.out.1
                              have hai : (a : Int) < (sh.length : Int) := by omega
                              clear HUX
                              go_quiet ((go_at_call 26; exact Calls.quiet_of_same (KWB.out _)))
                              go_wp2
                              go_meet
                              exact ⟨rfl, _, rfl⟩
                            case rest => as_aux_lemma =>
                              obtain ⟨rfl, nq, rfl⟩ := hcut
                              clear x0 x1 x2 x3 x4 x5 x6 x7 x8 x9 x10 KWA KWB HUX
                              have F14 := Lib.hid (FRd.out _ nq F13.out)
                              have P16 : Hid (Blk (w13.drewN nq) T7 28 #[.slice oa sh.length ca, .slice (some ⟨ga, 0, none⟩) N da] ∧ Ld (w13.drewN nq) (.slice oa sh.length ca) sh ∧ Ld (w13.drewN nq) (.slice (some ⟨ga, 0, none⟩) N da) (cps sh st off ds N)) := P15
                              obtain ⟨w14, hw14⟩ : ∃ w14, w14 = w13.drewN nq := ⟨_, rfl⟩
                              rw [← hw14] at F14 P16
                              rw [← hw14]
                              clear hw14 F13 P15
                              have hKD : K < sh.getD a 0 := by rw [← HA.out.2.1]; exact hK1.2
                              have hVp := vw_put HV.out.1 ha hK1.1 hKD
                              obtain ⟨M, hM⟩ : ∃ M : Nat, (M : Int) = prod (sh.set a 1) := ⟨(prod (sh.set a 1)).toNat, by have := may_prod hVp.1; omega⟩
                              have hM1 : 1 ≤ M ∧ M ≤ 65536 := by have := may_prod hVp.1; omega
                              have eK : IntKind.i64.wrap (K + 1) = K + 1 := wrap_in (by omega)
                              obtain ⟨off2, ho2⟩ : ∃ o : Int, o = off + K * st.getD a 0 := ⟨_, rfl⟩
                              have KS : Hid (∀ W : World, Below w1.heap.size w1 W → Calls Try.prog 21 #[.agg #[.slice oU sh.length cU, .slice oT st.length cT, .int .i64 off], .int .i64 (a : Int), .int .i64 K, .int .i64 (K + 1)] W (NewV W (sh.set a 1) st off2 sh.length sh.length)) := Lib.hid (fun W hW => by
                                rw [ho2]
                                exact slice_one _ _ sh st off ds.length K a sh.length W (HL.out.1.below hW) (HL.out.2.1.below hW) HV.out.1 ha hK1.1 hKD rfl)
                              have KC2 : Hid (∀ (W : World) (vs vt : Value), Ld W vs (sh.set a 1) → Ld W vt st → Below w1.heap.size w1 W → Calls Try.prog 37 #[.agg #[vs, vt, .int .i64 off2], .slice oD ds.length cD] W (NewT W (sh.set a 1) (cps (sh.set a 1) st off2 ds M) sh.length M)) := Lib.hid (fun W vs vt h1 h2 hW => copyt_ok vs vt _ (sh.set a 1) st ds off2 M sh.length W h1 h2 (HL.out.2.2.1.below hW) (by rw [ho2]; exact hVp) HV.out.2.1 hM (by rw [List.length_set]))
                              have HM := Lib.hid (And.intro hM (And.intro ho2 hKD))
                              clear hKD hVp hM ho2
                              have n14 : w1.heap.size < w14.heap.size := FRl.out _ F14.out
                              obtain ⟨x0, x1, x2, x3, x4, x5, x6, x7, x8, x9, x10⟩ := FRk.out _ F14.out
                              go_upto_if 206 with (first | (go_at_call 21; (with_reducible refine (KS.out _ (FRb.out _ F14.out)).mono ?_); rintro e w15 ⟨os, cs, ot, ct, rfl, h1, h2, hb⟩; have F15 := Lib.hid (FRn.out _ _ F14.out hb); have n15 : w1.heap.size < w15.heap.size := FRl.out _ F15.out; have B15 := Lib.hid hb; have V15 := Lib.hid (And.intro h1 h2); obtain ⟨x0, x1, x2, x3, x4, x5, x6, x7, x8, x9, x10⟩ := FRk.out _ F15.out; clear hb h1 h2) | (go_at_call 37; (with_reducible refine (KC2.out _ _ _ (V15.out.1.below ((Below.refl _ _).alloc (Nat.le_refl _) _)) (V15.out.2.below ((Below.refl _ _).alloc (Nat.le_refl _) _)) (FRb.out _ (FRn.out _ _ F15.out ((Below.refl _ _).alloc (Nat.le_refl _) _)))).mono ?_); rintro e w16 ⟨ob, cb, gb, db, rfl, h1, h2, hb⟩; have B16 := Lib.hid (B15.out.trans ((((Below.refl w15.heap.size w15).alloc (Nat.le_refl _) (.cells #[.slice os sh.length cs, .slice ot sh.length ct, .int .i64 off2] 25)).trans (hb.mono (by simp))).mono B15.out.size)); have F16 := Lib.hid (FRn.out _ _ F14.out B16.out); have n16 : w1.heap.size < w16.heap.size := FRl.out _ F16.out; have V16 := Lib.hid (And.intro h1 h2); clear hb h1 h2) | (go_at_call 27; (with_reducible refine (num7_any _ _).mono ?_); rintro e w' ⟨rfl, rfl⟩))
                              go_cut [20] (fun _ wx => w16.alloc (.cells #[.slice ob sh.length cb, .slice (some ⟨gb, 0, none⟩) M db] 28) = wx)
                              case first => as_aux_lemma =>
                                go_wp2
                                go_meet
                                exact rfl
                              case rest => as_aux_lemma =>
                                obtain rfl := hcut
                                have F17 := Lib.hid (FRn.out _ _ F16.out ((Below.refl _ _).alloc (Nat.le_refl _) (.cells #[.slice ob sh.length cb, .slice (some ⟨gb, 0, none⟩) M db] 28)))
                                have P19 := Lib.hid (Blk.new w16 28 #[.slice ob sh.length cb, .slice (some ⟨gb, 0, none⟩) M db])
                                have BX := Lib.hid (B16.out.alloc B16.out.size (.cells #[.slice ob sh.length cb, .slice (some ⟨gb, 0, none⟩) M db] 28))
                                have V17 := Lib.hid (V16.out.2.below ((Below.refl _ _).alloc (Nat.le_refl _) (.cells #[.slice ob sh.length cb, .slice (some ⟨gb, 0, none⟩) M db] 28)))
                                have P17 := Lib.hid (And.intro (P16.out.1.below BX.out P16.out.1.lt) (P16.out.2.2.below BX.out))
                                obtain ⟨T9, hT9⟩ : ∃ T9, T9 = w16.heap.size := ⟨_, rfl⟩
                                rw [← hT9] at P19
                                rw [← hT9]
                                obtain ⟨w17, hw17⟩ : ∃ w17, w17 = w16.alloc (.cells #[.slice ob sh.length cb, .slice (some ⟨gb, 0, none⟩) M db] 28) := ⟨_, rfl⟩
                                rw [← hw17] at F17 P19 V17 P17
                                rw [← hw17]
                                clear hT9 hw17 x0 x1 x2 x3 x4 x5 x6 x7 x8 x9 x10 F14 F15 F16 n14 n15 n16 B15 V15 B16 V16 BX P16 KS KC2 eK
                                have C0 := cn_zero sh a K (may_pos HV.out.1.1) hK1.1
                                have CA := cn_all sh a K (may_pos HV.out.1.1) ha hK1.1 HM.out.2.2
                                have HCA := Lib.hid CA
                                have HC0 := Lib.hid C0
                                clear C0 CA
                                go_wp2
                                go_loopw [21, 22] (fun s21 s22 wy => ∃ m P : Nat, m ≤ N ∧ s22 = .int .i64 m ∧ s21 = .int .i64 P ∧ Hid ((P : Int) = cn sh a K m) ∧ Hid (Below w17.heap.size w17 wy)) (fun _ s22 _ => N - (intOf s22).toNat)
                                case atStart => exact ⟨0, 0, Nat.zero_le _, rfl, rfl, Lib.hid HC0.out.symm, Lib.hid (Below.refl _ _)⟩
                                case round =>
                                  obtain ⟨m, P, hm, rfl, rfl, HP, HY⟩ := hrel
                                  have FY := Lib.hid (FRn.out _ _ F17.out HY.out)
                                  obtain ⟨x0, x1, x2, x3, x4, x5, x6, x7, x8, x9, x10⟩ := FRk.out _ FY.out
                                  obtain ⟨u0, u1, _⟩ := blk2 (P17.out.1.below HY.out P17.out.1.lt)
                                  obtain ⟨y0, y1, _⟩ := blk2 (P19.out.below HY.out P19.out.lt)
                                  by_cases hlt : m < N
                                  · have hmN : (m : Int) < prod sh := by have := HV.out.2.2.2; omega
                                    have KAT := Lib.hid (rat_any (.slice oU sh.length cU) sh m wr (HL.out.1.below (FRb.out _ FY.out)) HV.out.1.1 (by omega) hmN)
                                    have ST := cn_step sh a K m (may_pos HV.out.1.1) ha hK1.1 HM.out.2.2 (by omega) hmN
                                    by_cases hxk : (atl sh m).getD a 0 = K
                                    · as_aux_lemma =>
                                      have hb := cps_cn (s := sh) (st := st) (ls := ds) (off := off) (a := a) (n := m) (N := N) (M := M) HV.out.1.1 HV.out.1.2.1 ha HV.out.2.2.2 HM.out.1 hlt
                                      rw [hxk, ← HM.out.2.1, ← HP.out, Int.toNat_natCast] at hb
                                      rw [if_pos hxk, ← HP.out] at ST
                                      have HST := Lib.hid ST
                                      have HX := Lib.hid hxk
                                      obtain ⟨o1, k1, e1, _, q1⟩ := V17.out
                                      rw [cps_len] at e1 q1
                                      simp only [Value.slice.injEq] at e1
                                      obtain ⟨e1, _, _⟩ := e1
                                      obtain ⟨b1, f1, e1', g1, c1⟩ := q1 P hb.1
                                      rw [← e1, Option.some.injEq, Addr.mk.injEq] at e1'
                                      obtain ⟨rfl, rfl, _⟩ := e1'
                                      obtain ⟨o2, k2, e2, _, q2⟩ := P17.out.2
                                      rw [cps_len] at e2 q2
                                      simp only [Value.slice.injEq] at e2
                                      obtain ⟨e2, _, _⟩ := e2
                                      obtain ⟨b2, f2, e2', g2, c2⟩ := q2 m hlt
                                      rw [← e2, Option.some.injEq, Addr.mk.injEq] at e2'
                                      obtain ⟨rfl, rfl, _⟩ := e2'
                                      rw [hb.2] at c1
                                      have HC1 := Lib.hid (And.intro g1 (by simpa using c1))
                                      have HC2 := Lib.hid (And.intro g2 (by simpa using c2))
                                      have hPM := hb.1
                                      generalize (cps sh st off ds N).getD m 0 = Z at *
                                      have d1 : decide (M ≤ P) = false := decide_eq_false (by omega)
                                      have d2 : decide ((M : Int) ≤ (P : Int)) = false := decide_eq_false (by omega)
                                      have i1 : (P : Int) < (M : Int) := by omega
                                      have i2 : (m : Int) < (N : Int) := by omega
                                      clear ST hxk hb e1 e2 q1 q2 c1 c2 g1 g2
                                      go_wp2_with (first | (go_at_call 43; (with_reducible refine KAT.out.mono ?_); rintro e wz ⟨v, rfl, hl, hb⟩; obtain ⟨oq, cq, rfl, _, hq⟩ := hl; obtain ⟨bq, fq, rfl, _, hc⟩ := hq a (by rw [atl_len]; exact ha); rw [atl_len]; rw [HX.out] at hc; have BZ := Lib.hid (HY.out.trans (hb.mono HY.out.size)); have FZ := Lib.hid (FRn.out _ _ FY.out hb); obtain ⟨x0, x1, x2, x3, x4, x5, x6, x7, x8, x9, x10⟩ := FRk.out _ FZ.out; obtain ⟨u0, u1, _⟩ := blk2 (P17.out.1.below BZ.out P17.out.1.lt); obtain ⟨y0, y1, _⟩ := blk2 (P19.out.below BZ.out P19.out.lt); have r1 := (BZ.out.cell (p := ⟨gb, P, none⟩) HC1.out.1).trans HC1.out.2; have r2 := (BZ.out.cell (p := ⟨ga, m, none⟩) HC2.out.1).trans HC2.out.2; clear hb hq))
                                      go_quiet (fail)
                                      go_wp2
                                      exact ⟨⟨m + 1, P + 1, by omega, by go_num, by go_num, Lib.hid (by rw [Int.natCast_add, Int.natCast_add]; exact HST.out.symm), Lib.hid (below_drw BZ.out _)⟩, by simp [intOf]; omega⟩
                                    · as_aux_lemma =>
                                      rw [if_neg hxk, ← HP.out, Int.add_zero] at ST
                                      have HST := Lib.hid ST
                                      obtain ⟨X, hX⟩ : ∃ X, X = (atl sh m).getD a 0 := ⟨_, rfl⟩
                                      have b1 : (X == K) = false := beq_eq_false_iff_ne.2 (by rw [hX]; exact hxk)
                                      have HX := Lib.hid hX
                                      clear ST hxk hX
                                      go_wp2_with (first | (go_at_call 43; (with_reducible refine KAT.out.mono ?_); rintro e wz ⟨v, rfl, hl, hb⟩; obtain ⟨oq, cq, rfl, _, hq⟩ := hl; obtain ⟨bq, fq, rfl, _, hc⟩ := hq a (by rw [atl_len]; exact ha); rw [atl_len]; rw [← HX.out] at hc; have BZ := Lib.hid (HY.out.trans (hb.mono HY.out.size)); clear hb hq))
                                      exact ⟨⟨m + 1, P, by omega, by go_num, rfl, Lib.hid (by rw [Int.natCast_add]; exact HST.out.symm), BZ⟩, by simp [intOf]; omega⟩
                                  · as_aux_lemma =>
                                    obtain rfl : m = N := by omega
                                    have hPM : (P : Int) = (M : Int) := by rw [HP.out, HV.out.2.2.2, HCA.out, ← HM.out.1]
                                    obtain rfl : P = M := by omega
                                    clear hPM HP
                                    go_wp2
                                    exact ⟨⟨k + 1, by omega, by go_num, hB.trans ((FRb.out _ FY.out).mono hBs)⟩, by simp [intOf]; omega⟩
                        · have d0 : decide (0 < (sh.length : Int)) = false := decide_eq_false (by omega)
                          have d1 : decide (0 < sh.length) = false := decide_eq_false h0
                          clear h0
                          go_upto_region 21 with fail
                          go_quiet (fail)
                          go_wp2
                          exact ⟨⟨k + 1, by omega, by go_num, hB.trans ((FRb.out _ (FRd.out _ _ F12.out)).mono hBs)⟩, by simp [intOf]; omega⟩
    · as_aux_lemma =>
      by_cases g1 : k < len
      · have g2 : 15 ≤ k := by omega
        clear g
        go_wp2_with (go_at_call 29; (with_reducible refine (HK.out _).mono ?_); rintro e w9 ⟨rfl, hb9⟩)
        go_ret
        exact ⟨rfl, hB.trans (hb9.mono hBs)⟩
      · have g2 : len ≤ k := by omega
        clear g g1
        go_wp2_with (go_at_call 29; (with_reducible refine (HK.out _).mono ?_); rintro e w9 ⟨rfl, hb9⟩)
        go_ret
        exact ⟨rfl, hB.trans (hb9.mono hBs)⟩
end Go.Proofs.Ytdcmcfmodbdhaaa
namespace Go.Proofs.Ytdcmcfmodbdhaaa
open Go.RowKit Go.Shelf

theorem of7 (W : World) (v : Value) (h : Ld W v [2, 2]) : Calls Try.prog 24 #[v] W fun e w' => ∃ os cs ot ct, e = .returned (.tuple #[.agg #[.slice os 2 cs, .slice ot 2 ct, .int .i64 0], .int .i64 0]) ∧ Ld w' (.slice os 2 cs) [2, 2] ∧ Ld w' (.slice ot 2 ct) [2, 1] ∧ Below W.heap.size W w' := by
  have C1 := of_any v [2, 2] W h (by decide)
  rw [show ofe [2, 2] = 0 by decide] at C1
  refine C1.mono ?_
  rintro e w' ⟨os, cs, ot, ct, rfl, ho, hb⟩
  exact ⟨os, cs, ot, ct, rfl, (ov_ld ho).1, (ov_ld ho).2, hb⟩
theorem tr7 (W : World) (vs vt va : Value) (hs : Ld W vs [2, 2]) (ht : Ld W vt [2, 1]) (ha : Ld W va [1, 0]) : Calls Try.prog 19 #[.agg #[vs, vt, .int .i64 0], va] W fun e w' => ∃ os cs ot ct, e = .returned (.tuple #[.agg #[.slice os 2 cs, .slice ot 2 ct, .int .i64 0], .int .i64 0]) ∧ Ld w' (.slice os 2 cs) [2, 2] ∧ Ld w' (.slice ot 2 ct) [1, 2] ∧ Below W.heap.size W w' := by
  have C2 := transpose_any vs vt va [2, 2] [2, 1] [1, 0] 0 W hs ht ha (by decide) (by decide) (by decide)
  rw [show tre [2, 2] [2, 1] 0 [1, 0] = 0 by decide, show trl [2, 2] [1, 0] = [2, 2] by decide, show trl [2, 1] [1, 0] = [1, 2] by decide] at C2
  refine C2.mono ?_
  rintro e w' ⟨os, cs, ot, ct, rfl, ho, hb⟩
  exact ⟨os, cs, ot, ct, rfl, (ov_ld ho).1, (ov_ld ho).2, hb⟩
theorem cp7 (W : World) (vs vt vd : Value) (hs : Ld W vs [2, 2]) (ht : Ld W vt [1, 2]) (hd : Ld W vd [1, 2, 3, 4]) : Calls Try.prog 37 #[.agg #[vs, vt, .int .i64 0], vd] W fun e w' => ∃ os cs od cd, e = .returned (.tuple #[.agg #[.slice os 2 cs, .slice od 4 cd], .int .i64 0]) ∧ Ld w' (.slice od 4 cd) [1, 3, 2, 4] ∧ Below W.heap.size W w' := by
  have C3 := copy_ok vs vt vd [2, 2] [1, 2] [1, 2, 3, 4] 0 4 W hs ht hd (by decide) (by decide) (by decide)
  rw [show cps [2, 2] [1, 2] 0 [1, 2, 3, 4] 4 = [1, 3, 2, 4] by decide] at C3
  refine C3.mono ?_
  rintro e w' ⟨os, cs, od, cd, rfl, h1, h2, hb⟩
  obtain ⟨_, _, e, h⟩ := Ld.of_owns h2
  simp only [Value.slice.injEq] at e
  obtain ⟨rfl, _, rfl⟩ := e
  exact ⟨os, cs, od, cd, rfl, h, hb⟩
theorem eq7 (W : World) (va vb : Value) (ha : Ld W va [1, 3, 2, 4]) (hb : Ld W vb [1, 3, 2, 4]) : Calls Try.prog 40 #[va, vb] W fun e w' => e = .returned (.bool true) ∧ Below W.heap.size W w' := by
  have C4 := eqw_any va vb [1, 3, 2, 4] [1, 3, 2, 4] W ha hb (by decide) (by decide)
  rwa [show decide ([(1 : Int), 3, 2, 4] = [1, 3, 2, 4]) = true by decide] at C4

theorem ld2 {W : World} {n : Nat} {t : TypeId} {x y : Int} (h : W.heap.size = n) : Ld (W.alloc (.cells #[.int .i64 x, .int .i64 y] t)) (.slice (some ⟨n, 0, none⟩) 2 2) [x, y] := by
  subst h; exact Ld.of_blk (ls := [x, y]) (Blk.new W t _) (Nat.le_refl _)
theorem ld4 {W : World} {n : Nat} {t : TypeId} {x y z u : Int} (h : W.heap.size = n) : Ld (W.alloc (.cells #[.int .i64 x, .int .i64 y, .int .i64 z, .int .i64 u] t)) (.slice (some ⟨n, 0, none⟩) 4 4) [x, y, z, u] := by
  subst h; exact Ld.of_blk (ls := [x, y, z, u]) (Blk.new W t _) (Nat.le_refl _)

theorem two_al {w W : World} {B : Nat} (h : Below B w W) (hB : B ≤ W.heap.size) (x y : Obj) : Below B w ((W.alloc x).alloc y) := (h.alloc hB x).alloc (by simp; omega) y
set_option maxRecDepth 100000 in
set_option maxHeartbeats 8000000 in
theorem wakes7_any (w : World) : Calls Try.prog 29 #[] w fun e w' => e = .returned (.bool true) ∧ Below w.heap.size w w' := by
  have K1 := Lib.hid ((Below.refl w.heap.size w).alloc (Nat.le_refl _) (.cells #[.int .i64 2, .int .i64 2] 3))
  go_enter Try.func29, Try.ntmps29
  go_wp2_with (first
    | (go_at_call 24; (with_reducible refine (of7 _ _ (ld2 rfl)).mono ?_); rintro e w1 ⟨o1, c1, o2, c2, rfl, h1, h2, hb1⟩; have B1 := K1.out.trans (hb1.mono (by simp)); have H1 := Lib.hid (And.intro h1 h2); clear h1 h2 hb1)
    | (go_at_call 19; (with_reducible refine (tr7 _ _ _ _ (H1.out.1.below (two_al (Below.refl _ _) (Nat.le_refl _) _ _)) (H1.out.2.below (two_al (Below.refl _ _) (Nat.le_refl _) _ _)) (ld2 (World.size_alloc _ _))).mono ?_); rintro e w2 ⟨o3, c3, o4, c4, rfl, h1, h2, hb2⟩; have B2 := (two_al B1 B1.size _ _).trans (hb2.mono (by have := B1.size; simp; omega)); have H2 := Lib.hid (And.intro h1 h2); clear h1 h2 hb2)
    | (go_at_call 37; (with_reducible refine (cp7 _ _ _ _ (H2.out.1.below (two_al (Below.refl _ _) (Nat.le_refl _) _ _)) (H2.out.2.below (two_al (Below.refl _ _) (Nat.le_refl _) _ _)) (ld4 (World.size_alloc _ _))).mono ?_); rintro e w3 ⟨o6, c6, o5, c5, rfl, h1, hb3⟩; have B3 := (two_al B2 B2.size _ _).trans (hb3.mono (by have := B2.size; simp; omega)); have H3 := Lib.hid h1; clear h1 hb3)
    | (go_at_call 40; (with_reducible refine (eq7 _ _ _ (H3.out.below (two_al (Below.refl _ _) (Nat.le_refl _) _ _)) (ld4 (World.size_alloc _ _))).mono ?_); rintro e w4 ⟨rfl, hb4⟩; have B4 := (two_al B3 B3.size _ _).trans (hb4.mono (by have := B3.size; simp; omega)); clear hb4)
    | (go_at_call 27; (with_reducible refine (num7_any _ _).mono ?_); rintro e w' ⟨rfl, rfl⟩))
  go_ret
  exact ⟨rfl, B4⟩
end Go.Proofs.Ytdcmcfmodbdhaaa
