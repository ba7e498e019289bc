/-
  ConvAlone's loop.
-/
import Derived.Test.YtnlfljekbknaaaaM15
import Derived.Test.YtnlfljekbknaaaaM17
import Derived.Test.YtnlfljekbknaaaaM18
namespace Go.Proofs.Ytnlfljekbknaaaa
open Go.RowKit Go.Shelf


set_option maxRecDepth 100000 in
set_option maxHeartbeats 20000000 in
theorem convalone_any (bb oo len cap : Nat) (es : Nat → Ck) (w : World) (_hl : len ≤ 9223372036854775807) (hb : bb < w.heap.size) (hT : ∀ i, i < len → CkAt w bb (oo + i * 11) (es i)) (hok : ∀ i, i < len → (es i).ok w) :
    Calls Try.prog 3 #[.slice (some ⟨bb, oo, none⟩) len cap] w fun e w' => e = .returned (.bool true) ∧ Below w.heap.size w w' := by
  have HT := Lib.hid (And.intro hT hok)
  clear hT hok
  go_enter Try.func3, Try.ntmps3
  go_wp2
  go_loopw [3] (fun s3 wQ => ∃ k : Nat, k ≤ len ∧ s3 = .int .i64 k ∧ Below w.heap.size w wQ) (fun s3 _ => len - (intOf s3).toNat)
  case atStart => exact ⟨0, Nat.zero_le _, rfl, Below.refl _ _⟩
  case round =>
    obtain ⟨k, hk, rfl, hB⟩ := hrel
    have hBs := hB.size
    obtain ⟨w1, hw1⟩ : ∃ w1, w1 = wr := ⟨_, rfl⟩
    subst hw1
    by_cases g : k < len ∧ k < 4
    · obtain ⟨g1, g2⟩ := g
      obtain ⟨t0, t1, t2, t3, t4, t5, t6, t7, t8, t9, t10⟩ := (HT.out.1 k (by omega)).below hB hb
      obtain ⟨⟨h0, h1, h2, h3, h4, h5, h6, h7, h8, h9⟩, ⟨l0, l1, l2, l3, l4, l5, l6, l7, l8, l9⟩, ⟨a0, a1⟩⟩ := HT.out.2 k (by omega)
      replace h0 := h0.below hB
      replace h1 := h1.below hB
      replace h2 := h2.below hB
      replace h3 := h3.below hB
      replace h4 := h4.below hB
      replace h5 := h5.below hB
      replace h6 := h6.below hB
      replace h7 := h7.below hB
      replace h8 := h8.below hB
      replace h9 := h9.below hB
      generalize es k = p at *
      obtain ⟨vX, vV, vW, vY, vK, vS, vP, vD, vQ, vR, sx, dx, sw, dw, zk, zs, zp, zd, zq, zr, f⟩ := p
      simp only at t0 t1 t2 t3 t4 t5 t6 t7 t8 t9 t10 h0 h1 h2 h3 h4 h5 h6 h7 h8 h9 l0 l1 l2 l3 l4 l5 l6 l7 l8 l9 a0 a1
      obtain ⟨oX, cX, rfl, _, _⟩ := id h0
      obtain ⟨oV, cV, rfl, _, _⟩ := id h1
      obtain ⟨oW, cW, rfl, _, _⟩ := id h2
      obtain ⟨oY, cY, rfl, _, _⟩ := id h3
      obtain ⟨oK, cK, rfl, _, _⟩ := id h4
      obtain ⟨oS, cS, rfl, _, _⟩ := id h5
      obtain ⟨oP, cP, rfl, _, _⟩ := id h6
      obtain ⟨oD, cD, rfl, _, _⟩ := id h7
      obtain ⟨oQ, cQ, rfl, _, _⟩ := id h8
      obtain ⟨oR, cR, rfl, _, _⟩ := id h9
      have K0 := Lib.hid (fun o => (Below.refl w1.heap.size w1).alloc (Nat.le_refl _) o)
      have K4 := Lib.hid (Blk.new w1 30 #[.slice oX sx.length cX, .slice oV dx.length cV, .slice oW sw.length cW, .slice oY dw.length cY, .slice oK zk.length cK, .slice oS zs.length cS, .slice oP zp.length cP, .slice oD zd.length cD, .slice oQ zq.length cQ, .slice oR zr.length cR, .int .i64 f])
      obtain ⟨FR, hFR⟩ : ∃ FR : World → Prop, FR = fun W => Below w1.heap.size w1 W ∧ Blk W w1.heap.size 30 #[.slice oX sx.length cX, .slice oV dx.length cV, .slice oW sw.length cW, .slice oY dw.length cY, .slice oK zk.length cK, .slice oS zs.length cS, .slice oP zp.length cP, .slice oD zd.length cD, .slice oQ zq.length cQ, .slice oR zr.length cR, .int .i64 f] := ⟨_, rfl⟩
      have FRb : Hid (∀ W, FR W → Below w1.heap.size w1 W) := Lib.hid (fun W h => by rw [hFR] at h; exact h.1)
      have FRk := Lib.hid (fun (W : World) (h : FR W) => blk11 (by rw [hFR] at h; exact h.2 : Blk W w1.heap.size 30 #[.slice oX sx.length cX, .slice oV dx.length cV, .slice oW sw.length cW, .slice oY dw.length cY, .slice oK zk.length cK, .slice oS zs.length cS, .slice oP zp.length cP, .slice oD zd.length cD, .slice oQ zq.length cQ, .slice oR zr.length cR, .int .i64 f]))
      have FRn : Hid (∀ W W', FR W → Below W.heap.size W W' → FR W') := Lib.hid (fun W W' h hb => by rw [hFR] at h ⊢; exact ⟨h.1.trans (hb.mono h.1.size), h.2.below hb h.2.lt⟩)
      have FRs : Hid (∀ W, Below (w1.alloc (.cells #[.slice oX sx.length cX, .slice oV dx.length cV, .slice oW sw.length cW, .slice oY dw.length cY, .slice oK zk.length cK, .slice oS zs.length cS, .slice oP zp.length cP, .slice oD zd.length cD, .slice oQ zq.length cQ, .slice oR zr.length cR, .int .i64 f] 30)).heap.size (w1.alloc (.cells #[.slice oX sx.length cX, .slice oV dx.length cV, .slice oW sw.length cW, .slice oY dw.length cY, .slice oK zk.length cK, .slice oS zs.length cS, .slice oP zp.length cP, .slice oD zd.length cD, .slice oQ zq.length cQ, .slice oR zr.length cR, .int .i64 f] 30)) W → FR W) := Lib.hid (fun W h => by rw [hFR]; exact ⟨(K0.out _).trans (h.mono (by simp)), K4.out.below h K4.out.lt⟩)
      clear hFR
      have HVY := Lib.hid (fun (W : World) (hW : Below w1.heap.size w1 W) => heavy11_any _ _ _ _ _ _ _ _ _ _ sx dx sw dw zk zs zp zd zq zr f W (h0.below hW) (h1.below hW) (h2.below hW) (h3.below hW) (h4.below hW) (h5.below hW) (h6.below hW) (h7.below hW) (h8.below hW) (h9.below hW) (by omega) (by omega) (by omega) (by omega) (by omega) (by omega) (by omega) (by omega) (by omega) (by omega))
      have HL := Lib.hid (And.intro h0 (And.intro h1 (And.intro h2 (And.intro h3 (And.intro h4 (And.intro h5 (And.intro h6 h7)))))))
      obtain ⟨TA, hTA⟩ : ∃ b, b = tnb sx dx := ⟨_, rfl⟩
      obtain ⟨TB, hTB⟩ : ∃ b, b = tnb sw dw := ⟨_, rfl⟩
      obtain ⟨OK, hOK⟩ : ∃ b, b = (TA && TB) := ⟨_, rfl⟩
      have HTA := Lib.hid hTA
      have HTB := Lib.hid hTB
      have HOK := Lib.hid hOK
      clear h0 h1 h2 h3 h4 h5 h6 h7 h8 h9 hTA hTB hOK
      go_upto_region 5 with fail
      go_cut [33] (fun s33 wx => ∃ b, s33 = .bool b ∧ Hid (b = false → sx.length ≤ 8 ∧ sw.length ≤ 8) ∧ Hid (FR wx))
      case first =>
        as_aux_lemma =>
        go_wp2_with (go_at_call 11; (with_reducible refine (HVY.out _ (K0.out _)).mono ?_); rintro e w2 ⟨b, rfl, hq, hb2⟩; have F2 := Lib.hid (FRs.out _ hb2); have HQ := Lib.hid hq; clear hb2 hq)
        go_meet
        exact ⟨_, rfl, HQ, F2⟩
      case rest =>
        as_aux_lemma =>
        obtain ⟨bH, rfl, HQ, FD⟩ := hcut
        obtain ⟨we, hwd⟩ : ∃ v, v = wc := ⟨_, rfl⟩
        rw [← hwd] at FD ⊢
        clear hwd
        cases bH with
        | true =>
          as_aux_lemma =>
          go_wp2
          go_ret
          exact ⟨rfl, hB.trans ((FRb.out _ FD.out).mono hBs)⟩
        | false =>
          as_aux_lemma =>
          have KMA := Lib.hid (fun (W : World) (hW : Below w1.heap.size w1 W) => rmay8_any _ _ sx dx W (HL.out.1.below hW) (HL.out.2.1.below hW) (by have := HQ.out rfl; omega) (by omega))
          have KMB := Lib.hid (fun (W : World) (hW : Below w1.heap.size w1 W) => rmay8_any _ _ sw dw W (HL.out.2.2.1.below hW) (HL.out.2.2.2.1.below hW) (by have := HQ.out rfl; omega) (by omega))
          rw [← HTA.out] at KMA
          rw [← HTB.out] at KMB
          obtain ⟨x0, x1, x2, x3, x4, x5, x6, x7, x8, x9, x10⟩ := FRk.out _ FD.out
          go_upto_region 7 with fail
          go_cut [43] (fun s43 wx => s43 = .bool (!OK) ∧ Hid (FR wx))
          case first =>
            as_aux_lemma =>
            cases TA with
            | false =>
              go_wp2_with (go_at_call 12; (with_reducible refine (KMA.out _ (FRb.out _ FD.out)).mono ?_); rintro e w4 ⟨rfl, hb4⟩; have F4 := Lib.hid (FRn.out _ _ FD.out hb4); obtain ⟨x0, x1, x2, x3, x4, x5, x6, x7, x8, x9, x10⟩ := FRk.out _ F4.out; clear hb4)
              go_meet
              exact ⟨by rw [HOK.out]; rfl, F4⟩
            | true =>
              cases TB with
              | false =>
                go_wp2_with (first | (go_at_call 12; (with_reducible refine (KMA.out _ (FRb.out _ FD.out)).mono ?_); rintro e w4 ⟨rfl, hb4⟩; have F4 := Lib.hid (FRn.out _ _ FD.out hb4); obtain ⟨x0, x1, x2, x3, x4, x5, x6, x7, x8, x9, x10⟩ := FRk.out _ F4.out; clear hb4) | (go_at_call 12; (with_reducible refine (KMB.out _ (FRb.out _ F4.out)).mono ?_); rintro e w5 ⟨rfl, hb5⟩; have F5 := Lib.hid (FRn.out _ _ F4.out hb5); clear hb5))
                go_meet
                exact ⟨by rw [HOK.out]; rfl, F5⟩
              | true =>
                go_wp2_with (first | (go_at_call 12; (with_reducible refine (KMA.out _ (FRb.out _ FD.out)).mono ?_); rintro e w4 ⟨rfl, hb4⟩; have F4 := Lib.hid (FRn.out _ _ FD.out hb4); obtain ⟨x0, x1, x2, x3, x4, x5, x6, x7, x8, x9, x10⟩ := FRk.out _ F4.out; clear hb4) | (go_at_call 12; (with_reducible refine (KMB.out _ (FRb.out _ F4.out)).mono ?_); rintro e w5 ⟨rfl, hb5⟩; have F5 := Lib.hid (FRn.out _ _ F4.out hb5); clear hb5))
                go_meet
                exact ⟨by rw [HOK.out]; rfl, F5⟩
          case rest =>
            as_aux_lemma =>
            clear x0 x1 x2 x3 x4 x5 x6 x7 x8 x9 x10
            obtain ⟨rfl, F5⟩ := hcut
            obtain ⟨wd, hwd⟩ : ∃ v, v = wc := ⟨_, rfl⟩
            rw [← hwd] at F5 ⊢
            clear hwd
            cases OK with
            | false =>
              as_aux_lemma =>
              go_wp2
              exact ⟨⟨k + 1, by omega, by go_num, hB.trans ((FRb.out _ F5.out).mono hBs)⟩, by simp [intOf]; omega⟩
            | true =>
              as_aux_lemma =>
              obtain ⟨ta, tb⟩ : tnb sx dx = true ∧ tnb sw dw = true := by have := HOK.out; rw [HTA.out, HTB.out] at this; simpa using this.symm
              obtain ⟨fN, hfN⟩ : ∃ fN : Nat, (fN : Int) = 8 + f % 18446744073709551616 % 25 := ⟨(8 + f % 18446744073709551616 % 25).toNat, by omega⟩
              have hfb : fb fN = true := fb_mk (by omega)
              have KFF : Hid (∀ W : World, Calls Try.prog 13 #[.int .i64 f] W fun e w' => e = .returned (.int .i64 (fN : Int)) ∧ W = w') := Lib.hid (fun W => by rw [hfN]; exact ff_any f W)
              obtain ⟨E, S, D, hA, hSD⟩ := alone_tot (ks := zk) (s := zs) (p := zp) (d := zd) ta tb hfb (by omega) (by omega) (by omega) (by omega)
              obtain ⟨mS, hmS⟩ : ∃ m, m = S.length := ⟨_, rfl⟩
              obtain ⟨mD, hmD⟩ : ∃ m, m = D.length := ⟨_, rfl⟩
              have HA := Lib.hid hA
              have HMS := Lib.hid hmS
              have HMD := Lib.hid hmD
              have HLW : Hid (∀ W, FR W → Ld W (.slice oX sx.length cX) sx ∧ Ld W (.slice oV dx.length cV) dx ∧ Ld W (.slice oW sw.length cW) sw ∧ Ld W (.slice oY dw.length cY) dw ∧ Ld W (.slice oK zk.length cK) zk ∧ Ld W (.slice oS zs.length cS) zs ∧ Ld W (.slice oP zp.length cP) zp ∧ Ld W (.slice oD zd.length cD) zd) := Lib.hid (fun W h => by
                obtain ⟨h1, h2, h3, h4, h5, h6, h7, h8⟩ := HL.out
                have q := FRb.out _ h
                exact ⟨h1.below q, h2.below q, h3.below q, h4.below q, h5.below q, h6.below q, h7.below q, h8.below q⟩)
              have KCV := Lib.hid (fun (W : World) (h : FR W) => (HA.out.1 W _ _ _ _ _ _ _ _ (HLW.out W h).1 (HLW.out W h).2.1 (HLW.out W h).2.2.1 (HLW.out W h).2.2.2.1 (HLW.out W h).2.2.2.2.1 (HLW.out W h).2.2.2.2.2.1 (HLW.out W h).2.2.2.2.2.2.1 (HLW.out W h).2.2.2.2.2.2.2).mono (fun _ _ hh => tzL_of HMS.out HMD.out hh))
              have HSD := Lib.hid hSD
              have HTT := Lib.hid (And.intro ta tb)
              clear hA hmS hmD hSD ta tb hfb hfN
              obtain ⟨x0, x1, x2, x3, x4, x5, x6, x7, x8, x9, x10⟩ := FRk.out _ F5.out
              go_upto_region 9 with (go_at_call 13; (with_reducible refine (KFF.out _).mono ?_); rintro e w' ⟨rfl, rfl⟩)
              go_upto_region 10 with (go_at_call 14; (with_reducible refine (KCV.out _ F5.out).mono ?_); rintro e wz1 ⟨os1, cs1, od1, cd1, rfl, h1, h2, hb⟩; have U1 := Lib.hid (And.intro (FRn.out _ _ F5.out hb) (And.intro h1 h2)); clear h1 h2 hb)
              obtain ⟨v1, hv⟩ : ∃ v, v = wz1.alloc (.cells #[.slice os1 mS cs1, .slice od1 mD cd1] 26) := ⟨_, rfl⟩
              obtain ⟨T1, hT⟩ : ∃ T, T = wz1.heap.size := ⟨_, rfl⟩
              rw [← hv, ← hT]
              obtain ⟨P1, hP⟩ : ∃ P : World → Prop, P = fun W => FR W ∧ Blk W T1 26 #[.slice os1 mS cs1, .slice od1 mD cd1] ∧ Ld W (.slice os1 mS cs1) (S) ∧ Ld W (.slice od1 mD cd1) (D) := ⟨_, rfl⟩
              have G1 : Hid (P1 v1) := Lib.hid (by rw [hP]; exact ⟨by rw [hv]; exact FRn.out _ _ U1.out.1 (al_below _), by rw [hv, hT]; exact Blk.new _ _ _, by rw [hv]; exact U1.out.2.1.below (al_below _), by rw [hv]; exact U1.out.2.2.below (al_below _)⟩)
              have P1f : Hid (∀ W, P1 W → FR W) := Lib.hid (fun W h => by rw [hP] at h; exact h.1)
              have P1n : Hid (∀ W W', P1 W → Below W.heap.size W W' → P1 W') := Lib.hid (fun W W' h hb => by rw [hP] at h ⊢; exact ⟨FRn.out _ _ h.1 hb, h.2.1.below hb h.2.1.lt, h.2.2.1.below hb, h.2.2.2.below hb⟩)
              have P1t : Hid (∀ W, P1 W → (W.cell? ⟨T1, 0, none⟩ = some (.slice os1 mS cs1) ∧ W.cell? ⟨T1, 1, none⟩ = some (.slice od1 mD cd1)) ∧ Ld W (.slice os1 mS cs1) (S) ∧ Ld W (.slice od1 mD cd1) (D)) := Lib.hid (fun W h => by rw [hP] at h; exact ⟨⟨(blk2 h.2.1).1, (blk2 h.2.1).2.1⟩, h.2.2⟩)
              clear hP
              clear hv hT U1 KCV KFF
              clear x0 x1 x2 x3 x4 x5 x6 x7 x8 x9 x10
              have y0 := (P1t.out _ G1.out).1.1
              by_cases hE : E = 0
              · subst hE
                as_aux_lemma =>
                obtain ⟨NX, NK, NA, NB, Ct, ⟨s3, x3, w3⟩, ⟨ex, ew⟩, ⟨elx, elw, elD⟩, hp, hb65, hsub⟩ := HA.out.2 rfl
                have m3 : ¬ mS < 3 := by rw [HMS.out]; omega
                have HX3 := Lib.hid (And.intro x3 w3)
                have HEX := Lib.hid (And.intro ex ew)
                have HNN := Lib.hid (And.intro (And.intro elx (And.intro elw elD)) (And.intro hp hb65))
                have HSUB := Lib.hid hsub
                clear s3 x3 w3 ex ew elx elw elD hp hb65 hsub HA
                go_upto_region 11 with (go_at_call 15; (with_reducible refine (num11_any _ _).mono ?_); rintro e w' ⟨rfl, rfl⟩)
                clear y0 m3
                obtain ⟨gA, fA, hoA, _⟩ := ld_at HL.out.1 (k := 0) (by have := HX3.out; omega)
                subst hoA
                obtain ⟨gB, fB, hoB, _⟩ := ld_at HL.out.2.2.1 (k := 0) (by have := HX3.out; omega)
                subst hoB
                have HPX : Hid (1 ≤ dx.length ∧ 1 ≤ dw.length ∧ 1 ≤ D.length) := Lib.hid (by
                  obtain ⟨⟨e1, e2, e3⟩, ⟨p1, p2, p3, p4, p5⟩, _⟩ := HNN.out
                  rw [e1, e2, e3]
                  exact ⟨Nat.mul_le_mul p1 p3, Nat.mul_le_mul p2 p4, Nat.mul_le_mul (Nat.mul_le_mul p1 p2) p5⟩)
                obtain ⟨gX, fX, hoX, _⟩ := ld_at HL.out.2.1 (k := 0) HPX.out.1
                subst hoX
                obtain ⟨gY, fY, hoY, _⟩ := ld_at HL.out.2.2.2.1 (k := 0) HPX.out.2.1
                subst hoY
                obtain ⟨gD, fD, hoD, _⟩ := ld_at (P1t.out _ G1.out).2.2 (k := 0) HPX.out.2.2
                subst hoD
                have HSA : Hid (∀ W, FR W → W.cell? ⟨gA, fA, none⟩ = some (.int .i64 (NX : Int)) ∧ W.cell? ⟨gB, fB, none⟩ = some (.int .i64 (NK : Int))) := Lib.hid (fun W h => by
                  have h0 := ld_cell (HLW.out W h).1 (k := 0) (by have := HX3.out; omega)
                  have h1 := ld_cell (HLW.out W h).2.2.1 (k := 0) (by have := HX3.out; omega)
                  rw [HEX.out.1] at h0
                  rw [HEX.out.2] at h1
                  exact ⟨h0, h1⟩)
                have HCX : Hid (dx.length ≤ cV ∧ sx.length ≤ cX) := Lib.hid ⟨ld_cap HL.out.2.1, ld_cap HL.out.1⟩
                have HCW : Hid (dw.length ≤ cY ∧ sw.length ≤ cW) := Lib.hid ⟨ld_cap HL.out.2.2.2.1, ld_cap HL.out.2.2.1⟩
                obtain ⟨mX, hmX⟩ : ∃ m, 1 + m = sx.length := ⟨sx.length - 1, by have := HX3.out; omega⟩
                obtain ⟨mW, hmW⟩ : ∃ m, 1 + m = sw.length := ⟨sw.length - 1, by have := HX3.out; omega⟩
                have hsl := And.intro (may_len (tnb_parts HTT.out.1).1) (may_len (tnb_parts HTT.out.2).1)
                have HTMa : Hid (0 < mX ∧ 1 + mX ≤ maxLen ∧ (1 + mX) * 8 ≤ 140737488355328 ∧ 1 + mX = sx.length) := Lib.hid ⟨by have := HX3.out; omega, by unfold maxLen; omega, by omega, hmX⟩
                have HTMb : Hid (0 < mW ∧ 1 + mW ≤ maxLen ∧ (1 + mW) * 8 ≤ 140737488355328 ∧ 1 + mW = sw.length) := Lib.hid ⟨by have := HX3.out; omega, by unfold maxLen; omega, by omega, hmW⟩
                have HTNa : Hid ((ints (sx.drop 1)).length = mX * 1 ∧ ∀ W, FR W → Ld W (.slice (some ⟨gA, fA, none⟩) sx.length cX) sx) := Lib.hid ⟨by simp [ints]; omega, fun W h => (HLW.out W h).1⟩
                have HTNb : Hid ((ints (sw.drop 1)).length = mW * 1 ∧ ∀ W, FR W → Ld W (.slice (some ⟨gB, fB, none⟩) sw.length cW) sw) := Lib.hid ⟨by simp [ints]; omega, fun W h => (HLW.out W h).2.2.1⟩
                have HTLa : Hid ((1 :: sx.drop 1).length = sx.length) := Lib.hid (by simp; omega)
                have HTLb : Hid ((1 :: sw.drop 1).length = sw.length) := Lib.hid (by simp; omega)
                have HQ1 := Lib.hid (nat_quo HNN.out.1.1 HNN.out.2.1.1 (by have := HNN.out.2.2.1; have := HNN.out.1.1; omega))
                have HQ2 := Lib.hid (nat_quo HNN.out.1.2.1 HNN.out.2.1.2.1 (by have := HNN.out.2.2.2.1; have := HNN.out.1.2.1; omega))
                obtain ⟨NXK, hXK⟩ : ∃ m, m = NX * NK := ⟨_, rfl⟩
                have hXK1 : 1 ≤ NXK := by rw [hXK]; exact Nat.mul_le_mul HNN.out.2.1.1 HNN.out.2.1.2.1
                have hXK6 : NXK ≤ 65536 := by
                  have h1 := HNN.out.2.2.2.2
                  have h2 := Nat.mul_le_mul_left (NX * NK) HNN.out.2.1.2.2.2.2
                  omega
                have HNX6 : Hid (NX ≤ 65536) := Lib.hid (by
                  have h2 := Nat.mul_le_mul_left NX HNN.out.2.1.2.1
                  omega)
                have HNK6 : Hid (NK ≤ 65536) := Lib.hid (by
                  have h2 := Nat.mul_le_mul_right NK HNN.out.2.1.1
                  omega)
                have HQM := Lib.hid (nat_wrap hXK hXK6)
                have HQ3 : Hid _ := Lib.hid (nat_quo (show mD = NXK * Ct by rw [HMD.out, hXK]; exact HNN.out.1.2.2) hXK1 (by have := HNN.out.2.2.2.2; have := HNN.out.1.2.2; have := HMD.out; omega))
                have HPT : Hid (∀ i j, i < NX → j < NK → (i * NK + j) * Ct + Ct ≤ D.length) := Lib.hid (fun i j hi hj => by
                  have h1 := (part_le (n := NK) hi rfl).1
                  have h2 : (i * NK + j + 1) * Ct ≤ NX * NK * Ct := Nat.mul_le_mul_right Ct (by omega)
                  rw [Nat.add_mul, Nat.one_mul] at h2
                  rw [HNN.out.1.2.2]; exact h2)
                obtain ⟨i0, hi0, hz0, hz1, hz2⟩ := info_parts infoI
                have z1 : 0 < sx.length := by have := HX3.out; omega
                have z2 : 0 < sw.length := by have := HX3.out; omega
                have z3 : (0 : Int) < (sx.length : Int) := by omega
                have z4 : (0 : Int) < (sw.length : Int) := by omega
                clear hmX hmW hsl hXK hXK1 hXK6 HX3 HEX HPX
                obtain ⟨x0, x1, x2, x3, x4, x5, x6, x7, x8, x9, x10⟩ := FRk.out _ (P1f.out _ G1.out)
                obtain ⟨a0, b0⟩ := HSA.out _ (P1f.out _ G1.out)
                have y1 := (P1t.out _ G1.out).1.2
                go_upto_region 11 with fail
                go_cut [8] (fun s8 wx => s8 = .int .i64 (NA : Int) ∧ Hid (P1 wx))
                case first =>
                  as_aux_lemma =>
                  obtain ⟨e1, e2, e3, e4⟩ := HQ1.out
                  go_quiet (fail)
                  go_wp2
                  go_meet
                  exact ⟨rfl, Lib.hid (P1n.out _ _ G1.out (below_drw (Below.refl _ _) _))⟩
                case rest =>
                  as_aux_lemma =>
                  obtain ⟨rfl, G1a⟩ := hcut
                  obtain ⟨u1, hwd⟩ : ∃ v, v = wc := ⟨_, rfl⟩
                  rw [← hwd] at G1a ⊢
                  clear hwd
                  clear a0 b0 y1
                  clear x0 x1 x2 x3 x4 x5 x6 x7 x8 x9 x10
                  obtain ⟨x0, x1, x2, x3, x4, x5, x6, x7, x8, x9, x10⟩ := FRk.out _ (P1f.out _ G1a.out)
                  obtain ⟨a0, b0⟩ := HSA.out _ (P1f.out _ G1a.out)
                  have y1 := (P1t.out _ G1a.out).1.2
                  go_upto_region 12 with fail
                  go_cut [9] (fun s9 wx => s9 = .int .i64 (NB : Int) ∧ Hid (P1 wx))
                  case first =>
                    as_aux_lemma =>
                    obtain ⟨e1, e2, e3, e4⟩ := HQ2.out
                    go_quiet (fail)
                    go_wp2
                    go_meet
                    exact ⟨rfl, Lib.hid (P1n.out _ _ G1a.out (below_drw (Below.refl _ _) _))⟩
                  case rest =>
                    as_aux_lemma =>
                    obtain ⟨rfl, G1b⟩ := hcut
                    obtain ⟨u2, hwd⟩ : ∃ v, v = wc := ⟨_, rfl⟩
                    rw [← hwd] at G1b ⊢
                    clear hwd
                    clear a0 b0 y1
                    clear x0 x1 x2 x3 x4 x5 x6 x7 x8 x9 x10
                    obtain ⟨x0, x1, x2, x3, x4, x5, x6, x7, x8, x9, x10⟩ := FRk.out _ (P1f.out _ G1b.out)
                    obtain ⟨a0, b0⟩ := HSA.out _ (P1f.out _ G1b.out)
                    have y1 := (P1t.out _ G1b.out).1.2
                    go_upto_region 13 with fail
                    go_cut [10] (fun s10 wx => s10 = .int .i64 (Ct : Int) ∧ Hid (P1 wx))
                    case first =>
                      as_aux_lemma =>
                      obtain ⟨e1, e2, e3, e4⟩ := HQ3.out
                      obtain ⟨e5, e6⟩ := HQM.out
                      go_quiet (fail)
                      go_wp2
                      go_meet
                      exact ⟨rfl, Lib.hid (P1n.out _ _ G1b.out (below_drw (Below.refl _ _) _))⟩
                    case rest =>
                      as_aux_lemma =>
                      obtain ⟨rfl, G1c⟩ := hcut
                      obtain ⟨u3, hwd⟩ : ∃ v, v = wc := ⟨_, rfl⟩
                      rw [← hwd] at G1c ⊢
                      clear hwd
                      clear a0 b0 y1
                      clear x0 x1 x2 x3 x4 x5 x6 x7 x8 x9 x10
                      have hnx6 := HNX6.out
                      go_wp2
                      go_loopw [11] (fun s11 wQ => ∃ i : Nat, i ≤ NX ∧ s11 = .int .i64 i ∧ Hid (P1 wQ)) (fun s11 _ => NX - (intOf s11).toNat)
                      case atStart => exact ⟨0, Nat.zero_le _, rfl, G1c⟩
                      case round =>
                        obtain ⟨i, hi, rfl, HG⟩ := hrel
                        by_cases hlt : i < NX
                        · as_aux_lemma =>
                          obtain ⟨lo1, hlo1⟩ : ∃ m, m = i * NA := ⟨_, rfl⟩
                          obtain ⟨i1, hi1⟩ : ∃ m, m = i + 1 := ⟨_, rfl⟩
                          obtain ⟨hi, hhi⟩ : ∃ m, m = i1 * NA := ⟨_, rfl⟩
                          have hpl := part_le hlt HNN.out.1.1
                          have hhl : lo1 + NA = hi := by rw [hhi, hlo1, hi1]; exact hpl.2.symm
                          have hle : hi ≤ dx.length := by rw [← hhl, hlo1]; exact hpl.1
                          have hbb : dx.length ≤ 65536 := by rw [HNN.out.1.1]; exact HNN.out.2.2.1
                          have HWR := Lib.hid (And.intro (nat_wrap hlo1 (by omega)) (And.intro (nat_wrap hhi (by omega)) (nat_wrap_one hi1 (by have := HNX6.out; omega))))
                          have HHL := Lib.hid (And.intro hhl hle)
                          have HIL := Lib.hid hlt
                          have HLO := Lib.hid hlo1
                          clear hlo1 hi1 hhi hpl hhl hle hbb
                          have rp1 := fun (W : World) => run_tail Try.underlying23 infoI1.1 infoI1.2 gA fA sx.length mX cX HTMa.out.2.2.2.symm HCX.out.2 HTMa.out.1 W
                          have rp2 := fun (W : World) => run_part Try.underlying24 info64m.1 info64m.2 gX fX dx.length cV lo1 hi NA HHL.out.1 (by have := HHL.out.2; have := HCX.out.1; omega) HNN.out.2.1.2.2.1 W
                          obtain ⟨x0, x1, x2, x3, x4, x5, x6, x7, x8, x9, x10⟩ := FRk.out _ (P1f.out _ HG.out)
                          obtain ⟨a0, b0⟩ := HSA.out _ (P1f.out _ HG.out)
                          go_upto_region 17 with fail
                          have KS : Hid (∀ W, P1 W → W.cell? ⟨w1.heap.size, 0, none⟩ = some (.slice (some ⟨gA, fA, none⟩) sx.length cX) ∧ W.cell? ⟨w1.heap.size, 1, none⟩ = some (.slice (some ⟨gX, fX, none⟩) dx.length cV)) := Lib.hid (fun W h => by obtain ⟨x0, x1, x2, x3, x4, x5, x6, x7, x8, x9, x10⟩ := FRk.out _ (P1f.out _ h); exact ⟨x0, x1⟩)
                          obtain ⟨vr, hvr⟩ : ∃ v, v = wr := ⟨_, rfl⟩
                          rw [← hvr] at HG ⊢
                          clear hvr a0 b0
                          clear x0 x1 x2 x3 x4 x5 x6 x7 x8 x9 x10
                          go_cut [12] (fun s12 wx => ∃ T2 g2 c2 : Nat, s12 = .pointer (some ⟨T2, 0, none⟩) ∧ Blk wx T2 26 #[.slice (some ⟨g2, 0, none⟩) sx.length c2, .slice (some ⟨gX, fX + lo1, none⟩) NA (cV - lo1)] ∧ Hid (Ld wx (.slice (some ⟨g2, 0, none⟩) sx.length c2) (1 :: sx.drop 1)) ∧ Hid (P1 wx))
                          case first =>
                            as_aux_lemma =>
                            obtain ⟨⟨e1, e2⟩, ⟨e3, e4⟩, e5, e6⟩ := HWR.out
                            have B_0 : Hid (Below vr.heap.size vr vr.drew) := Lib.hid (below_drw (Below.refl _ _) 1)
                            have GB_0 := Lib.hid (P1n.out _ _ HG.out B_0.out)
                            refine wp_region_held_drew (S := fun W => W.cell? ⟨w1.heap.size, 0, none⟩ = some (.slice (some ⟨gA, fA, none⟩) sx.length cX) ∧ W.cell? ⟨w1.heap.size, 1, none⟩ = some (.slice (some ⟨gX, fX, none⟩) dx.length cV)) (by kernel_rfl) ?_ (fun hHeld => ?_)
                            · exact KS.out _ GB_0.out
                            have hHd := hHeld
                            generalize vr.drew = w_0 at *
                            (refine wpAnyH_take (i := 1) (oi := ⟨some 112, _, _, _, _, _⟩) (v := ?v1_a1) rfl (by kernel_rfl) (by kernel_rfl) (by kernel_rfl) (fun _ _ _ h => h) (Or.inl ⟨by rfl, ?hy1_a1⟩) (by assumption) ?rest1_a1; (case hy1_a1 => ((intro w hSw); (try dsimp only at hSw); go_simp; first | done | (with_reducible rfl))))
                            (try simp only [Act.put, List.setIfInBounds_toArray, List.set_cons_zero, List.set_cons_succ])
                            (refine wpAnyH_take (i := 2) (oi := ⟨some 113, _, _, _, _, _⟩) (v := ?v2_a2) rfl (by kernel_rfl) (by kernel_rfl) (by kernel_rfl) (fun _ _ _ h => h) (Or.inl ⟨by rfl, ?hy2_a2⟩) (by assumption) ?rest2_a2; (case hy2_a2 => ((intro w hSw); (try dsimp only at hSw); go_simp; first | done | (with_reducible rfl))))
                            (try simp only [Act.put, List.setIfInBounds_toArray, List.set_cons_zero, List.set_cons_succ])
                            (refine wpAnyH_take (i := 3) (oi := ⟨some 114, _, _, _, _, _⟩) (v := ?v3_a3) rfl (by kernel_rfl) (by kernel_rfl) (by kernel_rfl) (fun _ _ _ h => h) (Or.inl ⟨by rfl, ?hy3_a3⟩) (by assumption) ?rest3_a3; (case hy3_a3 => ((intro w hSw); (try dsimp only at hSw); go_simp; first | done | (with_reducible rfl))))
                            (try simp only [Act.put, List.setIfInBounds_toArray, List.set_cons_zero, List.set_cons_succ])
                            (refine wpAnyH_take (i := 4) (oi := ⟨some 115, _, _, _, _, _⟩) (v := ?v4_a4) rfl (by kernel_rfl) (by kernel_rfl) (by kernel_rfl) (fun _ _ _ h => h) (Or.inl ⟨by rfl, ?hy4_a4⟩) (by assumption) ?rest4_a4; (case hy4_a4 => ((intro w hSw); (try dsimp only at hSw); go_simp; first | done | (with_reducible rfl))))
                            (try simp only [Act.put, List.setIfInBounds_toArray, List.set_cons_zero, List.set_cons_succ])
                            (refine wpAnyH_take (i := 6) (oi := ⟨some 117, _, _, _, _, _⟩) (v := ?v6_a5) rfl (by kernel_rfl) (by kernel_rfl) (by kernel_rfl) (fun _ _ _ h => h) (Or.inl ⟨by rfl, ?hy6_a5⟩) (by assumption) ?rest6_a5; (case hy6_a5 => ((intro w hSw); (try dsimp only at hSw); go_simp; first | done | (with_reducible rfl))))
                            (try simp only [Act.put, List.setIfInBounds_toArray, List.set_cons_zero, List.set_cons_succ])
                            (refine wpAnyH_take (i := 7) (oi := ⟨some 118, _, _, _, _, _⟩) (v := ?v7_a6) rfl (by kernel_rfl) (by kernel_rfl) (by kernel_rfl) (fun _ _ _ h => h) (Or.inl ⟨by rfl, ?hy7_a6⟩) (by assumption) ?rest7_a6; (case hy7_a6 => ((intro w hSw); (try dsimp only at hSw); go_simp; first | done | (with_reducible rfl))))
                            (try simp only [Act.put, List.setIfInBounds_toArray, List.set_cons_zero, List.set_cons_succ])
                            (refine wpAnyH_take (i := 8) (oi := ⟨some 119, _, _, _, _, _⟩) (v := ?v8_a7) rfl (by kernel_rfl) (by kernel_rfl) (by kernel_rfl) (fun _ _ _ h => h) (Or.inl ⟨by rfl, ?hy8_a7⟩) (by assumption) ?rest8_a7; (case hy8_a7 => ((intro w hSw); (try dsimp only at hSw); go_simp; first | done | (with_reducible rfl))))
                            (try simp only [Act.put, List.setIfInBounds_toArray, List.set_cons_zero, List.set_cons_succ])
                            (refine wpAnyH_take (i := 9) (oi := ⟨some 120, _, _, _, _, _⟩) (v := ?v9_a8) rfl (by kernel_rfl) (by kernel_rfl) (by kernel_rfl) (fun _ _ _ h => h) (Or.inl ⟨by rfl, ?hy9_a8⟩) (by assumption) ?rest9_a8; (case hy9_a8 => ((intro w hSw); (try dsimp only at hSw); go_simp; first | done | (with_reducible rfl))))
                            (try simp only [Act.put, List.setIfInBounds_toArray, List.set_cons_zero, List.set_cons_succ])
                            (refine wpAnyH_take (i := 10) (oi := ⟨some 121, _, _, _, _, _⟩) (v := ?v10_a9) rfl (by kernel_rfl) (by kernel_rfl) (by kernel_rfl) (fun _ _ _ h => h) (Or.inl ⟨by rfl, ?hy10_a9⟩) (by assumption) ?rest10_a9; (case hy10_a9 => ((intro w hSw); (try dsimp only at hSw); go_simp; first | done | (with_reducible rfl))))
                            (try simp only [Act.put, List.setIfInBounds_toArray, List.set_cons_zero, List.set_cons_succ])
                            (refine wpAnyH_take (i := 11) (oi := ⟨some 122, _, _, _, _, _⟩) (v := ?v11_a10) rfl (by kernel_rfl) (by kernel_rfl) (by kernel_rfl) (fun _ _ _ h => h) (Or.inl ⟨by rfl, ?hy11_a10⟩) (by assumption) ?rest11_a10; (case hy11_a10 => ((intro w hSw); (try dsimp only at hSw); go_simp; first | done | (with_reducible rfl))))
                            (try simp only [Act.put, List.setIfInBounds_toArray, List.set_cons_zero, List.set_cons_succ])
                            (refine wpAnyH_take (i := 12) (oi := ⟨some 123, _, _, _, _, _⟩) (v := ?v12_a11) rfl (by kernel_rfl) (by kernel_rfl) (by kernel_rfl) (fun _ _ _ h => h) (Or.inl ⟨by rfl, ?hy12_a11⟩) (by assumption) ?rest12_a11; (case hy12_a11 => ((intro w hSw); (try dsimp only at hSw); go_simp; first | done | (with_reducible rfl))))
                            (try simp only [Act.put, List.setIfInBounds_toArray, List.set_cons_zero, List.set_cons_succ])
                            (refine wpAnyH_take (i := 13) (oi := ⟨some 124, _, _, _, _, _⟩) (v := ?v13_a12) rfl (by kernel_rfl) (by kernel_rfl) (by kernel_rfl) (fun _ _ _ h => h) (Or.inl ⟨by rfl, ?hy13_a12⟩) (by assumption) ?rest13_a12; (case hy13_a12 => ((intro w hSw); (try dsimp only at hSw); go_simp; first | done | (with_reducible rfl))))
                            (try simp only [Act.put, List.setIfInBounds_toArray, List.set_cons_zero, List.set_cons_succ])
                            (refine wpAnyH_take (i := 14) (oi := ⟨some 125, _, _, _, _, _⟩) (v := ?v14_a13) rfl (by kernel_rfl) (by kernel_rfl) (by kernel_rfl) (fun _ _ _ h => h) (Or.inl ⟨by rfl, ?hy14_a13⟩) (by assumption) ?rest14_a13; (case hy14_a13 => ((intro w hSw); (try dsimp only at hSw); go_simp; first | done | (with_reducible rfl))))
                            (try simp only [Act.put, List.setIfInBounds_toArray, List.set_cons_zero, List.set_cons_succ])
                            (refine wpAnyH_take (i := 15) (oi := ⟨some 126, _, _, _, _, _⟩) (v := ?v15_a14) rfl (by kernel_rfl) (by kernel_rfl) (by kernel_rfl) (fun _ _ _ h => h) (Or.inl ⟨by rfl, ?hy15_a14⟩) (by assumption) ?rest15_a14; (case hy15_a14 => ((intro w hSw); (try dsimp only at hSw); go_simp; first | done | (with_reducible rfl))))
                            (try simp only [Act.put, List.setIfInBounds_toArray, List.set_cons_zero, List.set_cons_succ])
                            (refine wpAnyH_take (i := 16) (oi := ⟨some 127, _, _, _, _, _⟩) (v := ?v16_a15) rfl (by kernel_rfl) (by kernel_rfl) (by kernel_rfl) (fun _ _ _ h => h) (Or.inl ⟨by rfl, ?hy16_a15⟩) (by assumption) ?rest16_a15; (case hy16_a15 => ((intro w hSw); (try dsimp only at hSw); go_simp; first | done | (with_reducible rfl))))
                            (try simp only [Act.put, List.setIfInBounds_toArray, List.set_cons_zero, List.set_cons_succ])
                            refine wpAnyH_ready (rs := [0, 18]) (by kernel_rfl) (by simp) ?_
                            refine AllReadyH.cons (o := ⟨some 111, _, _, _, _, _⟩) rfl (fun K hK => ?_) (AllReadyH.cons (o := ⟨some 12, _, _, _, _, _⟩) rfl (fun K hK => ?_) (AllReadyH.nil))
                            · go_simp
                              have X_1 := Lib.hid (Blk.new w_0 3 #[.int .i64 1])
                              have B_1 := Lib.hid (B_0.out.alloc B_0.out.size (.cells #[.int .i64 1] 3))
                              have O_1 : Hid ((w_0.alloc (.cells #[.int .i64 1] 3)).ownsRow vr.heap.size 3 1 (.slice (some ⟨w_0.heap.size, 0, none⟩) 1 1) 1 [.int .i64 1]) := Lib.hid (Blk.owns (ls := [1]) X_1.out B_0.out.size (by decide))
                              clear X_1
                              refine hK.out _ _ ?_ (fun hHeld => ?_)
                              · (try dsimp only)
                                exact KS.out _ (P1n.out _ _ HG.out B_1.out)
                              clear hK K
                              generalize w_0.alloc (.cells #[.int .i64 1] 3) = w_1 at *
                              (try simp only [Act.put, List.setIfInBounds_toArray, List.set_cons_zero, List.set_cons_succ])
                              refine wpAnyH_ready (rs := [5, 18]) (by kernel_rfl) (by simp) ?_
                              refine AllReadyH.cons (o := ⟨some 116, _, _, _, _, _⟩) rfl (fun K hK => ?_) (AllReadyH.cons (o := ⟨some 12, _, _, _, _, _⟩) rfl (fun K hK => ?_) (AllReadyH.nil))
                              · refine step_append_lies _ (by rfl) (.tmp 111) (.tmp 115) 23 (by rfl) vr.heap.size 3 i0 (.int .i64 0) 1 8 Try.underlying23 hi0 hz0 hz1 hz2 rfl (by decide) (.slice (some ⟨w_0.heap.size, 0, none⟩) 1 1) 1 [.int .i64 1] (by rfl) O_1.out ⟨gA, fA + 1, none⟩ mX (cX - 1) (ints (sx.drop 1)) (by rfl) HTNa.out.1 (tail_news (HTNa.out.2 _ (P1f.out _ (P1n.out _ _ HG.out B_1.out)))) (ints_one _) HTMa.out.1 HTMa.out.2.1 HTMa.out.2.2.1 B_1.out.size w_1.heap.size rfl ?_
                                intro g9 cp9 w_2 hown hgrow hat _
                                rw [HTMa.out.2.2.2] at hown ⊢
                                have O_2 : Hid (w_2.ownsRow vr.heap.size 3 1 (.slice (some ⟨g9, 0, none⟩) sx.length cp9) sx.length (ints (1 :: sx.drop 1))) := Lib.hid hown
                                have B_2 := Lib.hid (B_1.out.grown hgrow B_1.out.size (fun k e => (O_1.out.lt k e).1))
                                clear hown hgrow hat
                                refine hK.out _ _ ?_ (fun hHeld => ?_)
                                · (try dsimp only)
                                  exact KS.out _ (P1n.out _ _ HG.out B_2.out)
                                clear hK K
                                (try simp only [Act.put, List.setIfInBounds_toArray, List.set_cons_zero, List.set_cons_succ])
                                (refine wpAnyH_take (i := 17) (oi := ⟨some 128, _, _, _, _, _⟩) (v := ?v17_a16) rfl (by kernel_rfl) (by kernel_rfl) (by kernel_rfl) (fun _ _ _ h => h) (Or.inl ⟨by rfl, ?hy17_a16⟩) (by assumption) ?rest17_a16; (case hy17_a16 => ((intro w hSw); (try dsimp only at hSw); go_simp; first | done | (with_reducible rfl))))
                                (try simp only [Act.put, List.setIfInBounds_toArray, List.set_cons_zero, List.set_cons_succ])
                                refine wpAnyH_ready (rs := [18]) (by kernel_rfl) (by simp) ?_
                                refine AllReadyH.cons (o := ⟨some 12, _, _, _, _, _⟩) rfl (fun K hK => ?_) (AllReadyH.nil)
                                go_simp
                                have Z_3 := Lib.hid (Blk.new w_2 26 #[.slice none 0 0, .slice none 0 0])
                                have B_3 := Lib.hid (B_2.out.alloc B_2.out.size (.cells #[.slice none 0 0, .slice none 0 0] 26))
                                have ZS_3 := Lib.hid (B_2.out.size)
                                have O_3 := Lib.hid (O_2.out.alloc (.cells #[.slice none 0 0, .slice none 0 0] 26))
                                refine hK.out _ _ ?_ (fun hHeld => ?_)
                                · (try dsimp only)
                                  exact KS.out _ (P1n.out _ _ HG.out B_3.out)
                                clear hK K
                                generalize w_2.alloc (.cells #[.slice none 0 0, .slice none 0 0] 26) = w_3 at *
                                (try simp only [Act.put, List.setIfInBounds_toArray, List.set_cons_zero, List.set_cons_succ])
                                refine wpAnyH_ready (rs := [19]) (by kernel_rfl) (by simp) ?_
                                refine AllReadyH.cons (o := ⟨none, _, _, _, _, _⟩) rfl (fun K hK => ?_) (AllReadyH.nil)
                                obtain ⟨p0, p1, pf0, pf1⟩ := blk2 Z_3.out
                                go_simp
                                refine hK.out _ _ ?_ (fun hHeld => ?_)
                                · (try dsimp only)
                                  exact KS.out _ (P1n.out _ _ HG.out ((B_3.out.setCell (p := ⟨_, 0, none⟩) ZS_3.out _).setCell (p := ⟨_, 1, none⟩) ZS_3.out _))
                                clear hK K
                                (try simp only [Act.put, List.setIfInBounds_toArray, List.set_cons_zero, List.set_cons_succ])
                                refine wpAnyH_done (by kernel_rfl) ?_ _
                                have ZF_1 := Lib.hid (Z_3.out.set_ 0 (.slice (some ⟨g9, 0, none⟩) sx.length cp9))
                                have ZF_2 := Lib.hid (ZF_1.out.set_ 1 (.slice (some ⟨gX, fX + lo1, none⟩) NA (cV - lo1)))
                                have OF_1 := Lib.hid (own_setx (i := 0) (z := .slice (some ⟨g9, 0, none⟩) sx.length cp9) O_3.out Z_3.out (by decide))
                                have OF_2 := Lib.hid (own_setx (i := 1) (z := .slice (some ⟨gX, fX + lo1, none⟩) NA (cV - lo1)) OF_1.out ZF_1.out (by decide))
                                have LF := Lib.hid (Ld.of_own' OF_2.out HTLa.out)
                                have BF_1 := Lib.hid (B_3.out.setCell (p := ⟨w_2.heap.size, 0, none⟩) ZS_3.out (.slice (some ⟨g9, 0, none⟩) sx.length cp9))
                                have BF_2 := Lib.hid (BF_1.out.setCell (p := ⟨w_2.heap.size, 1, none⟩) ZS_3.out (.slice (some ⟨gX, fX + lo1, none⟩) NA (cV - lo1)))
                                have PF := Lib.hid (P1n.out _ _ HG.out BF_2.out)
                                clear OF_1 OF_2 ZF_1 BF_1 BF_2
                                go_wp2
                                go_meet
                                exact ⟨_, g9, cp9, rfl, ZF_2.out, LF, PF⟩
                              · go_simp
                                have Z_4 := Lib.hid (Blk.new w_1 26 #[.slice none 0 0, .slice none 0 0])
                                have B_4 := Lib.hid (B_1.out.alloc B_1.out.size (.cells #[.slice none 0 0, .slice none 0 0] 26))
                                have ZS_4 := Lib.hid (B_1.out.size)
                                have O_4 := Lib.hid (O_1.out.alloc (.cells #[.slice none 0 0, .slice none 0 0] 26))
                                refine hK.out _ _ ?_ (fun hHeld => ?_)
                                · (try dsimp only)
                                  exact KS.out _ (P1n.out _ _ HG.out B_4.out)
                                clear hK K
                                generalize w_1.alloc (.cells #[.slice none 0 0, .slice none 0 0] 26) = w_4 at *
                                (try simp only [Act.put, List.setIfInBounds_toArray, List.set_cons_zero, List.set_cons_succ])
                                refine wpAnyH_ready (rs := [5]) (by kernel_rfl) (by simp) ?_
                                refine AllReadyH.cons (o := ⟨some 116, _, _, _, _, _⟩) rfl (fun K hK => ?_) (AllReadyH.nil)
                                refine step_append_lies _ (by rfl) (.tmp 111) (.tmp 115) 23 (by rfl) vr.heap.size 3 i0 (.int .i64 0) 1 8 Try.underlying23 hi0 hz0 hz1 hz2 rfl (by decide) (.slice (some ⟨w_0.heap.size, 0, none⟩) 1 1) 1 [.int .i64 1] (by rfl) O_4.out ⟨gA, fA + 1, none⟩ mX (cX - 1) (ints (sx.drop 1)) (by rfl) HTNa.out.1 (tail_news (HTNa.out.2 _ (P1f.out _ (P1n.out _ _ HG.out B_4.out)))) (ints_one _) HTMa.out.1 HTMa.out.2.1 HTMa.out.2.2.1 B_4.out.size w_4.heap.size rfl ?_
                                intro g9 cp9 w_5 hown hgrow hat _
                                rw [HTMa.out.2.2.2] at hown ⊢
                                have O_5 : Hid (w_5.ownsRow vr.heap.size 3 1 (.slice (some ⟨g9, 0, none⟩) sx.length cp9) sx.length (ints (1 :: sx.drop 1))) := Lib.hid hown
                                have B_5 := Lib.hid (B_4.out.grown hgrow B_4.out.size (fun k e => (O_4.out.lt k e).1))
                                have Z_5 : Hid (Blk w_5 w_1.heap.size 26 #[.slice none 0 0, .slice none 0 0]) := Lib.hid ((hgrow.block _ Z_4.out.lt (fun e => own_blk O_4.out Z_4.out (by decide) e.symm)).trans Z_4.out)
                                clear hown hgrow hat
                                refine hK.out _ _ ?_ (fun hHeld => ?_)
                                · (try dsimp only)
                                  exact KS.out _ (P1n.out _ _ HG.out B_5.out)
                                clear hK K
                                (try simp only [Act.put, List.setIfInBounds_toArray, List.set_cons_zero, List.set_cons_succ])
                                (refine wpAnyH_take (i := 17) (oi := ⟨some 128, _, _, _, _, _⟩) (v := ?v17_a17) rfl (by kernel_rfl) (by kernel_rfl) (by kernel_rfl) (fun _ _ _ h => h) (Or.inl ⟨by rfl, ?hy17_a17⟩) (by assumption) ?rest17_a17; (case hy17_a17 => ((intro w hSw); (try dsimp only at hSw); go_simp; first | done | (with_reducible rfl))))
                                (try simp only [Act.put, List.setIfInBounds_toArray, List.set_cons_zero, List.set_cons_succ])
                                refine wpAnyH_ready (rs := [19]) (by kernel_rfl) (by simp) ?_
                                refine AllReadyH.cons (o := ⟨none, _, _, _, _, _⟩) rfl (fun K hK => ?_) (AllReadyH.nil)
                                obtain ⟨p0, p1, pf0, pf1⟩ := blk2 Z_5.out
                                go_simp
                                refine hK.out _ _ ?_ (fun hHeld => ?_)
                                · (try dsimp only)
                                  exact KS.out _ (P1n.out _ _ HG.out ((B_5.out.setCell (p := ⟨_, 0, none⟩) ZS_4.out _).setCell (p := ⟨_, 1, none⟩) ZS_4.out _))
                                clear hK K
                                (try simp only [Act.put, List.setIfInBounds_toArray, List.set_cons_zero, List.set_cons_succ])
                                refine wpAnyH_done (by kernel_rfl) ?_ _
                                have ZF_1 := Lib.hid (Z_5.out.set_ 0 (.slice (some ⟨g9, 0, none⟩) sx.length cp9))
                                have ZF_2 := Lib.hid (ZF_1.out.set_ 1 (.slice (some ⟨gX, fX + lo1, none⟩) NA (cV - lo1)))
                                have OF_1 := Lib.hid (own_setx (i := 0) (z := .slice (some ⟨g9, 0, none⟩) sx.length cp9) O_5.out Z_5.out (by decide))
                                have OF_2 := Lib.hid (own_setx (i := 1) (z := .slice (some ⟨gX, fX + lo1, none⟩) NA (cV - lo1)) OF_1.out ZF_1.out (by decide))
                                have LF := Lib.hid (Ld.of_own' OF_2.out HTLa.out)
                                have BF_1 := Lib.hid (B_5.out.setCell (p := ⟨w_1.heap.size, 0, none⟩) ZS_4.out (.slice (some ⟨g9, 0, none⟩) sx.length cp9))
                                have BF_2 := Lib.hid (BF_1.out.setCell (p := ⟨w_1.heap.size, 1, none⟩) ZS_4.out (.slice (some ⟨gX, fX + lo1, none⟩) NA (cV - lo1)))
                                have PF := Lib.hid (P1n.out _ _ HG.out BF_2.out)
                                clear OF_1 OF_2 ZF_1 BF_1 BF_2
                                go_wp2
                                go_meet
                                exact ⟨_, g9, cp9, rfl, ZF_2.out, LF, PF⟩
                            · go_simp
                              have Z_6 := Lib.hid (Blk.new w_0 26 #[.slice none 0 0, .slice none 0 0])
                              have B_6 := Lib.hid (B_0.out.alloc B_0.out.size (.cells #[.slice none 0 0, .slice none 0 0] 26))
                              have ZS_6 := Lib.hid (B_0.out.size)
                              refine hK.out _ _ ?_ (fun hHeld => ?_)
                              · (try dsimp only)
                                exact KS.out _ (P1n.out _ _ HG.out B_6.out)
                              clear hK K
                              generalize w_0.alloc (.cells #[.slice none 0 0, .slice none 0 0] 26) = w_6 at *
                              (try simp only [Act.put, List.setIfInBounds_toArray, List.set_cons_zero, List.set_cons_succ])
                              refine wpAnyH_ready (rs := [0]) (by kernel_rfl) (by simp) ?_
                              refine AllReadyH.cons (o := ⟨some 111, _, _, _, _, _⟩) rfl (fun K hK => ?_) (AllReadyH.nil)
                              go_simp
                              have X_7 := Lib.hid (Blk.new w_6 3 #[.int .i64 1])
                              have B_7 := Lib.hid (B_6.out.alloc B_6.out.size (.cells #[.int .i64 1] 3))
                              have O_7 : Hid ((w_6.alloc (.cells #[.int .i64 1] 3)).ownsRow vr.heap.size 3 1 (.slice (some ⟨w_6.heap.size, 0, none⟩) 1 1) 1 [.int .i64 1]) := Lib.hid (Blk.owns (ls := [1]) X_7.out B_6.out.size (by decide))
                              clear X_7
                              have Z_7 := Lib.hid (Z_6.out.alloc (.cells #[.int .i64 1] 3))
                              refine hK.out _ _ ?_ (fun hHeld => ?_)
                              · (try dsimp only)
                                exact KS.out _ (P1n.out _ _ HG.out B_7.out)
                              clear hK K
                              generalize w_6.alloc (.cells #[.int .i64 1] 3) = w_7 at *
                              (try simp only [Act.put, List.setIfInBounds_toArray, List.set_cons_zero, List.set_cons_succ])
                              refine wpAnyH_ready (rs := [5]) (by kernel_rfl) (by simp) ?_
                              refine AllReadyH.cons (o := ⟨some 116, _, _, _, _, _⟩) rfl (fun K hK => ?_) (AllReadyH.nil)
                              refine step_append_lies _ (by rfl) (.tmp 111) (.tmp 115) 23 (by rfl) vr.heap.size 3 i0 (.int .i64 0) 1 8 Try.underlying23 hi0 hz0 hz1 hz2 rfl (by decide) (.slice (some ⟨w_6.heap.size, 0, none⟩) 1 1) 1 [.int .i64 1] (by rfl) O_7.out ⟨gA, fA + 1, none⟩ mX (cX - 1) (ints (sx.drop 1)) (by rfl) HTNa.out.1 (tail_news (HTNa.out.2 _ (P1f.out _ (P1n.out _ _ HG.out B_7.out)))) (ints_one _) HTMa.out.1 HTMa.out.2.1 HTMa.out.2.2.1 B_7.out.size w_7.heap.size rfl ?_
                              intro g9 cp9 w_8 hown hgrow hat _
                              rw [HTMa.out.2.2.2] at hown ⊢
                              have O_8 : Hid (w_8.ownsRow vr.heap.size 3 1 (.slice (some ⟨g9, 0, none⟩) sx.length cp9) sx.length (ints (1 :: sx.drop 1))) := Lib.hid hown
                              have B_8 := Lib.hid (B_7.out.grown hgrow B_7.out.size (fun k e => (O_7.out.lt k e).1))
                              have Z_8 : Hid (Blk w_8 w_0.heap.size 26 #[.slice none 0 0, .slice none 0 0]) := Lib.hid ((hgrow.block _ Z_7.out.lt (fun e => own_blk O_7.out Z_7.out (by decide) e.symm)).trans Z_7.out)
                              clear hown hgrow hat
                              refine hK.out _ _ ?_ (fun hHeld => ?_)
                              · (try dsimp only)
                                exact KS.out _ (P1n.out _ _ HG.out B_8.out)
                              clear hK K
                              (try simp only [Act.put, List.setIfInBounds_toArray, List.set_cons_zero, List.set_cons_succ])
                              (refine wpAnyH_take (i := 17) (oi := ⟨some 128, _, _, _, _, _⟩) (v := ?v17_a18) rfl (by kernel_rfl) (by kernel_rfl) (by kernel_rfl) (fun _ _ _ h => h) (Or.inl ⟨by rfl, ?hy17_a18⟩) (by assumption) ?rest17_a18; (case hy17_a18 => ((intro w hSw); (try dsimp only at hSw); go_simp; first | done | (with_reducible rfl))))
                              (try simp only [Act.put, List.setIfInBounds_toArray, List.set_cons_zero, List.set_cons_succ])
                              refine wpAnyH_ready (rs := [19]) (by kernel_rfl) (by simp) ?_
                              refine AllReadyH.cons (o := ⟨none, _, _, _, _, _⟩) rfl (fun K hK => ?_) (AllReadyH.nil)
                              obtain ⟨p0, p1, pf0, pf1⟩ := blk2 Z_8.out
                              go_simp
                              refine hK.out _ _ ?_ (fun hHeld => ?_)
                              · (try dsimp only)
                                exact KS.out _ (P1n.out _ _ HG.out ((B_8.out.setCell (p := ⟨_, 0, none⟩) ZS_6.out _).setCell (p := ⟨_, 1, none⟩) ZS_6.out _))
                              clear hK K
                              (try simp only [Act.put, List.setIfInBounds_toArray, List.set_cons_zero, List.set_cons_succ])
                              refine wpAnyH_done (by kernel_rfl) ?_ _
                              have ZF_1 := Lib.hid (Z_8.out.set_ 0 (.slice (some ⟨g9, 0, none⟩) sx.length cp9))
                              have ZF_2 := Lib.hid (ZF_1.out.set_ 1 (.slice (some ⟨gX, fX + lo1, none⟩) NA (cV - lo1)))
                              have OF_1 := Lib.hid (own_setx (i := 0) (z := .slice (some ⟨g9, 0, none⟩) sx.length cp9) O_8.out Z_8.out (by decide))
                              have OF_2 := Lib.hid (own_setx (i := 1) (z := .slice (some ⟨gX, fX + lo1, none⟩) NA (cV - lo1)) OF_1.out ZF_1.out (by decide))
                              have LF := Lib.hid (Ld.of_own' OF_2.out HTLa.out)
                              have BF_1 := Lib.hid (B_8.out.setCell (p := ⟨w_0.heap.size, 0, none⟩) ZS_6.out (.slice (some ⟨g9, 0, none⟩) sx.length cp9))
                              have BF_2 := Lib.hid (BF_1.out.setCell (p := ⟨w_0.heap.size, 1, none⟩) ZS_6.out (.slice (some ⟨gX, fX + lo1, none⟩) NA (cV - lo1)))
                              have PF := Lib.hid (P1n.out _ _ HG.out BF_2.out)
                              clear OF_1 OF_2 ZF_1 BF_1 BF_2
                              go_wp2
                              go_meet
                              exact ⟨_, g9, cp9, rfl, ZF_2.out, LF, PF⟩
                          case rest =>
                            as_aux_lemma =>
                            obtain ⟨T2, g2, c2, rfl, hba, LS, HG2⟩ := hcut
                            obtain ⟨v2, hwd⟩ : ∃ v, v = wc := ⟨_, rfl⟩
                            rw [← hwd] at hba LS HG2 ⊢
                            clear hwd
                            have LX := Lib.hid (ld_part (HLW.out _ (P1f.out _ HG2.out)).2.1 (lo := lo1) (N := NA) (by have := HHL.out; omega))
                            clear KS rp1 rp2 HHL HWR
                            obtain ⟨P2, hP⟩ : ∃ P : World → Prop, P = fun W => P1 W ∧ Blk W T2 26 #[.slice (some ⟨g2, 0, none⟩) sx.length c2, .slice (some ⟨gX, fX + lo1, none⟩) NA (cV - lo1)] ∧ Ld W (.slice (some ⟨g2, 0, none⟩) sx.length c2) (1 :: sx.drop 1) ∧ Ld W (.slice (some ⟨gX, fX + lo1, none⟩) NA (cV - lo1)) ((dx.drop lo1).take NA) := ⟨_, rfl⟩
                            have G2 : Hid (P2 v2) := Lib.hid (by rw [hP]; exact ⟨HG2.out, hba, LS.out, LX.out⟩)
                            have P2f : Hid (∀ W, P2 W → P1 W) := Lib.hid (fun W h => by rw [hP] at h; exact h.1)
                            have P2n : Hid (∀ W W', P2 W → Below W.heap.size W W' → P2 W') := Lib.hid (fun W W' h hb => by rw [hP] at h ⊢; exact ⟨P1n.out _ _ h.1 hb, h.2.1.below hb h.2.1.lt, h.2.2.1.below hb, h.2.2.2.below hb⟩)
                            have P2t : Hid (∀ W, P2 W → (W.cell? ⟨T2, 0, none⟩ = some (.slice (some ⟨g2, 0, none⟩) sx.length c2) ∧ W.cell? ⟨T2, 1, none⟩ = some (.slice (some ⟨gX, fX + lo1, none⟩) NA (cV - lo1))) ∧ Ld W (.slice (some ⟨g2, 0, none⟩) sx.length c2) (1 :: sx.drop 1) ∧ Ld W (.slice (some ⟨gX, fX + lo1, none⟩) NA (cV - lo1)) ((dx.drop lo1).take NA)) := Lib.hid (fun W h => by rw [hP] at h; exact ⟨⟨(blk2 h.2.1).1, (blk2 h.2.1).2.1⟩, h.2.2⟩)
                            clear hP
                            clear hba LS LX HG2
                            have hnk6 := HNK6.out
                            go_wp2
                            go_loopw [13] (fun s13 wQ => ∃ j : Nat, j ≤ NK ∧ s13 = .int .i64 j ∧ Hid (P2 wQ)) (fun s13 _ => NK - (intOf s13).toNat)
                            case atStart => exact ⟨0, Nat.zero_le _, rfl, G2⟩
                            case round =>
                              obtain ⟨j, hj, rfl, HG⟩ := hrel
                              by_cases hlt : j < NK
                              · as_aux_lemma =>
                                obtain ⟨lo2, hlo2⟩ : ∃ m, m = j * NB := ⟨_, rfl⟩
                                obtain ⟨j1, hj1⟩ : ∃ m, m = j + 1 := ⟨_, rfl⟩
                                obtain ⟨hi2, hhi2⟩ : ∃ m, m = j1 * NB := ⟨_, rfl⟩
                                have hpl := part_le hlt HNN.out.1.2.1
                                have hhl : lo2 + NB = hi2 := by rw [hhi2, hlo2, hj1]; exact hpl.2.symm
                                have hle : hi2 ≤ dw.length := by rw [← hhl, hlo2]; exact hpl.1
                                have hbb : dw.length ≤ 65536 := by rw [HNN.out.1.2.1]; exact HNN.out.2.2.2.1
                                have HWR := Lib.hid (And.intro (nat_wrap hlo2 (by omega)) (And.intro (nat_wrap hhi2 (by omega)) (nat_wrap_one hj1 (by have := HNK6.out; omega))))
                                have HHL := Lib.hid (And.intro hhl hle)
                                obtain ⟨S1, hS1⟩ := HSUB.out i j HIL.out hlt
                                rw [← HLO.out, ← hlo2] at hS1
                                have HS1 := Lib.hid hS1
                                have HJ := Lib.hid (And.intro hlt hlo2)
                                clear hlo2 hj1 hhi2 hpl hhl hle hbb hS1
                                have rp1 := fun (W : World) => run_tail Try.underlying23 infoI1.1 infoI1.2 gB fB sw.length mW cW HTMb.out.2.2.2.symm HCW.out.2 HTMb.out.1 W
                                have rp2 := fun (W : World) => run_part Try.underlying24 info64m.1 info64m.2 gY fY dw.length cY lo2 hi2 NB HHL.out.1 (by have := HHL.out.2; have := HCW.out.1; omega) HNN.out.2.1.2.2.2.1 W
                                obtain ⟨x0, x1, x2, x3, x4, x5, x6, x7, x8, x9, x10⟩ := FRk.out _ (P1f.out _ (P2f.out _ HG.out))
                                obtain ⟨a0, b0⟩ := HSA.out _ (P1f.out _ (P2f.out _ HG.out))
                                go_upto_region 21 with fail
                                have KS : Hid (∀ W, P2 W → W.cell? ⟨w1.heap.size, 2, none⟩ = some (.slice (some ⟨gB, fB, none⟩) sw.length cW) ∧ W.cell? ⟨w1.heap.size, 3, none⟩ = some (.slice (some ⟨gY, fY, none⟩) dw.length cY)) := Lib.hid (fun W h => by obtain ⟨x0, x1, x2, x3, x4, x5, x6, x7, x8, x9, x10⟩ := FRk.out _ (P1f.out _ (P2f.out _ h)); exact ⟨x2, x3⟩)
                                obtain ⟨vs, hvs⟩ : ∃ v, v = wr := ⟨_, rfl⟩
                                rw [← hvs] at HG ⊢
                                clear hvs a0 b0
                                clear x0 x1 x2 x3 x4 x5 x6 x7 x8 x9 x10
                                go_cut [14] (fun s14 wx => ∃ T3 g3 c3 : Nat, s14 = .pointer (some ⟨T3, 0, none⟩) ∧ Blk wx T3 26 #[.slice (some ⟨g3, 0, none⟩) sw.length c3, .slice (some ⟨gY, fY + lo2, none⟩) NB (cY - lo2)] ∧ Hid (Ld wx (.slice (some ⟨g3, 0, none⟩) sw.length c3) (1 :: sw.drop 1)) ∧ Hid (P2 wx))
                                case first =>
                                  as_aux_lemma =>
                                  obtain ⟨⟨e1, e2⟩, ⟨e3, e4⟩, e5, e6⟩ := HWR.out
                                  have B_0 : Hid (Below vs.heap.size vs vs.drew) := Lib.hid (below_drw (Below.refl _ _) 1)
                                  have GB_0 := Lib.hid (P2n.out _ _ HG.out B_0.out)
                                  refine wp_region_held_drew (S := fun W => W.cell? ⟨w1.heap.size, 2, none⟩ = some (.slice (some ⟨gB, fB, none⟩) sw.length cW) ∧ W.cell? ⟨w1.heap.size, 3, none⟩ = some (.slice (some ⟨gY, fY, none⟩) dw.length cY)) (by kernel_rfl) ?_ (fun hHeld => ?_)
                                  · exact KS.out _ GB_0.out
                                  have hHd := hHeld
                                  generalize vs.drew = w_0 at *
                                  (refine wpAnyH_take (i := 1) (oi := ⟨some 139, _, _, _, _, _⟩) (v := ?v1_b1) rfl (by kernel_rfl) (by kernel_rfl) (by kernel_rfl) (fun _ _ _ h => h) (Or.inl ⟨by rfl, ?hy1_b1⟩) (by assumption) ?rest1_b1; (case hy1_b1 => ((intro w hSw); (try dsimp only at hSw); go_simp; first | done | (with_reducible rfl))))
                                  (try simp only [Act.put, List.setIfInBounds_toArray, List.set_cons_zero, List.set_cons_succ])
                                  (refine wpAnyH_take (i := 2) (oi := ⟨some 140, _, _, _, _, _⟩) (v := ?v2_b2) rfl (by kernel_rfl) (by kernel_rfl) (by kernel_rfl) (fun _ _ _ h => h) (Or.inl ⟨by rfl, ?hy2_b2⟩) (by assumption) ?rest2_b2; (case hy2_b2 => ((intro w hSw); (try dsimp only at hSw); go_simp; first | done | (with_reducible rfl))))
                                  (try simp only [Act.put, List.setIfInBounds_toArray, List.set_cons_zero, List.set_cons_succ])
                                  (refine wpAnyH_take (i := 3) (oi := ⟨some 141, _, _, _, _, _⟩) (v := ?v3_b3) rfl (by kernel_rfl) (by kernel_rfl) (by kernel_rfl) (fun _ _ _ h => h) (Or.inl ⟨by rfl, ?hy3_b3⟩) (by assumption) ?rest3_b3; (case hy3_b3 => ((intro w hSw); (try dsimp only at hSw); go_simp; first | done | (with_reducible rfl))))
                                  (try simp only [Act.put, List.setIfInBounds_toArray, List.set_cons_zero, List.set_cons_succ])
                                  (refine wpAnyH_take (i := 4) (oi := ⟨some 142, _, _, _, _, _⟩) (v := ?v4_b4) rfl (by kernel_rfl) (by kernel_rfl) (by kernel_rfl) (fun _ _ _ h => h) (Or.inl ⟨by rfl, ?hy4_b4⟩) (by assumption) ?rest4_b4; (case hy4_b4 => ((intro w hSw); (try dsimp only at hSw); go_simp; first | done | (with_reducible rfl))))
                                  (try simp only [Act.put, List.setIfInBounds_toArray, List.set_cons_zero, List.set_cons_succ])
                                  (refine wpAnyH_take (i := 6) (oi := ⟨some 144, _, _, _, _, _⟩) (v := ?v6_b5) rfl (by kernel_rfl) (by kernel_rfl) (by kernel_rfl) (fun _ _ _ h => h) (Or.inl ⟨by rfl, ?hy6_b5⟩) (by assumption) ?rest6_b5; (case hy6_b5 => ((intro w hSw); (try dsimp only at hSw); go_simp; first | done | (with_reducible rfl))))
                                  (try simp only [Act.put, List.setIfInBounds_toArray, List.set_cons_zero, List.set_cons_succ])
                                  (refine wpAnyH_take (i := 7) (oi := ⟨some 145, _, _, _, _, _⟩) (v := ?v7_b6) rfl (by kernel_rfl) (by kernel_rfl) (by kernel_rfl) (fun _ _ _ h => h) (Or.inl ⟨by rfl, ?hy7_b6⟩) (by assumption) ?rest7_b6; (case hy7_b6 => ((intro w hSw); (try dsimp only at hSw); go_simp; first | done | (with_reducible rfl))))
                                  (try simp only [Act.put, List.setIfInBounds_toArray, List.set_cons_zero, List.set_cons_succ])
                                  (refine wpAnyH_take (i := 8) (oi := ⟨some 146, _, _, _, _, _⟩) (v := ?v8_b7) rfl (by kernel_rfl) (by kernel_rfl) (by kernel_rfl) (fun _ _ _ h => h) (Or.inl ⟨by rfl, ?hy8_b7⟩) (by assumption) ?rest8_b7; (case hy8_b7 => ((intro w hSw); (try dsimp only at hSw); go_simp; first | done | (with_reducible rfl))))
                                  (try simp only [Act.put, List.setIfInBounds_toArray, List.set_cons_zero, List.set_cons_succ])
                                  (refine wpAnyH_take (i := 9) (oi := ⟨some 147, _, _, _, _, _⟩) (v := ?v9_b8) rfl (by kernel_rfl) (by kernel_rfl) (by kernel_rfl) (fun _ _ _ h => h) (Or.inl ⟨by rfl, ?hy9_b8⟩) (by assumption) ?rest9_b8; (case hy9_b8 => ((intro w hSw); (try dsimp only at hSw); go_simp; first | done | (with_reducible rfl))))
                                  (try simp only [Act.put, List.setIfInBounds_toArray, List.set_cons_zero, List.set_cons_succ])
                                  (refine wpAnyH_take (i := 10) (oi := ⟨some 148, _, _, _, _, _⟩) (v := ?v10_b9) rfl (by kernel_rfl) (by kernel_rfl) (by kernel_rfl) (fun _ _ _ h => h) (Or.inl ⟨by rfl, ?hy10_b9⟩) (by assumption) ?rest10_b9; (case hy10_b9 => ((intro w hSw); (try dsimp only at hSw); go_simp; first | done | (with_reducible rfl))))
                                  (try simp only [Act.put, List.setIfInBounds_toArray, List.set_cons_zero, List.set_cons_succ])
                                  (refine wpAnyH_take (i := 11) (oi := ⟨some 149, _, _, _, _, _⟩) (v := ?v11_b10) rfl (by kernel_rfl) (by kernel_rfl) (by kernel_rfl) (fun _ _ _ h => h) (Or.inl ⟨by rfl, ?hy11_b10⟩) (by assumption) ?rest11_b10; (case hy11_b10 => ((intro w hSw); (try dsimp only at hSw); go_simp; first | done | (with_reducible rfl))))
                                  (try simp only [Act.put, List.setIfInBounds_toArray, List.set_cons_zero, List.set_cons_succ])
                                  (refine wpAnyH_take (i := 12) (oi := ⟨some 150, _, _, _, _, _⟩) (v := ?v12_b11) rfl (by kernel_rfl) (by kernel_rfl) (by kernel_rfl) (fun _ _ _ h => h) (Or.inl ⟨by rfl, ?hy12_b11⟩) (by assumption) ?rest12_b11; (case hy12_b11 => ((intro w hSw); (try dsimp only at hSw); go_simp; first | done | (with_reducible rfl))))
                                  (try simp only [Act.put, List.setIfInBounds_toArray, List.set_cons_zero, List.set_cons_succ])
                                  (refine wpAnyH_take (i := 13) (oi := ⟨some 151, _, _, _, _, _⟩) (v := ?v13_b12) rfl (by kernel_rfl) (by kernel_rfl) (by kernel_rfl) (fun _ _ _ h => h) (Or.inl ⟨by rfl, ?hy13_b12⟩) (by assumption) ?rest13_b12; (case hy13_b12 => ((intro w hSw); (try dsimp only at hSw); go_simp; first | done | (with_reducible rfl))))
                                  (try simp only [Act.put, List.setIfInBounds_toArray, List.set_cons_zero, List.set_cons_succ])
                                  (refine wpAnyH_take (i := 14) (oi := ⟨some 152, _, _, _, _, _⟩) (v := ?v14_b13) rfl (by kernel_rfl) (by kernel_rfl) (by kernel_rfl) (fun _ _ _ h => h) (Or.inl ⟨by rfl, ?hy14_b13⟩) (by assumption) ?rest14_b13; (case hy14_b13 => ((intro w hSw); (try dsimp only at hSw); go_simp; first | done | (with_reducible rfl))))
                                  (try simp only [Act.put, List.setIfInBounds_toArray, List.set_cons_zero, List.set_cons_succ])
                                  (refine wpAnyH_take (i := 15) (oi := ⟨some 153, _, _, _, _, _⟩) (v := ?v15_b14) rfl (by kernel_rfl) (by kernel_rfl) (by kernel_rfl) (fun _ _ _ h => h) (Or.inl ⟨by rfl, ?hy15_b14⟩) (by assumption) ?rest15_b14; (case hy15_b14 => ((intro w hSw); (try dsimp only at hSw); go_simp; first | done | (with_reducible rfl))))
                                  (try simp only [Act.put, List.setIfInBounds_toArray, List.set_cons_zero, List.set_cons_succ])
                                  (refine wpAnyH_take (i := 16) (oi := ⟨some 154, _, _, _, _, _⟩) (v := ?v16_b15) rfl (by kernel_rfl) (by kernel_rfl) (by kernel_rfl) (fun _ _ _ h => h) (Or.inl ⟨by rfl, ?hy16_b15⟩) (by assumption) ?rest16_b15; (case hy16_b15 => ((intro w hSw); (try dsimp only at hSw); go_simp; first | done | (with_reducible rfl))))
                                  (try simp only [Act.put, List.setIfInBounds_toArray, List.set_cons_zero, List.set_cons_succ])
                                  refine wpAnyH_ready (rs := [0, 18]) (by kernel_rfl) (by simp) ?_
                                  refine AllReadyH.cons (o := ⟨some 138, _, _, _, _, _⟩) rfl (fun K hK => ?_) (AllReadyH.cons (o := ⟨some 14, _, _, _, _, _⟩) rfl (fun K hK => ?_) (AllReadyH.nil))
                                  · go_simp
                                    have X_9 := Lib.hid (Blk.new w_0 3 #[.int .i64 1])
                                    have B_9 := Lib.hid (B_0.out.alloc B_0.out.size (.cells #[.int .i64 1] 3))
                                    have O_9 : Hid ((w_0.alloc (.cells #[.int .i64 1] 3)).ownsRow vs.heap.size 3 1 (.slice (some ⟨w_0.heap.size, 0, none⟩) 1 1) 1 [.int .i64 1]) := Lib.hid (Blk.owns (ls := [1]) X_9.out B_0.out.size (by decide))
                                    clear X_9
                                    refine hK.out _ _ ?_ (fun hHeld => ?_)
                                    · (try dsimp only)
                                      exact KS.out _ (P2n.out _ _ HG.out B_9.out)
                                    clear hK K
                                    generalize w_0.alloc (.cells #[.int .i64 1] 3) = w_9 at *
                                    (try simp only [Act.put, List.setIfInBounds_toArray, List.set_cons_zero, List.set_cons_succ])
                                    refine wpAnyH_ready (rs := [5, 18]) (by kernel_rfl) (by simp) ?_
                                    refine AllReadyH.cons (o := ⟨some 143, _, _, _, _, _⟩) rfl (fun K hK => ?_) (AllReadyH.cons (o := ⟨some 14, _, _, _, _, _⟩) rfl (fun K hK => ?_) (AllReadyH.nil))
                                    · refine step_append_lies _ (by rfl) (.tmp 138) (.tmp 142) 23 (by rfl) vs.heap.size 3 i0 (.int .i64 0) 1 8 Try.underlying23 hi0 hz0 hz1 hz2 rfl (by decide) (.slice (some ⟨w_0.heap.size, 0, none⟩) 1 1) 1 [.int .i64 1] (by rfl) O_9.out ⟨gB, fB + 1, none⟩ mW (cW - 1) (ints (sw.drop 1)) (by rfl) HTNb.out.1 (tail_news (HTNb.out.2 _ (P1f.out _ (P2f.out _ (P2n.out _ _ HG.out B_9.out))))) (ints_one _) HTMb.out.1 HTMb.out.2.1 HTMb.out.2.2.1 B_9.out.size w_9.heap.size rfl ?_
                                      intro g9 cp9 w_10 hown hgrow hat _
                                      rw [HTMb.out.2.2.2] at hown ⊢
                                      have O_10 : Hid (w_10.ownsRow vs.heap.size 3 1 (.slice (some ⟨g9, 0, none⟩) sw.length cp9) sw.length (ints (1 :: sw.drop 1))) := Lib.hid hown
                                      have B_10 := Lib.hid (B_9.out.grown hgrow B_9.out.size (fun k e => (O_9.out.lt k e).1))
                                      clear hown hgrow hat
                                      refine hK.out _ _ ?_ (fun hHeld => ?_)
                                      · (try dsimp only)
                                        exact KS.out _ (P2n.out _ _ HG.out B_10.out)
                                      clear hK K
                                      (try simp only [Act.put, List.setIfInBounds_toArray, List.set_cons_zero, List.set_cons_succ])
                                      (refine wpAnyH_take (i := 17) (oi := ⟨some 155, _, _, _, _, _⟩) (v := ?v17_b16) rfl (by kernel_rfl) (by kernel_rfl) (by kernel_rfl) (fun _ _ _ h => h) (Or.inl ⟨by rfl, ?hy17_b16⟩) (by assumption) ?rest17_b16; (case hy17_b16 => ((intro w hSw); (try dsimp only at hSw); go_simp; first | done | (with_reducible rfl))))
                                      (try simp only [Act.put, List.setIfInBounds_toArray, List.set_cons_zero, List.set_cons_succ])
                                      refine wpAnyH_ready (rs := [18]) (by kernel_rfl) (by simp) ?_
                                      refine AllReadyH.cons (o := ⟨some 14, _, _, _, _, _⟩) rfl (fun K hK => ?_) (AllReadyH.nil)
                                      go_simp
                                      have Z_11 := Lib.hid (Blk.new w_10 26 #[.slice none 0 0, .slice none 0 0])
                                      have B_11 := Lib.hid (B_10.out.alloc B_10.out.size (.cells #[.slice none 0 0, .slice none 0 0] 26))
                                      have ZS_11 := Lib.hid (B_10.out.size)
                                      have O_11 := Lib.hid (O_10.out.alloc (.cells #[.slice none 0 0, .slice none 0 0] 26))
                                      refine hK.out _ _ ?_ (fun hHeld => ?_)
                                      · (try dsimp only)
                                        exact KS.out _ (P2n.out _ _ HG.out B_11.out)
                                      clear hK K
                                      generalize w_10.alloc (.cells #[.slice none 0 0, .slice none 0 0] 26) = w_11 at *
                                      (try simp only [Act.put, List.setIfInBounds_toArray, List.set_cons_zero, List.set_cons_succ])
                                      refine wpAnyH_ready (rs := [19]) (by kernel_rfl) (by simp) ?_
                                      refine AllReadyH.cons (o := ⟨none, _, _, _, _, _⟩) rfl (fun K hK => ?_) (AllReadyH.nil)
                                      obtain ⟨p0, p1, pf0, pf1⟩ := blk2 Z_11.out
                                      go_simp
                                      refine hK.out _ _ ?_ (fun hHeld => ?_)
                                      · (try dsimp only)
                                        exact KS.out _ (P2n.out _ _ HG.out ((B_11.out.setCell (p := ⟨_, 0, none⟩) ZS_11.out _).setCell (p := ⟨_, 1, none⟩) ZS_11.out _))
                                      clear hK K
                                      (try simp only [Act.put, List.setIfInBounds_toArray, List.set_cons_zero, List.set_cons_succ])
                                      refine wpAnyH_done (by kernel_rfl) ?_ _
                                      have ZF_1 := Lib.hid (Z_11.out.set_ 0 (.slice (some ⟨g9, 0, none⟩) sw.length cp9))
                                      have ZF_2 := Lib.hid (ZF_1.out.set_ 1 (.slice (some ⟨gY, fY + lo2, none⟩) NB (cY - lo2)))
                                      have OF_1 := Lib.hid (own_setx (i := 0) (z := .slice (some ⟨g9, 0, none⟩) sw.length cp9) O_11.out Z_11.out (by decide))
                                      have OF_2 := Lib.hid (own_setx (i := 1) (z := .slice (some ⟨gY, fY + lo2, none⟩) NB (cY - lo2)) OF_1.out ZF_1.out (by decide))
                                      have LF := Lib.hid (Ld.of_own' OF_2.out HTLb.out)
                                      have BF_1 := Lib.hid (B_11.out.setCell (p := ⟨w_10.heap.size, 0, none⟩) ZS_11.out (.slice (some ⟨g9, 0, none⟩) sw.length cp9))
                                      have BF_2 := Lib.hid (BF_1.out.setCell (p := ⟨w_10.heap.size, 1, none⟩) ZS_11.out (.slice (some ⟨gY, fY + lo2, none⟩) NB (cY - lo2)))
                                      have PF := Lib.hid (P2n.out _ _ HG.out BF_2.out)
                                      clear OF_1 OF_2 ZF_1 BF_1 BF_2
                                      go_wp2
                                      go_meet
                                      exact ⟨_, g9, cp9, rfl, ZF_2.out, LF, PF⟩
                                    · go_simp
                                      have Z_12 := Lib.hid (Blk.new w_9 26 #[.slice none 0 0, .slice none 0 0])
                                      have B_12 := Lib.hid (B_9.out.alloc B_9.out.size (.cells #[.slice none 0 0, .slice none 0 0] 26))
                                      have ZS_12 := Lib.hid (B_9.out.size)
                                      have O_12 := Lib.hid (O_9.out.alloc (.cells #[.slice none 0 0, .slice none 0 0] 26))
                                      refine hK.out _ _ ?_ (fun hHeld => ?_)
                                      · (try dsimp only)
                                        exact KS.out _ (P2n.out _ _ HG.out B_12.out)
                                      clear hK K
                                      generalize w_9.alloc (.cells #[.slice none 0 0, .slice none 0 0] 26) = w_12 at *
                                      (try simp only [Act.put, List.setIfInBounds_toArray, List.set_cons_zero, List.set_cons_succ])
                                      refine wpAnyH_ready (rs := [5]) (by kernel_rfl) (by simp) ?_
                                      refine AllReadyH.cons (o := ⟨some 143, _, _, _, _, _⟩) rfl (fun K hK => ?_) (AllReadyH.nil)
                                      refine step_append_lies _ (by rfl) (.tmp 138) (.tmp 142) 23 (by rfl) vs.heap.size 3 i0 (.int .i64 0) 1 8 Try.underlying23 hi0 hz0 hz1 hz2 rfl (by decide) (.slice (some ⟨w_0.heap.size, 0, none⟩) 1 1) 1 [.int .i64 1] (by rfl) O_12.out ⟨gB, fB + 1, none⟩ mW (cW - 1) (ints (sw.drop 1)) (by rfl) HTNb.out.1 (tail_news (HTNb.out.2 _ (P1f.out _ (P2f.out _ (P2n.out _ _ HG.out B_12.out))))) (ints_one _) HTMb.out.1 HTMb.out.2.1 HTMb.out.2.2.1 B_12.out.size w_12.heap.size rfl ?_
                                      intro g9 cp9 w_13 hown hgrow hat _
                                      rw [HTMb.out.2.2.2] at hown ⊢
                                      have O_13 : Hid (w_13.ownsRow vs.heap.size 3 1 (.slice (some ⟨g9, 0, none⟩) sw.length cp9) sw.length (ints (1 :: sw.drop 1))) := Lib.hid hown
                                      have B_13 := Lib.hid (B_12.out.grown hgrow B_12.out.size (fun k e => (O_12.out.lt k e).1))
                                      have Z_13 : Hid (Blk w_13 w_9.heap.size 26 #[.slice none 0 0, .slice none 0 0]) := Lib.hid ((hgrow.block _ Z_12.out.lt (fun e => own_blk O_12.out Z_12.out (by decide) e.symm)).trans Z_12.out)
                                      clear hown hgrow hat
                                      refine hK.out _ _ ?_ (fun hHeld => ?_)
                                      · (try dsimp only)
                                        exact KS.out _ (P2n.out _ _ HG.out B_13.out)
                                      clear hK K
                                      (try simp only [Act.put, List.setIfInBounds_toArray, List.set_cons_zero, List.set_cons_succ])
                                      (refine wpAnyH_take (i := 17) (oi := ⟨some 155, _, _, _, _, _⟩) (v := ?v17_b17) rfl (by kernel_rfl) (by kernel_rfl) (by kernel_rfl) (fun _ _ _ h => h) (Or.inl ⟨by rfl, ?hy17_b17⟩) (by assumption) ?rest17_b17; (case hy17_b17 => ((intro w hSw); (try dsimp only at hSw); go_simp; first | done | (with_reducible rfl))))
                                      (try simp only [Act.put, List.setIfInBounds_toArray, List.set_cons_zero, List.set_cons_succ])
                                      refine wpAnyH_ready (rs := [19]) (by kernel_rfl) (by simp) ?_
                                      refine AllReadyH.cons (o := ⟨none, _, _, _, _, _⟩) rfl (fun K hK => ?_) (AllReadyH.nil)
                                      obtain ⟨p0, p1, pf0, pf1⟩ := blk2 Z_13.out
                                      go_simp
                                      refine hK.out _ _ ?_ (fun hHeld => ?_)
                                      · (try dsimp only)
                                        exact KS.out _ (P2n.out _ _ HG.out ((B_13.out.setCell (p := ⟨_, 0, none⟩) ZS_12.out _).setCell (p := ⟨_, 1, none⟩) ZS_12.out _))
                                      clear hK K
                                      (try simp only [Act.put, List.setIfInBounds_toArray, List.set_cons_zero, List.set_cons_succ])
                                      refine wpAnyH_done (by kernel_rfl) ?_ _
                                      have ZF_1 := Lib.hid (Z_13.out.set_ 0 (.slice (some ⟨g9, 0, none⟩) sw.length cp9))
                                      have ZF_2 := Lib.hid (ZF_1.out.set_ 1 (.slice (some ⟨gY, fY + lo2, none⟩) NB (cY - lo2)))
                                      have OF_1 := Lib.hid (own_setx (i := 0) (z := .slice (some ⟨g9, 0, none⟩) sw.length cp9) O_13.out Z_13.out (by decide))
                                      have OF_2 := Lib.hid (own_setx (i := 1) (z := .slice (some ⟨gY, fY + lo2, none⟩) NB (cY - lo2)) OF_1.out ZF_1.out (by decide))
                                      have LF := Lib.hid (Ld.of_own' OF_2.out HTLb.out)
                                      have BF_1 := Lib.hid (B_13.out.setCell (p := ⟨w_9.heap.size, 0, none⟩) ZS_12.out (.slice (some ⟨g9, 0, none⟩) sw.length cp9))
                                      have BF_2 := Lib.hid (BF_1.out.setCell (p := ⟨w_9.heap.size, 1, none⟩) ZS_12.out (.slice (some ⟨gY, fY + lo2, none⟩) NB (cY - lo2)))
                                      have PF := Lib.hid (P2n.out _ _ HG.out BF_2.out)
                                      clear OF_1 OF_2 ZF_1 BF_1 BF_2
                                      go_wp2
                                      go_meet
                                      exact ⟨_, g9, cp9, rfl, ZF_2.out, LF, PF⟩
                                  · go_simp
                                    have Z_14 := Lib.hid (Blk.new w_0 26 #[.slice none 0 0, .slice none 0 0])
                                    have B_14 := Lib.hid (B_0.out.alloc B_0.out.size (.cells #[.slice none 0 0, .slice none 0 0] 26))
                                    have ZS_14 := Lib.hid (B_0.out.size)
                                    refine hK.out _ _ ?_ (fun hHeld => ?_)
                                    · (try dsimp only)
                                      exact KS.out _ (P2n.out _ _ HG.out B_14.out)
                                    clear hK K
                                    generalize w_0.alloc (.cells #[.slice none 0 0, .slice none 0 0] 26) = w_14 at *
                                    (try simp only [Act.put, List.setIfInBounds_toArray, List.set_cons_zero, List.set_cons_succ])
                                    refine wpAnyH_ready (rs := [0]) (by kernel_rfl) (by simp) ?_
                                    refine AllReadyH.cons (o := ⟨some 138, _, _, _, _, _⟩) rfl (fun K hK => ?_) (AllReadyH.nil)
                                    go_simp
                                    have X_15 := Lib.hid (Blk.new w_14 3 #[.int .i64 1])
                                    have B_15 := Lib.hid (B_14.out.alloc B_14.out.size (.cells #[.int .i64 1] 3))
                                    have O_15 : Hid ((w_14.alloc (.cells #[.int .i64 1] 3)).ownsRow vs.heap.size 3 1 (.slice (some ⟨w_14.heap.size, 0, none⟩) 1 1) 1 [.int .i64 1]) := Lib.hid (Blk.owns (ls := [1]) X_15.out B_14.out.size (by decide))
                                    clear X_15
                                    have Z_15 := Lib.hid (Z_14.out.alloc (.cells #[.int .i64 1] 3))
                                    refine hK.out _ _ ?_ (fun hHeld => ?_)
                                    · (try dsimp only)
                                      exact KS.out _ (P2n.out _ _ HG.out B_15.out)
                                    clear hK K
                                    generalize w_14.alloc (.cells #[.int .i64 1] 3) = w_15 at *
                                    (try simp only [Act.put, List.setIfInBounds_toArray, List.set_cons_zero, List.set_cons_succ])
                                    refine wpAnyH_ready (rs := [5]) (by kernel_rfl) (by simp) ?_
                                    refine AllReadyH.cons (o := ⟨some 143, _, _, _, _, _⟩) rfl (fun K hK => ?_) (AllReadyH.nil)
                                    refine step_append_lies _ (by rfl) (.tmp 138) (.tmp 142) 23 (by rfl) vs.heap.size 3 i0 (.int .i64 0) 1 8 Try.underlying23 hi0 hz0 hz1 hz2 rfl (by decide) (.slice (some ⟨w_14.heap.size, 0, none⟩) 1 1) 1 [.int .i64 1] (by rfl) O_15.out ⟨gB, fB + 1, none⟩ mW (cW - 1) (ints (sw.drop 1)) (by rfl) HTNb.out.1 (tail_news (HTNb.out.2 _ (P1f.out _ (P2f.out _ (P2n.out _ _ HG.out B_15.out))))) (ints_one _) HTMb.out.1 HTMb.out.2.1 HTMb.out.2.2.1 B_15.out.size w_15.heap.size rfl ?_
                                    intro g9 cp9 w_16 hown hgrow hat _
                                    rw [HTMb.out.2.2.2] at hown ⊢
                                    have O_16 : Hid (w_16.ownsRow vs.heap.size 3 1 (.slice (some ⟨g9, 0, none⟩) sw.length cp9) sw.length (ints (1 :: sw.drop 1))) := Lib.hid hown
                                    have B_16 := Lib.hid (B_15.out.grown hgrow B_15.out.size (fun k e => (O_15.out.lt k e).1))
                                    have Z_16 : Hid (Blk w_16 w_0.heap.size 26 #[.slice none 0 0, .slice none 0 0]) := Lib.hid ((hgrow.block _ Z_15.out.lt (fun e => own_blk O_15.out Z_15.out (by decide) e.symm)).trans Z_15.out)
                                    clear hown hgrow hat
                                    refine hK.out _ _ ?_ (fun hHeld => ?_)
                                    · (try dsimp only)
                                      exact KS.out _ (P2n.out _ _ HG.out B_16.out)
                                    clear hK K
                                    (try simp only [Act.put, List.setIfInBounds_toArray, List.set_cons_zero, List.set_cons_succ])
                                    (refine wpAnyH_take (i := 17) (oi := ⟨some 155, _, _, _, _, _⟩) (v := ?v17_b18) rfl (by kernel_rfl) (by kernel_rfl) (by kernel_rfl) (fun _ _ _ h => h) (Or.inl ⟨by rfl, ?hy17_b18⟩) (by assumption) ?rest17_b18; (case hy17_b18 => ((intro w hSw); (try dsimp only at hSw); go_simp; first | done | (with_reducible rfl))))
                                    (try simp only [Act.put, List.setIfInBounds_toArray, List.set_cons_zero, List.set_cons_succ])
                                    refine wpAnyH_ready (rs := [19]) (by kernel_rfl) (by simp) ?_
                                    refine AllReadyH.cons (o := ⟨none, _, _, _, _, _⟩) rfl (fun K hK => ?_) (AllReadyH.nil)
                                    obtain ⟨p0, p1, pf0, pf1⟩ := blk2 Z_16.out
                                    go_simp
                                    refine hK.out _ _ ?_ (fun hHeld => ?_)
                                    · (try dsimp only)
                                      exact KS.out _ (P2n.out _ _ HG.out ((B_16.out.setCell (p := ⟨_, 0, none⟩) ZS_14.out _).setCell (p := ⟨_, 1, none⟩) ZS_14.out _))
                                    clear hK K
                                    (try simp only [Act.put, List.setIfInBounds_toArray, List.set_cons_zero, List.set_cons_succ])
                                    refine wpAnyH_done (by kernel_rfl) ?_ _
                                    have ZF_1 := Lib.hid (Z_16.out.set_ 0 (.slice (some ⟨g9, 0, none⟩) sw.length cp9))
                                    have ZF_2 := Lib.hid (ZF_1.out.set_ 1 (.slice (some ⟨gY, fY + lo2, none⟩) NB (cY - lo2)))
                                    have OF_1 := Lib.hid (own_setx (i := 0) (z := .slice (some ⟨g9, 0, none⟩) sw.length cp9) O_16.out Z_16.out (by decide))
                                    have OF_2 := Lib.hid (own_setx (i := 1) (z := .slice (some ⟨gY, fY + lo2, none⟩) NB (cY - lo2)) OF_1.out ZF_1.out (by decide))
                                    have LF := Lib.hid (Ld.of_own' OF_2.out HTLb.out)
                                    have BF_1 := Lib.hid (B_16.out.setCell (p := ⟨w_0.heap.size, 0, none⟩) ZS_14.out (.slice (some ⟨g9, 0, none⟩) sw.length cp9))
                                    have BF_2 := Lib.hid (BF_1.out.setCell (p := ⟨w_0.heap.size, 1, none⟩) ZS_14.out (.slice (some ⟨gY, fY + lo2, none⟩) NB (cY - lo2)))
                                    have PF := Lib.hid (P2n.out _ _ HG.out BF_2.out)
                                    clear OF_1 OF_2 ZF_1 BF_1 BF_2
                                    go_wp2
                                    go_meet
                                    exact ⟨_, g9, cp9, rfl, ZF_2.out, LF, PF⟩
                                case rest =>
                                  as_aux_lemma =>
                                  obtain ⟨T3, g3, c3, rfl, hba, LS, HG3⟩ := hcut
                                  obtain ⟨v3, hwd⟩ : ∃ v, v = wc := ⟨_, rfl⟩
                                  rw [← hwd] at hba LS HG3 ⊢
                                  clear hwd
                                  have LX := Lib.hid (ld_part (HLW.out _ (P1f.out _ (P2f.out _ HG3.out))).2.2.2.1 (lo := lo2) (N := NB) (by have := HHL.out; omega))
                                  clear KS rp1 rp2
                                  obtain ⟨P3, hP⟩ : ∃ P : World → Prop, P = fun W => P2 W ∧ Blk W T3 26 #[.slice (some ⟨g3, 0, none⟩) sw.length c3, .slice (some ⟨gY, fY + lo2, none⟩) NB (cY - lo2)] ∧ Ld W (.slice (some ⟨g3, 0, none⟩) sw.length c3) (1 :: sw.drop 1) ∧ Ld W (.slice (some ⟨gY, fY + lo2, none⟩) NB (cY - lo2)) ((dw.drop lo2).take NB) := ⟨_, rfl⟩
                                  have G3 : Hid (P3 v3) := Lib.hid (by rw [hP]; exact ⟨HG3.out, hba, LS.out, LX.out⟩)
                                  have P3f : Hid (∀ W, P3 W → P2 W) := Lib.hid (fun W h => by rw [hP] at h; exact h.1)
                                  have P3n : Hid (∀ W W', P3 W → Below W.heap.size W W' → P3 W') := Lib.hid (fun W W' h hb => by rw [hP] at h ⊢; exact ⟨P2n.out _ _ h.1 hb, h.2.1.below hb h.2.1.lt, h.2.2.1.below hb, h.2.2.2.below hb⟩)
                                  have P3t : Hid (∀ W, P3 W → (W.cell? ⟨T3, 0, none⟩ = some (.slice (some ⟨g3, 0, none⟩) sw.length c3) ∧ W.cell? ⟨T3, 1, none⟩ = some (.slice (some ⟨gY, fY + lo2, none⟩) NB (cY - lo2))) ∧ Ld W (.slice (some ⟨g3, 0, none⟩) sw.length c3) (1 :: sw.drop 1) ∧ Ld W (.slice (some ⟨gY, fY + lo2, none⟩) NB (cY - lo2)) ((dw.drop lo2).take NB)) := Lib.hid (fun W h => by rw [hP] at h; exact ⟨⟨(blk2 h.2.1).1, (blk2 h.2.1).2.1⟩, h.2.2⟩)
                                  clear hP
                                  clear hba LS LX HG3
                                  obtain ⟨x0, x1, x2, x3, x4, x5, x6, x7, x8, x9, x10⟩ := FRk.out _ (P1f.out _ (P2f.out _ (P3f.out _ G3.out)))
                                  obtain ⟨⟨y2_0, y2_1⟩, _⟩ := P2t.out _ (P3f.out _ G3.out)
                                  obtain ⟨⟨y3_0, y3_1⟩, _⟩ := P3t.out _ G3.out
                                  have HZ := Lib.hid (HLW.out _ (P1f.out _ (P2f.out _ (P3f.out _ G3.out)))).2.2.2.2
                                  obtain ⟨n1, hn1⟩ : ∃ m, m = S1.length := ⟨_, rfl⟩
                                  have hdl : Ct = ((D.drop ((i * NK + j) * Ct)).take Ct).length := by rw [List.length_take, List.length_drop]; have := HPT.out i j HIL.out HJ.out.1; omega
                                  have KC4 := Lib.hid ((HS1.out v3 _ _ _ _ _ _ _ _ (P2t.out _ (P3f.out _ G3.out)).2.1 (P2t.out _ (P3f.out _ G3.out)).2.2 (P3t.out _ G3.out).2.1 (P3t.out _ G3.out).2.2 HZ.out.1 HZ.out.2.1 HZ.out.2.2.1 HZ.out.2.2.2).mono (fun _ _ hh => tzL_of hn1 hdl hh))
                                  clear hn1 hdl HZ
                                  go_upto_region 23 with (go_at_call 14; (with_reducible refine KC4.out.mono ?_); rintro e wz4 ⟨os4, cs4, od4, cd4, rfl, h1, h2, hb⟩; have U4 := Lib.hid (And.intro (P3n.out _ _ G3.out hb) (And.intro h1 h2)); clear h1 h2 hb)
                                  obtain ⟨v4, hv⟩ : ∃ v, v = wz4.alloc (.cells #[.slice os4 n1 cs4, .slice od4 Ct cd4] 26) := ⟨_, rfl⟩
                                  obtain ⟨T4, hT⟩ : ∃ T, T = wz4.heap.size := ⟨_, rfl⟩
                                  rw [← hv, ← hT]
                                  obtain ⟨P4, hP⟩ : ∃ P : World → Prop, P = fun W => P3 W ∧ Blk W T4 26 #[.slice os4 n1 cs4, .slice od4 Ct cd4] ∧ Ld W (.slice os4 n1 cs4) (S1) ∧ Ld W (.slice od4 Ct cd4) ((D.drop ((i * NK + j) * Ct)).take Ct) := ⟨_, rfl⟩
                                  have G4 : Hid (P4 v4) := Lib.hid (by rw [hP]; exact ⟨by rw [hv]; exact P3n.out _ _ U4.out.1 (al_below _), by rw [hv, hT]; exact Blk.new _ _ _, by rw [hv]; exact U4.out.2.1.below (al_below _), by rw [hv]; exact U4.out.2.2.below (al_below _)⟩)
                                  have P4f : Hid (∀ W, P4 W → P3 W) := Lib.hid (fun W h => by rw [hP] at h; exact h.1)
                                  have P4n : Hid (∀ W W', P4 W → Below W.heap.size W W' → P4 W') := Lib.hid (fun W W' h hb => by rw [hP] at h ⊢; exact ⟨P3n.out _ _ h.1 hb, h.2.1.below hb h.2.1.lt, h.2.2.1.below hb, h.2.2.2.below hb⟩)
                                  have P4t : Hid (∀ W, P4 W → (W.cell? ⟨T4, 0, none⟩ = some (.slice os4 n1 cs4) ∧ W.cell? ⟨T4, 1, none⟩ = some (.slice od4 Ct cd4)) ∧ Ld W (.slice os4 n1 cs4) (S1) ∧ Ld W (.slice od4 Ct cd4) ((D.drop ((i * NK + j) * Ct)).take Ct)) := Lib.hid (fun W h => by rw [hP] at h; exact ⟨⟨(blk2 h.2.1).1, (blk2 h.2.1).2.1⟩, h.2.2⟩)
                                  clear hP
                                  clear hv hT U4 KC4 y2_0 y2_1 y3_0 y3_1
                                  clear x0 x1 x2 x3 x4 x5 x6 x7 x8 x9 x10
                                  obtain ⟨q1, hq1⟩ : ∃ m, m = i * NK := ⟨_, rfl⟩
                                  obtain ⟨q2, hq2⟩ : ∃ m, m = q1 + j := ⟨_, rfl⟩
                                  obtain ⟨lo, hlo⟩ : ∃ m, m = q2 * Ct := ⟨_, rfl⟩
                                  obtain ⟨hi, hhi⟩ : ∃ m, m = lo + Ct := ⟨_, rfl⟩
                                  have HQL : Hid ((i * NK + j) * Ct = lo) := Lib.hid (by rw [hlo, hq2, hq1])
                                  have hlh : hi ≤ mD ∧ mD ≤ 65536 := by have := HPT.out i j HIL.out HJ.out.1; rw [HQL.out] at this; have := HMD.out; have := HNN.out.2.2.2.2; have := HNN.out.1.2.2; omega
                                  have hq65 : q1 ≤ 65536 ∧ q2 ≤ 65536 := by have := HNN.out.2.1; have := Nat.mul_le_mul_left q2 this.2.2.2.2; omega
                                  have HW2 := Lib.hid (And.intro (nat_wrap hq1 hq65.1) (And.intro (nat_wrap_add hq2 hq65.2) (And.intro (nat_wrap hlo (by omega)) (nat_wrap_add hhi (by omega)))))
                                  have HHI := Lib.hid (And.intro hhi.symm hlh)
                                  have GE : Hid ((D.drop ((i * NK + j) * Ct)).take Ct = (D.drop lo).take Ct) := Lib.hid (by rw [HQL.out])
                                  clear hq1 hq2 hlo hhi hlh hq65
                                  obtain ⟨x0, x1, x2, x3, x4, x5, x6, x7, x8, x9, x10⟩ := FRk.out _ (P1f.out _ (P2f.out _ (P3f.out _ (P4f.out _ G4.out))))
                                  obtain ⟨a0, b0⟩ := HSA.out _ (P1f.out _ (P2f.out _ (P3f.out _ (P4f.out _ G4.out))))
                                  obtain ⟨⟨e1, e2⟩, ⟨e3, e4⟩, ⟨e5, e6⟩, e7, e8⟩ := HW2.out
                                  go_upto_region 24 with fail
                                  clear a0 b0 e1 e2 e3 e4 e5 e6 e7 e8
                                  clear x0 x1 x2 x3 x4 x5 x6 x7 x8 x9 x10
                                  have KS : Hid (∀ W, P4 W → W.cell? ⟨T4, 1, none⟩ = some (.slice od4 Ct cd4) ∧ W.cell? ⟨T1, 1, none⟩ = some (.slice (some ⟨gD, fD, none⟩) mD cd1)) := Lib.hid (fun W h => ⟨(P4t.out _ h).1.2, (P1t.out _ (P2f.out _ (P3f.out _ (P4f.out _ h)))).1.2⟩)
                                  have rp := fun (W : World) => run_part Try.underlying24 info64m.1 info64m.2 gD fD mD cd1 lo hi Ct HHI.out.1 (by have := HHI.out; have := ld_cap (P1t.out _ (P2f.out _ (P3f.out _ (P4f.out _ G4.out)))).2.2; have := HMD.out; omega) HNN.out.2.1.2.2.2.2 W
                                  go_cut [191] (fun s191 wx => s191 = .bool false ∧ Hid (P4 wx))
                                  case first =>
                                    as_aux_lemma =>
                                    obtain ⟨_, _, _, e7, e8⟩ := HW2.out
                                    have B_0 : Hid (P4 v4.drew) := Lib.hid (P4n.out _ _ G4.out (below_drw (Below.refl _ _) 1))
                                    refine wp_region_held_drew (S := fun W => W.cell? ⟨T4, 1, none⟩ = some (.slice od4 Ct cd4) ∧ W.cell? ⟨T1, 1, none⟩ = some (.slice (some ⟨gD, fD, none⟩) mD cd1)) (by kernel_rfl) ?_ (fun hHeld => ?_)
                                    · exact KS.out _ B_0.out
                                    have hHd := hHeld
                                    generalize v4.drew = w_0 at *
                                    (refine wpAnyH_take (i := 0) (oi := ⟨some 176, _, _, _, _, _⟩) (v := ?v0_c1) rfl (by kernel_rfl) (by kernel_rfl) (by kernel_rfl) (fun _ _ _ h => h) (Or.inl ⟨by rfl, ?hy0_c1⟩) (by assumption) ?rest0_c1; (case hy0_c1 => ((intro w hSw); (try dsimp only at hSw); go_simp; first | done | (with_reducible rfl))))
                                    (try simp only [Act.put, List.setIfInBounds_toArray, List.set_cons_zero, List.set_cons_succ])
                                    refine wpAnyH_ready (rs := [1]) (by kernel_rfl) (by simp) ?_
                                    refine AllReadyH.cons (o := ⟨some 177, _, _, _, _, _⟩) rfl (fun K hK => ?_) (AllReadyH.nil)
                                    go_simp
                                    (go_at_call 15; (with_reducible refine (num11_any _ _).mono ?_); rintro e w' ⟨rfl, rfl⟩)
                                    refine hK.out _ _ ?_ (fun hHeld => ?_)
                                    · (try dsimp only)
                                      exact KS.out _ B_0.out
                                    clear hK K
                                    (try simp only [Act.put, List.setIfInBounds_toArray, List.set_cons_zero, List.set_cons_succ])
                                    (refine wpAnyH_take (i := 2) (oi := ⟨some 178, _, _, _, _, _⟩) (v := ?v2_c2) rfl (by kernel_rfl) (by kernel_rfl) (by kernel_rfl) (fun _ _ _ h => h) (Or.inl ⟨by rfl, ?hy2_c2⟩) (by assumption) ?rest2_c2; (case hy2_c2 => ((intro w hSw); (try dsimp only at hSw); go_simp; first | done | (with_reducible rfl))))
                                    (try simp only [Act.put, List.setIfInBounds_toArray, List.set_cons_zero, List.set_cons_succ])
                                    (refine wpAnyH_take (i := 3) (oi := ⟨some 179, _, _, _, _, _⟩) (v := .bool false) rfl (by kernel_rfl) (by kernel_rfl) (by kernel_rfl) (fun _ _ _ h => h) (Or.inl ⟨by rfl, ?hy3_c3⟩) (by assumption) ?rest3_c3; (case hy3_c3 => ((intro w hSw); (try dsimp only at hSw); go_simp; first | done | (with_reducible rfl))))
                                    (try simp only [Act.put, List.setIfInBounds_toArray, List.set_cons_zero, List.set_cons_succ])
                                    (refine wpAnyH_take (i := 4) (oi := ⟨some 180, _, _, _, _, _⟩) (v := ?v4_c4) rfl (by kernel_rfl) (by kernel_rfl) (by kernel_rfl) (fun _ _ _ h => h) (Or.inl ⟨by rfl, ?hy4_c4⟩) (by assumption) ?rest4_c4; (case hy4_c4 => ((intro w hSw); (try dsimp only at hSw); go_simp; first | done | (with_reducible rfl))))
                                    (try simp only [Act.put, List.setIfInBounds_toArray, List.set_cons_zero, List.set_cons_succ])
                                    (refine wpAnyH_take (i := 5) (oi := ⟨some 181, _, _, _, _, _⟩) (v := ?v5_c5) rfl (by kernel_rfl) (by kernel_rfl) (by kernel_rfl) (fun _ _ _ h => h) (Or.inl ⟨by rfl, ?hy5_c5⟩) (by assumption) ?rest5_c5; (case hy5_c5 => ((intro w hSw); (try dsimp only at hSw); go_simp; first | done | (with_reducible rfl))))
                                    (try simp only [Act.put, List.setIfInBounds_toArray, List.set_cons_zero, List.set_cons_succ])
                                    (refine wpAnyH_take (i := 6) (oi := ⟨some 182, _, _, _, _, _⟩) (v := ?v6_c6) rfl (by kernel_rfl) (by kernel_rfl) (by kernel_rfl) (fun _ _ _ h => h) (Or.inl ⟨by rfl, ?hy6_c6⟩) (by assumption) ?rest6_c6; (case hy6_c6 => ((intro w hSw); (try dsimp only at hSw); go_simp; first | done | (with_reducible rfl))))
                                    (try simp only [Act.put, List.setIfInBounds_toArray, List.set_cons_zero, List.set_cons_succ])
                                    (refine wpAnyH_take (i := 7) (oi := ⟨some 183, _, _, _, _, _⟩) (v := ?v7_c7) rfl (by kernel_rfl) (by kernel_rfl) (by kernel_rfl) (fun _ _ _ h => h) (Or.inl ⟨by rfl, ?hy7_c7⟩) (by assumption) ?rest7_c7; (case hy7_c7 => ((intro w hSw); (try dsimp only at hSw); go_simp; first | done | (with_reducible rfl))))
                                    (try simp only [Act.put, List.setIfInBounds_toArray, List.set_cons_zero, List.set_cons_succ])
                                    (refine wpAnyH_take (i := 8) (oi := ⟨some 184, _, _, _, _, _⟩) (v := ?v8_c8) rfl (by kernel_rfl) (by kernel_rfl) (by kernel_rfl) (fun _ _ _ h => h) (Or.inl ⟨by rfl, ?hy8_c8⟩) (by assumption) ?rest8_c8; (case hy8_c8 => ((intro w hSw); (try dsimp only at hSw); go_simp; first | done | (with_reducible rfl))))
                                    (try simp only [Act.put, List.setIfInBounds_toArray, List.set_cons_zero, List.set_cons_succ])
                                    (refine wpAnyH_take (i := 9) (oi := ⟨some 185, _, _, _, _, _⟩) (v := ?v9_c9) rfl (by kernel_rfl) (by kernel_rfl) (by kernel_rfl) (fun _ _ _ h => h) (Or.inl ⟨by rfl, ?hy9_c9⟩) (by assumption) ?rest9_c9; (case hy9_c9 => ((intro w hSw); (try dsimp only at hSw); go_simp; first | done | (with_reducible rfl))))
                                    (try simp only [Act.put, List.setIfInBounds_toArray, List.set_cons_zero, List.set_cons_succ])
                                    (refine wpAnyH_take (i := 10) (oi := ⟨some 186, _, _, _, _, _⟩) (v := ?v10_c10) rfl (by kernel_rfl) (by kernel_rfl) (by kernel_rfl) (fun _ _ _ h => h) (Or.inl ⟨by rfl, ?hy10_c10⟩) (by assumption) ?rest10_c10; (case hy10_c10 => ((intro w hSw); (try dsimp only at hSw); go_simp; first | done | (with_reducible rfl))))
                                    (try simp only [Act.put, List.setIfInBounds_toArray, List.set_cons_zero, List.set_cons_succ])
                                    (refine wpAnyH_take (i := 11) (oi := ⟨some 187, _, _, _, _, _⟩) (v := ?v11_c11) rfl (by kernel_rfl) (by kernel_rfl) (by kernel_rfl) (fun _ _ _ h => h) (Or.inl ⟨by rfl, ?hy11_c11⟩) (by assumption) ?rest11_c11; (case hy11_c11 => ((intro w hSw); (try dsimp only at hSw); go_simp; first | done | (with_reducible rfl))))
                                    (try simp only [Act.put, List.setIfInBounds_toArray, List.set_cons_zero, List.set_cons_succ])
                                    (refine wpAnyH_take (i := 12) (oi := ⟨some 188, _, _, _, _, _⟩) (v := ?v12_c12) rfl (by kernel_rfl) (by kernel_rfl) (by kernel_rfl) (fun _ _ _ h => h) (Or.inl ⟨by rfl, ?hy12_c12⟩) (by assumption) ?rest12_c12; (case hy12_c12 => ((intro w hSw); (try dsimp only at hSw); go_simp; first | done | (with_reducible rfl))))
                                    (try simp only [Act.put, List.setIfInBounds_toArray, List.set_cons_zero, List.set_cons_succ])
                                    refine wpAnyH_ready (rs := [13]) (by kernel_rfl) (by simp) ?_
                                    refine AllReadyH.cons (o := ⟨some 189, _, _, _, _, _⟩) rfl (fun K hK => ?_) (AllReadyH.nil)
                                    go_simp
                                    (go_at_call 16; (with_reducible refine (eqw_same _ _ ((D.drop lo).take Ct) _ (by rw [← GE.out]; exact (P4t.out _ B_0.out).2.2) (ld_part (P1t.out _ (P2f.out _ (P3f.out _ (P4f.out _ B_0.out)))).2.2 (lo := lo) (N := Ct) (by have := HHI.out; have := HMD.out; omega)) (by rw [List.length_take]; have := HHI.out; omega)).mono ?_); rintro e w_e2 ⟨rfl, hb⟩; have B_e2 := Lib.hid (P4n.out _ _ B_0.out hb); clear hb)
                                    refine hK.out _ _ ?_ (fun hHeld => ?_)
                                    · (try dsimp only)
                                      exact KS.out _ B_e2.out
                                    clear hK K
                                    (try simp only [Act.put, List.setIfInBounds_toArray, List.set_cons_zero, List.set_cons_succ])
                                    (refine wpAnyH_take (i := 14) (oi := ⟨some 190, _, _, _, _, _⟩) (v := ?v14_c13) rfl (by kernel_rfl) (by kernel_rfl) (by kernel_rfl) (fun _ _ _ h => h) (Or.inl ⟨by rfl, ?hy14_c13⟩) (by assumption) ?rest14_c13; (case hy14_c13 => ((intro w hSw); (try dsimp only at hSw); go_simp; first | done | (with_reducible rfl))))
                                    (try simp only [Act.put, List.setIfInBounds_toArray, List.set_cons_zero, List.set_cons_succ])
                                    (refine wpAnyH_take (i := 15) (oi := ⟨some 191, _, _, _, _, _⟩) (v := ?v15_c14) rfl (by kernel_rfl) (by kernel_rfl) (by kernel_rfl) (fun _ _ _ h => h) (Or.inl ⟨by rfl, ?hy15_c14⟩) (by assumption) ?rest15_c14; (case hy15_c14 => ((intro w hSw); (try dsimp only at hSw); go_simp; first | done | (with_reducible rfl))))
                                    (try simp only [Act.put, List.setIfInBounds_toArray, List.set_cons_zero, List.set_cons_succ])
                                    refine wpAnyH_done (by kernel_rfl) ?_ _
                                    go_wp2
                                    go_meet
                                    exact ⟨rfl, B_e2⟩
                                  case rest =>
                                    as_aux_lemma =>
                                    obtain ⟨rfl, GW⟩ := hcut
                                    clear rp KS
                                    go_wp2
                                    exact ⟨⟨j + 1, by omega, by go_num, Lib.hid (P3f.out _ (P4f.out _ GW.out))⟩, by simp [intOf]; omega⟩
                              · as_aux_lemma =>
                                obtain rfl : j = NK := by omega
                                clear hlt
                                obtain ⟨x0, x1, x2, x3, x4, x5, x6, x7, x8, x9, x10⟩ := FRk.out _ (P1f.out _ (P2f.out _ HG.out))
                                obtain ⟨a0, b0⟩ := HSA.out _ (P1f.out _ (P2f.out _ HG.out))
                                go_wp2
                                exact ⟨⟨i + 1, by omega, by go_num, Lib.hid (P2f.out _ HG.out)⟩, by simp [intOf]; omega⟩

                        · as_aux_lemma =>
                          obtain rfl : i = NX := by omega
                          clear hlt
                          obtain ⟨x0, x1, x2, x3, x4, x5, x6, x7, x8, x9, x10⟩ := FRk.out _ (P1f.out _ HG.out)
                          obtain ⟨a0, b0⟩ := HSA.out _ (P1f.out _ HG.out)
                          go_wp2
                          exact ⟨⟨k + 1, by omega, by go_num, hB.trans ((FRb.out _ (P1f.out _ HG.out)).mono hBs)⟩, by simp [intOf]; omega⟩
              · as_aux_lemma =>
                have d0 : (E != 0) = true := bne_iff_ne.2 hE
                clear hE HA
                go_wp2_with (go_at_call 15; (with_reducible refine (num11_any _ _).mono ?_); rintro e w' ⟨rfl, rfl⟩)
                exact ⟨⟨k + 1, by omega, by go_num, hB.trans ((FRb.out _ (P1f.out _ G1.out)).mono hBs)⟩, by simp [intOf]; omega⟩
    · as_aux_lemma =>
      by_cases g1 : k < len
      · have g2 : 4 ≤ k := by omega
        clear g
        go_wp2_with (go_at_call 17; (with_reducible refine (wakes11_any _).mono ?_); rintro e w9 ⟨rfl, hb9⟩)
        go_ret
        exact ⟨rfl, hB.trans (hb9.mono hBs)⟩
      · have g2 : len ≤ k := by omega
        clear g g1
        go_wp2_with (go_at_call 17; (with_reducible refine (wakes11_any _).mono ?_); rintro e w9 ⟨rfl, hb9⟩)
        go_ret
        exact ⟨rfl, hB.trans (hb9.mono hBs)⟩
end Go.Proofs.Ytnlfljekbknaaaa
