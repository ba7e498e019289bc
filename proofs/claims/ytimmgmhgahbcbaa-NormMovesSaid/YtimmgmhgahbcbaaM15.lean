/-
  NormMoves' loop.
-/
import Derived.BigQuiet
import Derived.BigRegion
import Derived.Test.YtimmgmhgahbcbaaM14
namespace Go.Proofs.Ytimmgmhgahbcbaa
open Go.RowKit Go.Shelf

theorem blk5q {W : World} {b : Nat} {t : TypeId} {v0 v1 v2 v3 v4 : Value} (h : Blk W b t #[v0, v1, v2, v3, v4]) : W.cell? ⟨b, 0, none⟩ = some v0 ∧ W.cell? ⟨b, 1, none⟩ = some v1 ∧ W.cell? ⟨b, 2, none⟩ = some v2 ∧ W.cell? ⟨b, 3, none⟩ = some v3 ∧ W.cell? ⟨b, 4, none⟩ = some v4 := ⟨h.cell 0, h.cell 1, h.cell 2, h.cell 3, h.cell 4⟩

set_option maxRecDepth 100000 in
set_option maxHeartbeats 80000000 in
theorem normmoves_any (bb oo len cap : Nat) (es : Nat → Qk) (w : World) (_hl : len ≤ 9223372036854775807) (hb : bb < w.heap.size) (hT : ∀ i, i < len → QkAt w bb (oo + i * 5) (es i)) (hok : ∀ i, i < len → (es i).ok w) :
    Calls Try.prog 4 #[.slice (some ⟨bb, oo, none⟩) len cap] w fun e w' => e = .returned (.bool true) ∧ Below w.heap.size w w' := by
  have HT := Lib.hid (And.intro hT hok)
  clear hT hok
  go_enter Try.func4, Try.ntmps4
  go_wp2
  go_loopw [3] (fun s3 wQ => ∃ k : Nat, k ≤ len ∧ s3 = .int .i64 k ∧ Below w.heap.size w wQ) (fun s3 _ => len - (intOf s3).toNat)
  case atStart => exact ⟨0, Nat.zero_le _, rfl, Below.refl _ _⟩
  case round =>
    obtain ⟨k, hk, rfl, hB⟩ := hrel
    have hBs := hB.size
    obtain ⟨w1, hw1⟩ : ∃ w1, w1 = wr := ⟨_, rfl⟩
    subst hw1
    by_cases g : k < len ∧ k < 4
    · obtain ⟨g1, g2⟩ := g
      obtain ⟨t0, t1, t2, t3, t4⟩ := (HT.out.1 k (by omega)).below hB hb
      obtain ⟨⟨hX, hV⟩, ⟨l0, l1⟩, ⟨a0, a1⟩, ⟨b0, b1⟩, ⟨c0, c1⟩⟩ := HT.out.2 k (by omega)
      replace hX := hX.below hB
      replace hV := hV.below hB
      generalize es k = p at *
      obtain ⟨vX, vV, sx, dx, ep, z, f⟩ := p
      simp only at t0 t1 t2 t3 t4 hX hV l0 l1 a0 a1 b0 b1 c0 c1
      obtain ⟨oX, cX, rfl, _, _⟩ := id hX
      obtain ⟨oV, cV, rfl, _, _⟩ := id hV
      have K0 := Lib.hid (fun o => (Below.refl w1.heap.size w1).alloc (Nat.le_refl _) o)
      have K4 := Lib.hid (Blk.new w1 28 #[.slice oX sx.length cX, .slice oV dx.length cV, .int .i64 ep, .int .i64 z, .int .i64 f])
      obtain ⟨FR, hFR⟩ : ∃ FR : World → Prop, FR = fun W => Below w1.heap.size w1 W ∧ Blk W w1.heap.size 28 #[.slice oX sx.length cX, .slice oV dx.length cV, .int .i64 ep, .int .i64 z, .int .i64 f] := ⟨_, rfl⟩
      have FRb : Hid (∀ W, FR W → Below w1.heap.size w1 W) := Lib.hid (fun W h => by rw [hFR] at h; exact h.1)
      have FRk := Lib.hid (fun (W : World) (h : FR W) => blk5q (by rw [hFR] at h; exact h.2 : Blk W w1.heap.size 28 #[.slice oX sx.length cX, .slice oV dx.length cV, .int .i64 ep, .int .i64 z, .int .i64 f]))
      have FRn : Hid (∀ W W', FR W → Below W.heap.size W W' → FR W') := Lib.hid (fun W W' h hb => by rw [hFR] at h ⊢; exact ⟨h.1.trans (hb.mono h.1.size), h.2.below hb h.2.lt⟩)
      have FRl : Hid (∀ W, FR W → w1.heap.size < W.heap.size) := Lib.hid (fun W h => by rw [hFR] at h; exact h.2.lt)
      have FRs : Hid (∀ W, Below (w1.alloc (.cells #[.slice oX sx.length cX, .slice oV dx.length cV, .int .i64 ep, .int .i64 z, .int .i64 f] 28)).heap.size (w1.alloc (.cells #[.slice oX sx.length cX, .slice oV dx.length cV, .int .i64 ep, .int .i64 z, .int .i64 f] 28)) W → FR W) := Lib.hid (fun W h => by rw [hFR]; exact ⟨(K0.out _).trans (h.mono (by simp)), K4.out.below h K4.out.lt⟩)
      clear hFR
      have LG := Lib.hid (fun (W : World) (hW : Below w1.heap.size w1 W) => heavy8_any _ _ sx dx 24 W (hX.below hW) (hV.below hW) (by omega) (by omega))
      cases lg : hv8 24 sx dx with
      | true =>
        as_aux_lemma =>
        rw [lg] at LG
        clear lg hX hV
        go_wp2_with (go_at_call 5; (with_reducible refine (LG.out _ (K0.out _)).mono ?_); rintro e w2 ⟨rfl, hb2⟩; have F2 := Lib.hid (FRs.out _ hb2); obtain ⟨x0, x1, x2, x3, x4⟩ := FRk.out _ F2.out; clear hb2)
        go_ret
        exact ⟨rfl, hB.trans ((FRb.out _ F2.out).mono hBs)⟩
      | false =>
        rw [lg] at LG
        have na := hv8_no lg
        have HL := Lib.hid (And.intro hX hV)
        have KMA := Lib.hid (fun (W : World) (hW : Below w1.heap.size w1 W) => rmay8_any _ _ sx dx W (hX.below hW) (hV.below hW) (by omega) (by omega))
        clear lg hX hV
        have KME := Lib.hid (fun W : World => may_any ep W)
        have KMZ := Lib.hid (fun W : World => may_any z W)
        obtain ⟨TA, hTA⟩ : ∃ b, b = tnb sx dx := ⟨_, rfl⟩
        obtain ⟨WE, hWE⟩ : ∃ b, b = wd ep := ⟨_, rfl⟩
        obtain ⟨WZ, hWZ⟩ : ∃ b, b = wd z := ⟨_, rfl⟩
        obtain ⟨OK, hOK⟩ : ∃ b, b = (TA && decide (sx.length ≠ 0) && decide (0 < ep) && WE && WZ) := ⟨_, rfl⟩
        have HWZ := Lib.hid hWZ
        rw [← hWZ] at KMZ
        have HTA := Lib.hid hTA
        have HWE := Lib.hid hWE
        have HOK := Lib.hid hOK
        rw [← hTA] at KMA
        rw [← hWE] at KME
        clear hTA hWE hWZ hOK
        go_upto_region 7 with (go_at_call 5; (with_reducible refine (LG.out _ (K0.out _)).mono ?_); rintro e w2 ⟨rfl, hb2⟩; have F2 := Lib.hid (FRs.out _ hb2); obtain ⟨x0, x1, x2, x3, x4⟩ := FRk.out _ F2.out; clear hb2)
        go_cut [69] (fun s69 wx => s69 = .bool (!OK) ∧ Hid (FR wx))
        case first =>
          as_aux_lemma =>
          cases TA with
          | false =>
            go_wp2_with (go_at_call 6; (with_reducible refine (KMA.out _ (FRb.out _ F2.out)).mono ?_); rintro e w4 ⟨rfl, hb4⟩; have F4 := Lib.hid (FRn.out _ _ F2.out hb4); obtain ⟨x0, x1, x2, x3, x4⟩ := FRk.out _ F4.out; clear hb4)
            go_meet
            exact ⟨by rw [HOK.out]; rfl, F4⟩
          | true =>
            by_cases z0 : sx.length = 0
            · have z1 : (((sx.length : Nat) : Int) == 0) = true := by rw [z0]; rfl
              have HZ := Lib.hid z0
              clear z0
              go_wp2_with (go_at_call 6; (with_reducible refine (KMA.out _ (FRb.out _ F2.out)).mono ?_); rintro e w4 ⟨rfl, hb4⟩; have F4 := Lib.hid (FRn.out _ _ F2.out hb4); obtain ⟨x0, x1, x2, x3, x4⟩ := FRk.out _ F4.out; clear hb4)
              go_meet
              exact ⟨by rw [HOK.out, HZ.out]; rfl, F4⟩
            · have z1 : (((sx.length : Nat) : Int) == 0) = false := by rw [beq_eq_false_iff_ne]; omega
              by_cases e0 : 0 < ep
              · have e1 : ¬ ep ≤ 0 := by omega
                cases WE with
                | false =>
                  go_wp2_with (first | (go_at_call 6; (with_reducible refine (KMA.out _ (FRb.out _ F2.out)).mono ?_); rintro e w4 ⟨rfl, hb4⟩; have F4 := Lib.hid (FRn.out _ _ F2.out hb4); obtain ⟨x0, x1, x2, x3, x4⟩ := FRk.out _ F4.out; clear hb4) | (go_at_call 7; (with_reducible refine (KME.out _).mono ?_); rintro e w' ⟨rfl, rfl⟩))
                  go_meet
                  exact ⟨by rw [HOK.out]; simp, F4⟩
                | true =>
                  cases WZ with
                  | false =>
                    go_wp2_with (first | (go_at_call 6; (with_reducible refine (KMA.out _ (FRb.out _ F2.out)).mono ?_); rintro e w4 ⟨rfl, hb4⟩; have F4 := Lib.hid (FRn.out _ _ F2.out hb4); obtain ⟨x0, x1, x2, x3, x4⟩ := FRk.out _ F4.out; clear hb4) | (go_at_call 7; (with_reducible refine (KME.out _).mono ?_); rintro e w' ⟨rfl, rfl⟩) | (go_at_call 7; (with_reducible refine (KMZ.out _).mono ?_); rintro e w' ⟨rfl, rfl⟩))
                    go_meet
                    exact ⟨by rw [HOK.out]; simp, F4⟩
                  | true =>
                    go_wp2_with (first | (go_at_call 6; (with_reducible refine (KMA.out _ (FRb.out _ F2.out)).mono ?_); rintro e w4 ⟨rfl, hb4⟩; have F4 := Lib.hid (FRn.out _ _ F2.out hb4); obtain ⟨x0, x1, x2, x3, x4⟩ := FRk.out _ F4.out; clear hb4) | (go_at_call 7; (with_reducible refine (KME.out _).mono ?_); rintro e w' ⟨rfl, rfl⟩) | (go_at_call 7; (with_reducible refine (KMZ.out _).mono ?_); rintro e w' ⟨rfl, rfl⟩))
                    go_meet
                    exact ⟨by rw [HOK.out]; simp [z0, e0], F4⟩
              · have e1 : ep ≤ 0 := by omega
                go_wp2_with (go_at_call 6; (with_reducible refine (KMA.out _ (FRb.out _ F2.out)).mono ?_); rintro e w4 ⟨rfl, hb4⟩; have F4 := Lib.hid (FRn.out _ _ F2.out hb4); obtain ⟨x0, x1, x2, x3, x4⟩ := FRk.out _ F4.out; clear hb4)
                go_meet
                exact ⟨by rw [HOK.out]; simp [e0], F4⟩
        case rest =>
          as_aux_lemma =>
          clear x0 x1 x2 x3 x4
          obtain ⟨rfl, F5⟩ := hcut
          obtain ⟨wd0, hwd⟩ : ∃ v, v = wc := ⟨_, rfl⟩
          rw [← hwd] at F5 ⊢
          clear hwd
          cases OK with
          | false =>
            as_aux_lemma =>
            go_wp2
            exact ⟨⟨k + 1, by omega, by go_num, hB.trans ((FRb.out _ F5.out).mono hBs)⟩, by simp [intOf]; omega⟩
          | true =>
            as_aux_lemma =>
            obtain ⟨ta, h0, e0, we, wz⟩ : tnb sx dx = true ∧ sx.length ≠ 0 ∧ 0 < ep ∧ wd ep = true ∧ wd z = true := by
              have q := HOK.out
              rw [HTA.out, HWE.out, HWZ.out] at q
              simpa [and_assoc] using q.symm
            obtain ⟨fN, hfN⟩ : ∃ fN : Nat, (fN : Int) = 8 + f % 18446744073709551616 % 25 := ⟨(8 + f % 18446744073709551616 % 25).toNat, by omega⟩
            have hfb : fb (fN : Int) = true := fb_mk (by omega)
            have KFF : Hid (∀ W : World, Calls Try.prog 8 #[.int .i64 f] W fun e w' => e = .returned (.int .i64 (fN : Int)) ∧ W = w') := Lib.hid (fun W => by rw [hfN]; exact ff_any f W)
            obtain ⟨ma, la, hwd⟩ := tnb_parts ta
            have hp := may_prod ma
            have hn1 := may_dim ma (i := sx.length - 1) (by omega)
            obtain ⟨n, hn⟩ : ∃ n : Nat, sx.getD (sx.length - 1) 0 = (n : Int) := ⟨(sx.getD (sx.length - 1) 0).toNat, by omega⟩
            obtain ⟨N, hN1, hNn⟩ := rows_of h0 hn la hp.1 (by omega)
            have hn1' : 1 ≤ n := by omega
            have hn24 : n ≤ 24 := by
              have : 1 * n ≤ N * n := Nat.mul_le_mul_right n hN1
              omega
            obtain ⟨gV, fV, hoV, _⟩ := ld_at HL.out.2 (k := 0) (by rw [hNn]; have : 1 * n ≤ N * n := Nat.mul_le_mul_right n hN1; omega)
            subst hoV
            have KRW : Hid (∀ W, FR W → Calls Try.prog 9 #[.agg #[.slice oX sx.length cX, .slice (some ⟨gV, fV, none⟩) dx.length cV]] W fun e w' => e = .returned (.int .i64 (n : Int)) ∧ Below W.heap.size W w') := Lib.hid (fun W h => rows13_any _ _ sx n W (HL.out.1.below (FRb.out _ h)) h0 (by omega) hn)
            obtain ⟨AN, hAN⟩ : ∃ l, l = nrt n dx ep fN := ⟨_, rfl⟩
            have hANl : AN.length = dx.length := by rw [hAN]; exact nrt_len _ _ _ _
            have KNM : Hid (∀ W, FR W → Calls Try.prog 10 #[.agg #[.slice oX sx.length cX, .slice (some ⟨gV, fV, none⟩) dx.length cV], .int .i64 ep, .int .i64 (fN : Int)] W fun e w' => ∃ os cs od cd, e = .returned (.tuple #[.agg #[.slice os sx.length cs, .slice od dx.length cd], .int .i64 0]) ∧ Ld w' (.slice os sx.length cs) sx ∧ Ld w' (.slice od dx.length cd) AN ∧ Below W.heap.size W w') := Lib.hid (fun W h => by
              rw [hAN]
              exact norm_ld _ _ sx dx ep fN W (HL.out.1.below (FRb.out _ h)) (HL.out.2.below (FRb.out _ h)) ta we e0 hfb h0 n hn)
            have HA := Lib.hid (And.intro hAN hANl)
            have HW := Lib.hid (And.intro we (And.intro hfb (And.intro hwd (And.intro hNn hn1))))
            have HN1 := Lib.hid hN1
            have E0 := Lib.hid (And.intro e0 (And.intro wz (And.intro h0 (And.intro ma (And.intro la hn)))))
            clear ta h0 e0 we wz hfb ma la hwd hp hn1 hn hAN hANl hfN hN1 hNn KMA KME KMZ LG HOK HTA HWE HWZ
            obtain ⟨x0, x1, x2, x3, x4⟩ := FRk.out _ F5.out
            go_upto_region 11 with (first | (go_at_call 8; (with_reducible refine (KFF.out _).mono ?_); rintro e w' ⟨rfl, rfl⟩) | (go_at_call 9; (with_reducible refine (KRW.out _ F5.out).mono ?_); rintro e w6 ⟨rfl, hb⟩; have F6 := Lib.hid (FRn.out _ _ F5.out hb); obtain ⟨x0, x1, x2, x3, x4⟩ := FRk.out _ F6.out; clear hb) | (go_at_call 10; (with_reducible refine (KNM.out _ F6.out).mono ?_); rintro e wz1 ⟨os1, cs1, od1, cd1, rfl, h1, h2, hb⟩; have U1 := Lib.hid (And.intro (FRn.out _ _ F6.out hb) (And.intro h1 h2)); clear h1 h2 hb))
            obtain ⟨v1, hv⟩ : ∃ v, v = wz1.alloc (.cells #[.slice os1 sx.length cs1, .slice od1 dx.length cd1] 26) := ⟨_, rfl⟩
            obtain ⟨T7, hT⟩ : ∃ T, T = wz1.heap.size := ⟨_, rfl⟩
            rw [← hv, ← hT]
            obtain ⟨gA, fA, hoA, _⟩ := ld_at U1.out.2.2 (k := 0) (by rw [HA.out.2, HW.out.2.2.2.1]; have : 1 * n ≤ N * n := Nat.mul_le_mul_right n HN1.out; omega)
            subst hoA
            obtain ⟨P1, hP⟩ : ∃ P : World → Prop, P = fun W => FR W ∧ Blk W T7 26 #[.slice os1 sx.length cs1, .slice (some ⟨gA, fA, none⟩) dx.length cd1] ∧ Ld W (.slice (some ⟨gA, fA, none⟩) dx.length cd1) AN ∧ Ld W (.slice os1 sx.length cs1) sx := ⟨_, rfl⟩
            have G1 : Hid (P1 v1) := Lib.hid (by rw [hP]; exact ⟨by rw [hv]; exact FRn.out _ _ U1.out.1 (al_below _), by rw [hv, hT]; exact Blk.new _ _ _, by rw [hv]; exact U1.out.2.2.below (al_below _), by rw [hv]; exact U1.out.2.1.below (al_below _)⟩)
            have P1f : Hid (∀ W, P1 W → FR W) := Lib.hid (fun W h => by rw [hP] at h; exact h.1)
            have P1n : Hid (∀ W W', P1 W → Below W.heap.size W W' → P1 W') := Lib.hid (fun W W' h hb => by rw [hP] at h ⊢; exact ⟨FRn.out _ _ h.1 hb, h.2.1.below hb h.2.1.lt, h.2.2.1.below hb, h.2.2.2.below hb⟩)
            have P1t : Hid (∀ W, P1 W → (W.cell? ⟨T7, 0, none⟩ = some (.slice os1 sx.length cs1) ∧ W.cell? ⟨T7, 1, none⟩ = some (.slice (some ⟨gA, fA, none⟩) dx.length cd1)) ∧ Ld W (.slice (some ⟨gA, fA, none⟩) dx.length cd1) AN ∧ Ld W (.slice os1 sx.length cs1) sx) := Lib.hid (fun W h => by rw [hP] at h; exact ⟨⟨(blk2 h.2.1).1, (blk2 h.2.1).2.1⟩, h.2.2⟩)
            clear hP hv hT U1 x0 x1 x2 x3 x4
            have KCT : Hid (∀ W, FR W → Calls Try.prog 13 #[.agg #[.slice oX sx.length cX, .slice (some ⟨gV, fV, none⟩) dx.length cV]] W (SomeCT W sx dx)) := Lib.hid (fun W h => copytens_any _ _ sx dx W (HL.out.1.below (FRb.out _ h)) (HL.out.2.below (FRb.out _ h)) (by omega) (by omega))
            have hn1 : 1 ≤ n := by have := HW.out.2.2.2.2.1; omega
            have hD1 : 1 ≤ dx.length := by
              have h1 := HW.out.2.2.2.1
              have h2 := Nat.mul_le_mul_right n HN1.out
              omega
            obtain ⟨⟨y0, y1⟩, _⟩ := P1t.out _ G1.out
            obtain ⟨x0, x1, x2, x3, x4⟩ := FRk.out _ (P1f.out _ G1.out)
            go_upto_region 14 with (first | (go_at_call 11; (with_reducible refine (num14_any _ _).mono ?_); rintro e w' ⟨rfl, rfl⟩) | (go_at_call 13; (with_reducible refine (KCT.out _ (P1f.out _ G1.out)).mono ?_); rintro e wc1 ⟨oM1, kM1, od1, kN1, rfl, h1, h2, hb⟩; have U1c := Lib.hid (And.intro h1 (And.intro h2 hb)); clear h1 h2 hb))
            obtain ⟨w10, hw10⟩ : ∃ v, v = wc1.alloc (.cells #[.slice oM1 sx.length kM1, .slice od1 dx.length kN1] 26) := ⟨_, rfl⟩
            obtain ⟨T9, hT9⟩ : ∃ T, T = wc1.heap.size := ⟨_, rfl⟩
            rw [← hw10, ← hT9]
            obtain ⟨gM, cM, hgM⟩ := U1c.out.2.1.form (by omega)
            obtain ⟨rfl, rfl⟩ : od1 = some ⟨gM, 0, none⟩ ∧ kN1 = cM := by simpa using hgM.1
            have B10 : Hid (Below v1.heap.size v1 w10) := Lib.hid (by rw [hw10]; exact U1c.out.2.2.alloc U1c.out.2.2.size _)
            have Q9 : Hid (Blk w10 T9 26 #[.slice oM1 sx.length kM1, .slice (some ⟨gM, 0, none⟩) dx.length kN1]) := Lib.hid (by rw [hw10, hT9]; exact Blk.new _ _ _)
            have O9 : Hid (w10.ownsRow v1.heap.size 3 1 (.slice oM1 sx.length kM1) sx.length (ints sx) ∧ w10.ownsRow v1.heap.size 2 1 (.slice (some ⟨gM, 0, none⟩) dx.length kN1) dx.length (ints dx)) := Lib.hid (by rw [hw10]; exact ⟨U1c.out.1.alloc _, U1c.out.2.1.alloc _⟩)
            clear hw10 hT9 U1c x0 x1 x2 x3 x4 y0 y1
            obtain ⟨x0, x1, x2, x3, x4⟩ := FRk.out _ (P1f.out _ (P1n.out _ _ G1.out B10.out))
            go_upto_region 15 with (go_at_call 13; (with_reducible refine (KCT.out _ (P1f.out _ (P1n.out _ _ G1.out B10.out))).mono ?_); rintro e wc2 ⟨oM2, kM2, od2, kN2, rfl, h1, h2, hb⟩; have U2c := Lib.hid (And.intro h1 (And.intro h2 hb)); clear h1 h2 hb)
            obtain ⟨w11, hw11⟩ : ∃ v, v = wc2.alloc (.cells #[.slice oM2 sx.length kM2, .slice od2 dx.length kN2] 26) := ⟨_, rfl⟩
            obtain ⟨T10, hT10⟩ : ∃ T, T = wc2.heap.size := ⟨_, rfl⟩
            rw [← hw11, ← hT10]
            obtain ⟨gN, cN, hgN⟩ := U2c.out.2.1.form (by omega)
            obtain ⟨rfl, rfl⟩ : od2 = some ⟨gN, 0, none⟩ ∧ kN2 = cN := by simpa using hgN.1
            obtain ⟨cM, hcM⟩ : ∃ c, c = kN1 := ⟨_, rfl⟩
            obtain ⟨cN, hcN⟩ : ∃ c, c = kN2 := ⟨_, rfl⟩
            obtain ⟨MS, hMS⟩ : ∃ MS : List Int → List Int → World → Prop, MS = fun lm ln W => MvS v1 T9 T10 gM gN cM cN oM1 oM2 kM1 kM2 sx dx.length lm ln W := ⟨_, rfl⟩
            have M0 : Hid (MS dx dx w11) := Lib.hid (by
              have hb := U2c.out.2.2
              rw [hMS, hw11, hT10, hcM, hcN]
              refine ⟨(B10.out.trans (hb.mono B10.out.size)).alloc (Nat.le_trans B10.out.size hb.size) _, ⟨(Q9.out.below hb Q9.out.lt).alloc _, Blk.new _ _ _⟩, ⟨(Below.keepOwn O9.out.1 hb (Nat.le_refl _)).alloc _, (own_base U2c.out.1 B10.out.size).alloc _⟩, ⟨(Below.keepOwn O9.out.2 hb (Nat.le_refl _)).alloc _, (own_base U2c.out.2.1 B10.out.size).alloc _⟩, rfl, rfl, ?_⟩
              have h1 := (O9.out.2.lt gM rfl).2
              have h2 := (U2c.out.2.1.lt gN rfl).1
              omega)
            have MSn : Hid (∀ lm ln W W', MS lm ln W → Below W.heap.size W W' → MS lm ln W') := Lib.hid (fun lm ln W W' h hb => by rw [hMS] at h ⊢; exact MvS.next h hb)
            have MS1 : Hid (∀ lm ln W, MS lm ln W → ∀ {i : Nat}, i < dx.length → ∀ v, MS (lm.set i v) ln (W.setCell ⟨gM, i, none⟩ (.int .i64 v))) := Lib.hid (fun lm ln W h i hi v => by rw [hMS] at h ⊢; exact MvS.put1 h hi v)
            have MS2 : Hid (∀ lm ln W, MS lm ln W → ∀ {i : Nat}, i < dx.length → ∀ v, MS lm (ln.set i v) (W.setCell ⟨gN, i, none⟩ (.int .i64 v))) := Lib.hid (fun lm ln W h i hi v => by rw [hMS] at h ⊢; exact MvS.put2 h hi v)
            have MSt : Hid (∀ lm ln W, MS lm ln W → (W.cell? ⟨T9, 0, none⟩ = some (.slice oM1 sx.length kM1) ∧ W.cell? ⟨T9, 1, none⟩ = some (.slice (some ⟨gM, 0, none⟩) dx.length cM)) ∧ (W.cell? ⟨T10, 0, none⟩ = some (.slice oM2 sx.length kM2) ∧ W.cell? ⟨T10, 1, none⟩ = some (.slice (some ⟨gN, 0, none⟩) dx.length cN))) := Lib.hid (fun lm ln W h => by
              rw [hMS] at h
              exact ⟨⟨(blk2 h.2.1.1).1, (blk2 h.2.1.1).2.1⟩, (blk2 h.2.1.2).1, (blk2 h.2.1.2).2.1⟩)
            have MSc : Hid (∀ lm ln W, MS lm ln W → ∀ i, i < dx.length → (W.cell? ⟨gM, i, none⟩ = some (.int .i64 (lm.getD i 0)) ∧ W.frozen? ⟨gM, i, none⟩ = false) ∧ (W.cell? ⟨gN, i, none⟩ = some (.int .i64 (ln.getD i 0)) ∧ W.frozen? ⟨gN, i, none⟩ = false)) := Lib.hid (fun lm ln W h i hi => by
              rw [hMS] at h
              obtain ⟨_, _, _, ⟨r1, r2⟩, l1, l2, _⟩ := h
              have q1 := r1.frozenAt i
              have q2 := r2.frozenAt i
              rw [← l1] at r1 hi
              have c1 := own_cell r1 hi
              rw [l1, ← l2] at hi
              rw [← l2] at r2
              exact ⟨⟨c1, q1⟩, own_cell r2 hi, q2⟩)
            have MSl : Hid (∀ lm ln W, MS lm ln W → (Ld W (.slice oM1 sx.length kM1) sx ∧ Ld W (.slice (some ⟨gM, 0, none⟩) dx.length cM) lm) ∧ (Ld W (.slice oM2 sx.length kM2) sx ∧ Ld W (.slice (some ⟨gN, 0, none⟩) dx.length cN) ln) ∧ P1 W) := Lib.hid (fun lm ln W h => by
              rw [hMS] at h
              obtain ⟨hb, _, ⟨s1, s2⟩, ⟨r1, r2⟩, l1, l2, _⟩ := h
              exact ⟨⟨Ld.of_own' s1 rfl, Ld.of_own' r1 l1⟩, ⟨Ld.of_own' s2 rfl, Ld.of_own' r2 l2⟩, P1n.out _ _ G1.out hb⟩)
            clear hMS hw11 hT10 U2c Q9 O9 hcM hcN x0 x1 x2 x3 x4
            obtain ⟨⟨z9a, z9b⟩, z10a, z10b⟩ := MSt.out _ _ _ M0.out
            go_wp2
            clear z9a z9b z10a z10b
            go_loopw [11, 12] (fun s11 s12 wQ => ∃ (j : Nat) (bo : Bool), j ≤ dx.length ∧ s11 = .bool bo ∧ s12 = .int .i64 j ∧ Hid (bo = okl z dx j) ∧ Hid (MS (mvl (fun a => tw (a + z)) dx j) (mvl (fun a => -a) dx j) wQ)) (fun _ s12 _ => dx.length - (intOf s12).toNat)
            case atStart => exact ⟨0, true, Nat.zero_le _, rfl, rfl, Lib.hid (by simp [okl]), by rw [mvl_0, mvl_0]; exact M0⟩
            case round =>
              obtain ⟨j, bo, hj, rfl, rfl, HBO, HM⟩ := hrel
              obtain ⟨wj, hwj⟩ : ∃ v, v = wr := ⟨_, rfl⟩
              rw [← hwj] at HM ⊢
              clear hwj
              obtain ⟨⟨z9a, z9b⟩, z10a, z10b⟩ := MSt.out _ _ _ HM.out
              by_cases hjl : j < dx.length
              · as_aux_lemma =>
                obtain ⟨⟨zM, fM⟩, zN, fN⟩ := MSc.out _ _ _ HM.out j hjl
                rw [mvl_get hjl] at zM zN
                have hwa : wd (dx.getD j 0) = true := wd_mk (wds_at HW.out.2.2.1 hjl)
                have hba := wd_bd hwa
                have hbz := wd_bd E0.out.2.1
                have KAD := Lib.hid (fun W : World => r2add_any (dx.getD j 0) z W (by omega) (by omega) (by omega) (by omega))
                have HJ : Hid (j < dx.length ∧ (mvl (fun a => tw (a + z)) dx j).set j (tw (dx.getD j 0 + z)) = mvl (fun a => tw (a + z)) dx (j + 1) ∧ (mvl (fun a => -a) dx j).set j (-(dx.getD j 0)) = mvl (fun a => -a) dx (j + 1)) := Lib.hid ⟨hjl, mvl_set hjl, mvl_set hjl⟩
                have HWE2 : Hid ((te (dx.getD j 0 + z) = 0 → wd (dx.getD j 0 + z) = true) ∧ (te (dx.getD j 0 + z) ≠ 0 → wd (dx.getD j 0 + z) = false)) := Lib.hid (by
                  unfold te
                  cases wd (dx.getD j 0 + z) <;> simp)
                have KSL : Hid (∀ V, Below wj.heap.size wj V → V.cell? ⟨w1.heap.size, 3, none⟩ = some (.int .i64 z)) := Lib.hid (fun V hV => (FRk.out _ (P1f.out _ (P1n.out _ _ (MSl.out _ _ _ HM.out).2.2 hV))).2.2.2.1)
                have e1 : wrap64 (-(dx.getD j 0)) = -(dx.getD j 0) := (wrp (by omega)).1
                have e2 : IntKind.i64.wrap (-(dx.getD j 0)) = -(dx.getD j 0) := (wrp (by omega)).2
                clear hwa hba hbz
                generalize hE : te (dx.getD j 0 + z) = E at *
                generalize hVV : tw (dx.getD j 0 + z) = VV at *
                generalize hAJ : dx.getD j 0 = aj at *
                have HEA := Lib.hid (And.intro hE (And.intro hVV hAJ))
                have HE1 := Lib.hid (And.intro e1 e2)
                clear hE hVV hAJ e1 e2
                have KS : Hid (∀ V, Below wj.heap.size wj V → (V.cell? ⟨T9, 1, none⟩ = some (.slice (some ⟨gM, 0, none⟩) dx.length cM) ∧ V.cell? ⟨gM, j, none⟩ = some (.int .i64 aj)) ∧ V.cell? ⟨w1.heap.size, 3, none⟩ = some (.int .i64 z)) := Lib.hid (fun V hV => by
                  have q := MSn.out _ _ _ _ HM.out hV
                  have c := ((MSc.out _ _ _ q j HJ.out.1).1).1
                  rw [mvl_get HJ.out.1, HEA.out.2.2] at c
                  exact ⟨⟨(MSt.out _ _ _ q).1.2, c⟩, KSL.out V hV⟩)
                go_upto_region 19 with fail
                go_cut [13, 14] (fun s13 s14 wx => s13 = .int .i64 VV ∧ s14 = .int .i64 E ∧ Hid (Below wj.heap.size wj wx))
                case first =>
                  as_aux_lemma =>
                  have B_0 : Hid (Below wj.heap.size wj wj.drew) := Lib.hid (below_drw (Below.refl _ _) 1)
                  refine wp_region_held_drew (S := fun V => (V.cell? ⟨T9, 1, none⟩ = some (.slice (some ⟨gM, 0, none⟩) dx.length cM) ∧ V.cell? ⟨gM, j, none⟩ = some (.int .i64 aj)) ∧ V.cell? ⟨w1.heap.size, 3, none⟩ = some (.int .i64 z)) (by kernel_rfl) ?_ (fun hHeld => ?_)
                  · exact KS.out _ B_0.out
                  have hHd := hHeld
                  generalize wj.drew = w_0 at *
                  (refine wpAnyH_take (i := 0) (oi := ⟨some 112, _, _, _, _, _⟩) (v := ?v0_a1) rfl (by kernel_rfl) (by kernel_rfl) (by kernel_rfl) (fun _ _ _ h => h) (Or.inl ⟨by rfl, ?hy0_a1⟩) (by assumption) ?rest0_a1; (case hy0_a1 => ((intro w hSw); (try dsimp only at hSw); go_simp; first | done | (with_reducible rfl))))
                  (try simp only [Act.put, List.setIfInBounds_toArray, List.set_cons_zero, List.set_cons_succ])
                  (refine wpAnyH_take (i := 1) (oi := ⟨some 113, _, _, _, _, _⟩) (v := ?v1_a2) rfl (by kernel_rfl) (by kernel_rfl) (by kernel_rfl) (fun _ _ _ h => h) (Or.inl ⟨by rfl, ?hy1_a2⟩) (by assumption) ?rest1_a2; (case hy1_a2 => ((intro w hSw); (try dsimp only at hSw); go_simp; first | done | (with_reducible rfl))))
                  (try simp only [Act.put, List.setIfInBounds_toArray, List.set_cons_zero, List.set_cons_succ])
                  (refine wpAnyH_take (i := 2) (oi := ⟨some 114, _, _, _, _, _⟩) (v := ?v2_a3) rfl (by kernel_rfl) (by kernel_rfl) (by kernel_rfl) (fun _ _ _ h => h) (Or.inl ⟨by rfl, ?hy2_a3⟩) (by assumption) ?rest2_a3; (case hy2_a3 => ((intro w hSw); (try dsimp only at hSw); go_simp; first | done | (with_reducible rfl))))
                  (try simp only [Act.put, List.setIfInBounds_toArray, List.set_cons_zero, List.set_cons_succ])
                  (refine wpAnyH_take (i := 3) (oi := ⟨some 115, _, _, _, _, _⟩) (v := ?v3_a4) rfl (by kernel_rfl) (by kernel_rfl) (by kernel_rfl) (fun _ _ _ h => h) (Or.inl ⟨by rfl, ?hy3_a4⟩) (by assumption) ?rest3_a4; (case hy3_a4 => ((intro w hSw); (try dsimp only at hSw); go_simp; first | done | (with_reducible rfl))))
                  (try simp only [Act.put, List.setIfInBounds_toArray, List.set_cons_zero, List.set_cons_succ])
                  (refine wpAnyH_take (i := 4) (oi := ⟨some 116, _, _, _, _, _⟩) (v := ?v4_a5) rfl (by kernel_rfl) (by kernel_rfl) (by kernel_rfl) (fun _ _ _ h => h) (Or.inl ⟨by rfl, ?hy4_a5⟩) (by assumption) ?rest4_a5; (case hy4_a5 => ((intro w hSw); (try dsimp only at hSw); go_simp; first | done | (with_reducible rfl))))
                  (try simp only [Act.put, List.setIfInBounds_toArray, List.set_cons_zero, List.set_cons_succ])
                  (refine wpAnyH_take (i := 5) (oi := ⟨some 117, _, _, _, _, _⟩) (v := ?v5_a6) rfl (by kernel_rfl) (by kernel_rfl) (by kernel_rfl) (fun _ _ _ h => h) (Or.inl ⟨by rfl, ?hy5_a6⟩) (by assumption) ?rest5_a6; (case hy5_a6 => ((intro w hSw); (try dsimp only at hSw); go_simp; first | done | (with_reducible rfl))))
                  (try simp only [Act.put, List.setIfInBounds_toArray, List.set_cons_zero, List.set_cons_succ])
                  (refine wpAnyH_take (i := 6) (oi := ⟨some 118, _, _, _, _, _⟩) (v := ?v6_a7) rfl (by kernel_rfl) (by kernel_rfl) (by kernel_rfl) (fun _ _ _ h => h) (Or.inl ⟨by rfl, ?hy6_a7⟩) (by assumption) ?rest6_a7; (case hy6_a7 => ((intro w hSw); (try dsimp only at hSw); go_simp; first | done | (with_reducible rfl))))
                  (try simp only [Act.put, List.setIfInBounds_toArray, List.set_cons_zero, List.set_cons_succ])
                  refine wpAnyH_ready (rs := [7]) (by kernel_rfl) (by simp) ?_
                  refine AllReadyH.cons (o := ⟨some 119, _, _, _, _, _⟩) rfl (fun K hK => ?_) (AllReadyH.nil)
                  go_simp
                  (go_at_call 14; (with_reducible refine (KAD.out _).mono ?_); rintro e w_1 ⟨rfl, hb⟩; have B_1 := Lib.hid (B_0.out.trans (hb.mono B_0.out.size)); clear hb)
                  refine hK.out _ _ ?_ (fun hHeld => ?_)
                  · (try dsimp only)
                    exact KS.out _ B_1.out
                  clear hK K
                  (try simp only [Act.put, List.setIfInBounds_toArray, List.set_cons_zero, List.set_cons_succ])
                  (refine wpAnyH_take (i := 8) (oi := ⟨some 111, _, _, _, _, _⟩) (v := ?v8_a8) rfl (by kernel_rfl) (by kernel_rfl) (by kernel_rfl) (fun _ _ _ h => h) (Or.inl ⟨by rfl, ?hy8_a8⟩) (by assumption) ?rest8_a8; (case hy8_a8 => ((intro w hSw); (try dsimp only at hSw); go_simp; first | done | (with_reducible rfl))))
                  (try simp only [Act.put, List.setIfInBounds_toArray, List.set_cons_zero, List.set_cons_succ])
                  (refine wpAnyH_take (i := 9) (oi := ⟨some 120, _, _, _, _, _⟩) (v := ?v9_a9) rfl (by kernel_rfl) (by kernel_rfl) (by kernel_rfl) (fun _ _ _ h => h) (Or.inl ⟨by rfl, ?hy9_a9⟩) (by assumption) ?rest9_a9; (case hy9_a9 => ((intro w hSw); (try dsimp only at hSw); go_simp; first | done | (with_reducible rfl))))
                  (try simp only [Act.put, List.setIfInBounds_toArray, List.set_cons_zero, List.set_cons_succ])
                  (refine wpAnyH_take (i := 10) (oi := ⟨some 121, _, _, _, _, _⟩) (v := ?v10_a10) rfl (by kernel_rfl) (by kernel_rfl) (by kernel_rfl) (fun _ _ _ h => h) (Or.inl ⟨by rfl, ?hy10_a10⟩) (by assumption) ?rest10_a10; (case hy10_a10 => ((intro w hSw); (try dsimp only at hSw); go_simp; first | done | (with_reducible rfl))))
                  (try simp only [Act.put, List.setIfInBounds_toArray, List.set_cons_zero, List.set_cons_succ])
                  (refine wpAnyH_take (i := 11) (oi := ⟨some 13, _, _, _, _, _⟩) (v := ?v11_a11) rfl (by kernel_rfl) (by kernel_rfl) (by kernel_rfl) (fun _ _ _ h => h) (Or.inl ⟨by rfl, ?hy11_a11⟩) (by assumption) ?rest11_a11; (case hy11_a11 => ((intro w hSw); (try dsimp only at hSw); go_simp; first | done | (with_reducible rfl))))
                  (try simp only [Act.put, List.setIfInBounds_toArray, List.set_cons_zero, List.set_cons_succ])
                  (refine wpAnyH_take (i := 12) (oi := ⟨some 14, _, _, _, _, _⟩) (v := ?v12_a12) rfl (by kernel_rfl) (by kernel_rfl) (by kernel_rfl) (fun _ _ _ h => h) (Or.inl ⟨by rfl, ?hy12_a12⟩) (by assumption) ?rest12_a12; (case hy12_a12 => ((intro w hSw); (try dsimp only at hSw); go_simp; first | done | (with_reducible rfl))))
                  (try simp only [Act.put, List.setIfInBounds_toArray, List.set_cons_zero, List.set_cons_succ])
                  refine wpAnyH_done (by kernel_rfl) ?_ _
                  go_wp2
                  go_meet
                  exact ⟨rfl, rfl, B_1⟩
                case rest =>
                  as_aux_lemma =>
                  obtain ⟨rfl, rfl, HBW⟩ := hcut
                  obtain ⟨wd1, hwd1⟩ : ∃ v, v = wc := ⟨_, rfl⟩
                  rw [← hwd1] at HBW ⊢
                  clear hwd1 z9a z9b z10a z10b zM fM zN fN KS KAD
                  have HM1 := Lib.hid (MSn.out _ _ _ _ HM.out HBW.out)
                  obtain ⟨⟨z9a, z9b⟩, z10a, z10b⟩ := MSt.out _ _ _ HM1.out
                  obtain ⟨⟨zM, fM⟩, _⟩ := MSc.out _ _ _ HM1.out j hjl
                  go_upto_region 21 with fail
                  clear z9a z9b z10a z10b zM fM
                  have HM2 := Lib.hid (MS1.out _ _ _ HM1.out hjl VV)
                  generalize wd1.setCell ⟨gM, j, none⟩ (.int .i64 VV) = wd2 at *
                  have B_0 : Hid (MS ((mvl (fun a => tw (a + z)) dx j).set j VV) (mvl (fun a => -a) dx j) wd2.drew) := Lib.hid (MSn.out _ _ _ _ HM2.out (below_drw (Below.refl _ _) 1))
                  have KS : Hid (∀ {lm ln} V, MS lm ln V → V.cell? ⟨T10, 1, none⟩ = some (.slice (some ⟨gN, 0, none⟩) dx.length cN)) := Lib.hid (fun V hV => (MSt.out _ _ _ hV).2.2)
                  refine wp_region_held_drew (S := fun V => V.cell? ⟨T10, 1, none⟩ = some (.slice (some ⟨gN, 0, none⟩) dx.length cN)) (by kernel_rfl) ?_ (fun hHeld => ?_)
                  · exact KS.out _ B_0.out
                  have hHd := hHeld
                  generalize wd2.drew = w_0 at *
                  obtain ⟨_, zN, fN⟩ := MSc.out _ _ _ B_0.out j hjl
                  rw [mvl_get hjl, HEA.out.2.2] at zN
                  obtain ⟨e1, e2⟩ := HE1.out
                  (refine wpAnyH_take (i := 0) (oi := ⟨some 127, _, _, _, _, _⟩) (v := ?v0_b1) rfl (by kernel_rfl) (by kernel_rfl) (by kernel_rfl) (fun _ _ _ h => h) (Or.inl ⟨by rfl, ?hy0_b1⟩) (by assumption) ?rest0_b1; (case hy0_b1 => ((intro w hSw); (try dsimp only at hSw); go_simp; first | done | (with_reducible rfl))))
                  (try simp only [Act.put, List.setIfInBounds_toArray, List.set_cons_zero, List.set_cons_succ])
                  (refine wpAnyH_take (i := 1) (oi := ⟨some 128, _, _, _, _, _⟩) (v := ?v1_b2) rfl (by kernel_rfl) (by kernel_rfl) (by kernel_rfl) (fun _ _ _ h => h) (Or.inl ⟨by rfl, ?hy1_b2⟩) (by assumption) ?rest1_b2; (case hy1_b2 => ((intro w hSw); (try dsimp only at hSw); go_simp; first | done | (with_reducible rfl))))
                  (try simp only [Act.put, List.setIfInBounds_toArray, List.set_cons_zero, List.set_cons_succ])
                  (refine wpAnyH_take (i := 2) (oi := ⟨some 129, _, _, _, _, _⟩) (v := ?v2_b3) rfl (by kernel_rfl) (by kernel_rfl) (by kernel_rfl) (fun _ _ _ h => h) (Or.inl ⟨by rfl, ?hy2_b3⟩) (by assumption) ?rest2_b3; (case hy2_b3 => ((intro w hSw); (try dsimp only at hSw); go_simp; first | done | (with_reducible rfl))))
                  (try simp only [Act.put, List.setIfInBounds_toArray, List.set_cons_zero, List.set_cons_succ])
                  (refine wpAnyH_take (i := 3) (oi := ⟨some 130, _, _, _, _, _⟩) (v := ?v3_b4) rfl (by kernel_rfl) (by kernel_rfl) (by kernel_rfl) (fun _ _ _ h => h) (Or.inl ⟨by rfl, ?hy3_b4⟩) (by assumption) ?rest3_b4; (case hy3_b4 => ((intro w hSw); (try dsimp only at hSw); go_simp; first | done | (with_reducible rfl))))
                  (try simp only [Act.put, List.setIfInBounds_toArray, List.set_cons_zero, List.set_cons_succ])
                  (refine wpAnyH_take (i := 4) (oi := ⟨some 131, _, _, _, _, _⟩) (v := ?v4_b5) rfl (by kernel_rfl) (by kernel_rfl) (by kernel_rfl) (fun _ _ _ h => h) (Or.inl ⟨by rfl, ?hy4_b5⟩) (by assumption) ?rest4_b5; (case hy4_b5 => ((intro w hSw); (try dsimp only at hSw); go_simp; first | done | (with_reducible rfl))))
                  (try simp only [Act.put, List.setIfInBounds_toArray, List.set_cons_zero, List.set_cons_succ])
                  (refine wpAnyH_take (i := 5) (oi := ⟨some 132, _, _, _, _, _⟩) (v := ?v5_b6) rfl (by kernel_rfl) (by kernel_rfl) (by kernel_rfl) (fun _ _ _ h => h) (Or.inl ⟨by rfl, ?hy5_b6⟩) (by assumption) ?rest5_b6; (case hy5_b6 => ((intro w hSw); (try dsimp only at hSw); go_simp; first | done | (with_reducible rfl))))
                  (try simp only [Act.put, List.setIfInBounds_toArray, List.set_cons_zero, List.set_cons_succ])
                  (refine wpAnyH_take (i := 6) (oi := ⟨some 133, _, _, _, _, _⟩) (v := ?v6_b7) rfl (by kernel_rfl) (by kernel_rfl) (by kernel_rfl) (fun _ _ _ h => h) (Or.inl ⟨by rfl, ?hy6_b7⟩) (by assumption) ?rest6_b7; (case hy6_b7 => ((intro w hSw); (try dsimp only at hSw); go_simp; first | done | (with_reducible rfl))))
                  (try simp only [Act.put, List.setIfInBounds_toArray, List.set_cons_zero, List.set_cons_succ])
                  refine wpAnyH_ready (rs := [7]) (by kernel_rfl) (by simp) ?_
                  refine AllReadyH.cons (o := ⟨some 134, _, _, _, _, _⟩) rfl (fun K hK => ?_) (AllReadyH.nil)
                  go_simp
                  refine hK.out _ _ ?_ (fun hHeld => ?_)
                  · (try dsimp only)
                    exact KS.out _ B_0.out
                  clear hK K
                  (try simp only [Act.put, List.setIfInBounds_toArray, List.set_cons_zero, List.set_cons_succ])
                  (refine wpAnyH_take (i := 8) (oi := ⟨some 135, _, _, _, _, _⟩) (v := ?v8_b8) rfl (by kernel_rfl) (by kernel_rfl) (by kernel_rfl) (fun _ _ _ h => h) (Or.inl ⟨by rfl, ?hy8_b8⟩) (by assumption) ?rest8_b8; (case hy8_b8 => ((intro w hSw); (try dsimp only at hSw); go_simp; first | done | (with_reducible rfl))))
                  (try simp only [Act.put, List.setIfInBounds_toArray, List.set_cons_zero, List.set_cons_succ])
                  (refine wpAnyH_take (i := 9) (oi := ⟨some 136, _, _, _, _, _⟩) (v := ?v9_b9) rfl (by kernel_rfl) (by kernel_rfl) (by kernel_rfl) (fun _ _ _ h => h) (Or.inl ⟨by rfl, ?hy9_b9⟩) (by assumption) ?rest9_b9; (case hy9_b9 => ((intro w hSw); (try dsimp only at hSw); go_simp; first | done | (with_reducible rfl))))
                  (try simp only [Act.put, List.setIfInBounds_toArray, List.set_cons_zero, List.set_cons_succ])
                  refine wpAnyH_ready (rs := [10]) (by kernel_rfl) (by simp) ?_
                  refine AllReadyH.cons (o := ⟨none, _, _, _, _, _⟩) rfl (fun K hK => ?_) (AllReadyH.nil)
                  have ZF := Lib.hid (MS2.out _ _ _ B_0.out hjl (-aj))
                  go_simp
                  refine hK.out _ _ ?_ (fun hHeld => ?_)
                  · (try dsimp only)
                    exact KS.out _ ZF.out
                  clear hK K
                  generalize w_0.setCell ⟨gN, j, none⟩ (.int .i64 (-aj)) = w_2 at *
                  (try simp only [Act.put, List.setIfInBounds_toArray, List.set_cons_zero, List.set_cons_succ])
                  refine wpAnyH_done (by kernel_rfl) ?_ _
                  clear zN fN e1 e2
                  go_upto_region 22 with fail
                  cases bo with
                  | false =>
                    go_wp2
                    exact ⟨⟨j + 1, false, by omega, rfl, by go_num, Lib.hid (by rw [okl_succ HJ.out.1, ← HBO.out]; rfl), Lib.hid (by have q := ZF.out; rwa [HJ.out.2.1, HJ.out.2.2] at q)⟩, by simp [intOf]; omega⟩
                  | true =>
                    by_cases hE : E = 0
                    · have hE1 : (E == 0) = true := by rw [beq_iff_eq]; exact hE
                      have HEZ := Lib.hid hE
                      clear hE
                      go_wp2
                      exact ⟨⟨j + 1, true, by omega, rfl, by go_num, Lib.hid (by rw [okl_succ HJ.out.1, ← HBO.out, HEA.out.2.2, HWE2.out.1 HEZ.out]; rfl), Lib.hid (by have q := ZF.out; rwa [HJ.out.2.1, HJ.out.2.2] at q)⟩, by simp [intOf]; omega⟩
                    · have hE1 : (E == 0) = false := by rw [beq_eq_false_iff_ne]; exact hE
                      have HEZ := Lib.hid hE
                      clear hE
                      go_wp2
                      exact ⟨⟨j + 1, false, by omega, rfl, by go_num, Lib.hid (by rw [okl_succ HJ.out.1, ← HBO.out, HEA.out.2.2, HWE2.out.2 HEZ.out]; rfl), Lib.hid (by have q := ZF.out; rwa [HJ.out.2.1, HJ.out.2.2] at q)⟩, by simp [intOf]; omega⟩
              · as_aux_lemma =>
                have hjD : j = dx.length := by omega
                rw [hjD] at HBO HM
                rw [mvl_all, mvl_all] at HM
                clear hjD hj
                have HML := Lib.hid (MSl.out _ _ _ HM.out)
                have hDn : (nrt n dx ep fN) = AN := HA.out.1.symm
                have hneg : nrt n (dx.map fun a => -a) ep fN = AN.map fun a => -a := by rw [← hDn]; exact nrt_neg fN HW.out.2.2.2.1 E0.out.1
                have hbneg : tnb sx (dx.map fun a => -a) = true := tnb_mk E0.out.2.2.2.1 (by rw [List.length_map]; exact E0.out.2.2.2.2.1) (wds_map (g := fun a => -a) (fun a ha => by
                  obtain ⟨k, hk, rfl⟩ := List.mem_iff_getElem.1 ha
                  have := wds_at HW.out.2.2.1 hk
                  simp only [List.getD, List.getElem?_eq_getElem hk, Option.getD_some] at this
                  exact wd_mk (by omega)))
                have KNB : Hid (∀ W, MS (dx.map fun a => tw (a + z)) (dx.map fun a => -a) W → Calls Try.prog 10 #[.agg #[.slice oM2 sx.length kM2, .slice (some ⟨gN, 0, none⟩) dx.length cN], .int .i64 ep, .int .i64 (fN : Int)] W fun e w' => ∃ os cs od cd, e = .returned (.tuple #[.agg #[.slice os sx.length cs, .slice od dx.length cd], .int .i64 0]) ∧ Ld w' (.slice od dx.length cd) (AN.map fun a => -a) ∧ Below W.heap.size W w') := Lib.hid (fun W h => by
                  obtain ⟨_, ⟨h1, h2⟩, _⟩ := MSl.out _ _ _ h
                  refine (norm_ld _ _ sx _ ep fN W h1 h2 hbneg HW.out.1 E0.out.1 HW.out.2.1 E0.out.2.2.1 n E0.out.2.2.2.2.2).mono fun e w' hh => ?_
                  obtain ⟨os, cs, od, cd, rfl, _, h4, h5⟩ := hh
                  rw [hneg] at h4
                  rw [List.length_map] at *
                  exact ⟨os, cs, od, cd, rfl, h4, h5⟩)
                have KNA : Hid (okl z dx dx.length = true → ∀ W, MS (dx.map fun a => tw (a + z)) (dx.map fun a => -a) W → Calls Try.prog 10 #[.agg #[.slice oM1 sx.length kM1, .slice (some ⟨gM, 0, none⟩) dx.length cM], .int .i64 ep, .int .i64 (fN : Int)] W fun e w' => ∃ os cs od cd, e = .returned (.tuple #[.agg #[.slice os sx.length cs, .slice od dx.length cd], .int .i64 0]) ∧ (Ld w' (.slice os sx.length cs) sx ∧ Ld w' (.slice od dx.length cd) AN) ∧ Below W.heap.size W w') := Lib.hid (fun hok W h => by
                  obtain ⟨⟨h1, h2⟩, _, _⟩ := MSl.out _ _ _ h
                  obtain ⟨q1, q2⟩ := okl_all hok
                  have hb : tnb sx (dx.map (· + z)) = true := tnb_mk E0.out.2.2.2.1 (by rw [List.length_map]; exact E0.out.2.2.2.2.1) (wds_map (g := (· + z)) q2)
                  rw [q1] at h2
                  refine (norm_ld _ _ sx _ ep fN W h1 h2 hb HW.out.1 E0.out.1 HW.out.2.1 E0.out.2.2.1 n E0.out.2.2.2.2.2).mono fun e w' hh => ?_
                  obtain ⟨os, cs, od, cd, rfl, h3, h4, h5⟩ := hh
                  rw [nrt_add ep z fN HW.out.2.2.2.1, hDn] at h4
                  rw [List.length_map] at *
                  exact ⟨os, cs, od, cd, rfl, ⟨h3, h4⟩, h5⟩)
                clear hneg hbneg hDn
                generalize (dx.map fun a => tw (a + z)) = LM at *
                generalize hLN : (dx.map fun a => -a) = LNg at *
                clear hLN
                obtain ⟨⟨z9a, z9b⟩, z10a, z10b⟩ := MSt.out _ _ _ HM.out
                obtain ⟨⟨y0, y1⟩, hyA⟩ := P1t.out _ HML.out.2.2
                obtain ⟨x0, x1, x2, x3, x4⟩ := FRk.out _ (P1f.out _ HML.out.2.2)
                have HYA := Lib.hid hyA
                clear hyA
                go_upto_if 142 with fail
                go_cut [15] (fun s15 wx => Hid (MS LM LNg wx))
                case first =>
                  as_aux_lemma =>
                  cases bo with
                  | false =>
                    go_wp2
                    go_meet
                    exact HM
                  | true =>
                    have KN1 := Lib.hid (KNA.out HBO.out.symm _ HM.out)
                    go_upto_region 25 with (go_at_call 10; (with_reducible refine KN1.out.mono ?_); rintro e wzA ⟨osA, csA, odA, cdA, rfl, h1, hb⟩; have UA := Lib.hid (And.intro h1 (MSn.out _ _ _ _ HM.out hb)); clear h1 hb)
                    have hmA := MSn.out _ _ _ _ UA.out.2 (al_below (.cells #[.slice osA sx.length csA, .slice odA dx.length cdA] 26))
                    have hpA := (MSl.out _ _ _ hmA).2.2
                    obtain ⟨⟨y0, y1⟩, yA, yS⟩ := P1t.out _ hpA
                    have HMA := Lib.hid hmA
                    have KEQ := Lib.hid (eqtensor_same _ _ _ _ sx AN _ yS yA (UA.out.1.1.below (al_below _)) (UA.out.1.2.below (al_below _)) (by have := HA.out.2; omega) (by have := HA.out.2; omega))
                    clear hmA hpA yA yS
                    go_wp2_with (first | (go_at_call 11; (with_reducible refine (num14_any _ _).mono ?_); rintro e w' ⟨rfl, rfl⟩) | (go_at_call 15; (with_reducible refine KEQ.out.mono ?_); rintro e wzE ⟨rfl, hb⟩; have HEQ := Lib.hid (MSn.out _ _ _ _ HMA.out hb); clear hb))
                    go_meet
                    exact HEQ
                case rest =>
                  as_aux_lemma =>
                  have HMR := hcut
                  obtain ⟨wr1, hwr1⟩ : ∃ v, v = wc := ⟨_, rfl⟩
                  rw [← hwr1] at HMR ⊢
                  clear hwr1 hcut z9a z9b z10a z10b y0 y1 x0 x1 x2 x3 x4 HM HML HYA KNA
                  obtain ⟨⟨z9a, z9b⟩, z10a, z10b⟩ := MSt.out _ _ _ HMR.out
                  obtain ⟨⟨y0, y1⟩, _⟩ := P1t.out _ (MSl.out _ _ _ HMR.out).2.2
                  obtain ⟨x0, x1, x2, x3, x4⟩ := FRk.out _ (P1f.out _ (MSl.out _ _ _ HMR.out).2.2)
                  have KN2 := Lib.hid (KNB.out _ HMR.out)
                  go_upto_region 28 with (go_at_call 10; (with_reducible refine KN2.out.mono ?_); rintro e wzB ⟨osB, csB, odB, cdB, rfl, h1, hb⟩; have UB := Lib.hid (And.intro h1 (MSn.out _ _ _ _ HMR.out hb)); clear h1 hb)
                  obtain ⟨v3, hv⟩ : ∃ v, v = wzB.alloc (.cells #[.slice osB sx.length csB, .slice odB dx.length cdB] 26) := ⟨_, rfl⟩
                  obtain ⟨T17, hT⟩ : ∃ T, T = wzB.heap.size := ⟨_, rfl⟩
                  rw [← hv, ← hT]
                  obtain ⟨YN, hYN⟩ : ∃ l, l = AN.map fun a => -a := ⟨_, rfl⟩
                  rw [← hYN] at UB
                  have hYl : YN.length = dx.length := by rw [hYN, List.length_map]; exact HA.out.2
                  have hYa : ∀ p, p < dx.length → YN.getD p 0 = -(AN.getD p 0) := fun p hp => by rw [hYN]; exact mp_getD (fun a => -a) (by rw [HA.out.2]; exact hp)
                  obtain ⟨gY, fY, hoY, _⟩ := ld_at UB.out.1 (k := 0) (by rw [hYl]; omega)
                  subst hoY
                  obtain ⟨P3, hP⟩ : ∃ P : World → Prop, P = fun W => P1 W ∧ Blk W T17 26 #[.slice osB sx.length csB, .slice (some ⟨gY, fY, none⟩) dx.length cdB] ∧ Ld W (.slice (some ⟨gY, fY, none⟩) dx.length cdB) YN := ⟨_, rfl⟩
                  have G3 : Hid (P3 v3) := Lib.hid (by rw [hP]; exact ⟨by rw [hv]; exact (MSl.out _ _ _ (MSn.out _ _ _ _ UB.out.2 (al_below _))).2.2, by rw [hv, hT]; exact Blk.new _ _ _, by rw [hv]; exact UB.out.1.below (al_below _)⟩)
                  have P3f : Hid (∀ W, P3 W → P1 W) := Lib.hid (fun W h => by rw [hP] at h; exact h.1)
                  have P3n : Hid (∀ W W', P3 W → Below W.heap.size W W' → P3 W') := Lib.hid (fun W W' h hb => by rw [hP] at h ⊢; exact ⟨P1n.out _ _ h.1 hb, h.2.1.below hb h.2.1.lt, h.2.2.below hb⟩)
                  have P3t : Hid (∀ W, P3 W → (W.cell? ⟨T17, 0, none⟩ = some (.slice osB sx.length csB) ∧ W.cell? ⟨T17, 1, none⟩ = some (.slice (some ⟨gY, fY, none⟩) dx.length cdB)) ∧ Ld W (.slice (some ⟨gY, fY, none⟩) dx.length cdB) YN) := Lib.hid (fun W h => by rw [hP] at h; exact ⟨⟨(blk2 h.2.1).1, (blk2 h.2.1).2.1⟩, h.2.2⟩)
                  have P3c : Hid (∀ W, P3 W → ∀ p, p < dx.length → W.cell? ⟨gV, fV + p, none⟩ = some (.int .i64 (dx.getD p 0)) ∧ W.cell? ⟨gA, fA + p, none⟩ = some (.int .i64 (AN.getD p 0)) ∧ W.cell? ⟨gY, fY + p, none⟩ = some (.int .i64 (-(AN.getD p 0)))) := Lib.hid (fun W h p hp => by
                    have h1 := P3f.out _ h
                    have c1 := ld_cell (HL.out.2.below (FRb.out _ (P1f.out _ h1))) hp
                    have c2 := ld_cell (P1t.out _ h1).2.1 (k := p) (by rw [HA.out.2]; exact hp)
                    have c3 := ld_cell (P3t.out _ h).2 (k := p) (by rw [hYl]; exact hp)
                    rw [hYa p hp] at c3
                    exact ⟨c1, c2, c3⟩)
                  have P3k : Hid (∀ W, P3 W → W.cell? ⟨w1.heap.size, 1, none⟩ = some (.slice (some ⟨gV, fV, none⟩) dx.length cV) ∧ W.cell? ⟨T7, 1, none⟩ = some (.slice (some ⟨gA, fA, none⟩) dx.length cd1) ∧ W.cell? ⟨T17, 1, none⟩ = some (.slice (some ⟨gY, fY, none⟩) dx.length cdB)) := Lib.hid (fun W h => ⟨(FRk.out _ (P1f.out _ (P3f.out _ h))).2.1, (P1t.out _ (P3f.out _ h)).1.2, (P3t.out _ h).1.2⟩)
                  have hAb : Hid (∀ p, p < dx.length → -274877906944 ≤ AN.getD p 0 ∧ AN.getD p 0 ≤ 274877906944) := Lib.hid (fun p hp => by
                    obtain ⟨l, j, rfl, hj, hl⟩ := row_idx HW.out.2.2.2.1 hp
                    rw [HA.out.1, nrt_at ep fN hj hl]
                    exact nmv_bd (by have := fb_bd HW.out.2.1; omega))
                  clear hP hv hT UB hYN hYl hYa x0 x1 x2 x3 x4 y0 y1 z9a z9b z10a z10b M0 MSn MS1 MS2 MSt MSc MSl HMR KNB KN2 KCT
                  obtain ⟨q0, q1, q2⟩ := P3k.out _ G3.out
                  go_wp2_with (go_at_call 11; (with_reducible refine (num14_any _ _).mono ?_); rintro e w' ⟨rfl, rfl⟩)
                  clear q0 q1 q2
                  go_loopw [19] (fun s19 wQ => ∃ (l LN : Nat), l ≤ N ∧ s19 = .int .i64 (LN : Nat) ∧ LN ≤ 24 ∧ Hid (LN = l * n) ∧ Hid (P3 wQ)) (fun s19 _ => dx.length - (intOf s19).toNat)
                  case atStart => exact ⟨0, 0, Nat.zero_le _, rfl, Nat.zero_le _, Lib.hid (by simp), G3⟩
                  case round =>
                    obtain ⟨l, LN, hlN, rfl, hL24, HLN, HP3⟩ := hrel
                    obtain ⟨w19, hw19⟩ : ∃ v, v = wr := ⟨_, rfl⟩
                    rw [← hw19] at HP3 ⊢
                    clear hw19
                    obtain ⟨q0, q1, q2⟩ := P3k.out _ HP3.out
                    by_cases hlt : LN < dx.length
                    · as_aux_lemma =>
                      have hln : l + 1 ≤ N := by
                        have h1 := HW.out.2.2.2.1
                        have h2 := HLN.out
                        refine Nat.lt_of_not_le fun h => ?_
                        have := Nat.mul_le_mul_right n h
                        omega
                      have hll : l * n + n ≤ dx.length := by
                        have h1 := HW.out.2.2.2.1
                        have := Nat.mul_le_mul_right n hln
                        rw [Nat.add_mul, Nat.one_mul] at this
                        omega
                      obtain ⟨NR, hNR⟩ : ∃ r, r = nrw n dx ep fN l := ⟨_, rfl⟩
                      have hNl : NR.length = n := by rw [hNR]; exact nrw_len _ _ _ _ _
                      have hNa : ∀ j, j < n → NR.getD j 0 = AN.getD (LN + j) 0 := fun j hj => by
                        rw [hNR, HA.out.1, HLN.out, nrt_in ep fN hj hll]
                      have hsq : sqd NR ≤ n * 2 ^ (2 * fN + 2) := by rw [hNR]; exact nrw_sqd E0.out.1 hn24 hn1 hll
                      have hmono : ∀ i j, i < n → j < n → dx.getD (LN + i) 0 ≤ dx.getD (LN + j) 0 → AN.getD (LN + i) 0 ≤ AN.getD (LN + j) 0 := fun i j hi hj h => by
                        rw [HA.out.1, HLN.out]
                        rw [HLN.out] at h
                        exact nrw_mono E0.out.1 hn24 hll hi hj h
                      have hsb : ∀ j, j ≤ n → (sqd (NR.take j)).natAbs < BIG := fun j hj => by
                        have q := sqd_bd (NR.take j) (fun v hv => by
                          obtain ⟨i, hi, rfl⟩ := List.mem_iff_getElem.1 (List.mem_of_mem_take hv)
                          rw [hNl] at hi
                          have := hAb.out (LN + i) (by have := HLN.out; omega)
                          rw [← hNa i hi] at this
                          simp only [List.getD, List.getElem?_eq_getElem (show i < NR.length by omega), Option.getD_some] at this
                          exact this)
                        have : (NR.take j).length ≤ 24 := by rw [List.length_take]; omega
                        exact big_of (k := 100) (by omega) (by decide)
                      have HROW := Lib.hid (And.intro hln (And.intro hll (And.intro hNl (And.intro hNa (And.intro hsq (And.intro hmono hsb))))))
                      clear hNR hNl hNa hsq hmono hsb hln hll
                      have KF0 := Lib.hid (fun W : World => ifrom_any 0 W (by decide) (by decide))
                      go_upto_region 34 with (go_at_call 16; (with_reducible refine (KF0.out _).mono ?_); rintro e x1w ⟨vx0, rfl, hI, hb⟩; obtain ⟨b0x, o0x, l0x, c0x, rfl, H0⟩ := hI.open; have X1w := Lib.hid hb; have HI0 := Lib.hid (IsI.mk H0.out.1 H0.out.2.1); clear hb hI H0)
                      obtain ⟨v20, hv⟩ : ∃ v, v = x1w.alloc (.cells #[.bool b0x, .slice o0x l0x c0x] 47) := ⟨_, rfl⟩
                      obtain ⟨T20, hT⟩ : ∃ T, T = x1w.heap.size := ⟨_, rfl⟩
                      rw [← hv, ← hT]
                      obtain ⟨SQ, hSQ⟩ : ∃ SQ : Nat → World → Prop, SQ = fun j W => (∃ b o l c, IBq W T20 b o l c (sqd (NR.take j))) ∧ Below w19.heap.size w19 W := ⟨_, rfl⟩
                      have SQ0 : Hid (SQ 0 v20) := Lib.hid (by rw [hSQ, hv, hT]; exact ⟨⟨_, _, _, _, ibq_new HI0.out⟩, X1w.out.alloc X1w.out.size _⟩)
                      have SQn : Hid (∀ j W W', SQ j W → Below W.heap.size W W' → SQ j W') := Lib.hid (fun j W W' h hb => by
                        rw [hSQ] at h ⊢
                        obtain ⟨⟨b, o, l, c, h1⟩, h2⟩ := h
                        exact ⟨⟨b, o, l, c, h1.below hb⟩, h2.trans (hb.mono h2.size)⟩)
                      have SQt : Hid (∀ j W, SQ j W → ∃ b o l c, IBq W T20 b o l c (sqd (NR.take j))) := Lib.hid (fun j W h => by rw [hSQ] at h; exact h.1)
                      have SQm : Hid (∀ j W b o l c, IBq W T20 b o l c (sqd (NR.take j)) → Below w19.heap.size w19 W → SQ j W) := Lib.hid (fun j W b o l c h1 h2 => by rw [hSQ]; exact ⟨⟨b, o, l, c, h1⟩, h2⟩)
                      have SQb : Hid (∀ j W, SQ j W → Below w19.heap.size w19 W) := Lib.hid (fun j W h => by rw [hSQ] at h; exact h.2)
                      have SQp : Hid (∀ j W, SQ j W → P3 W) := Lib.hid (fun j W h => P3n.out _ _ HP3.out (SQb.out j W h))
                      have HT20 : Hid (w19.heap.size ≤ T20) := Lib.hid (by rw [hT]; exact X1w.out.size)
                      obtain ⟨LN2, hLN2⟩ : ∃ m, m = LN + n := ⟨_, rfl⟩
                      have HE : Hid (wrap64 ((LN : Int) + (n : Int)) = (LN2 : Int) ∧ IntKind.i64.wrap ((LN : Int) + (n : Int)) = (LN2 : Int)) := Lib.hid (by
                        rw [show (LN : Int) + (n : Int) = (LN2 : Int) by omega]; exact wrp (by omega))
                      have HLN2 := Lib.hid hLN2
                      clear hSQ hv hT hLN2 X1w HI0 KF0 q0 q1 q2
                      go_wp2
                      go_loopw [21] (fun s21 wQ => ∃ (j kk : Nat), j ≤ n ∧ s21 = .int .i64 (kk : Nat) ∧ kk ≤ 48 ∧ Hid (kk = LN + j) ∧ Hid (SQ j wQ)) (fun s21 _ => LN + n - (intOf s21).toNat)
                      case atStart => exact ⟨0, LN, Nat.zero_le _, rfl, by omega, Lib.hid rfl, SQ0⟩
                      case round =>
                        obtain ⟨j, kk, hj, rfl, hk48, HKK, HSQ⟩ := hrel
                        obtain ⟨w21, hw21⟩ : ∃ v, v = wr := ⟨_, rfl⟩
                        rw [← hw21] at HSQ ⊢
                        clear hw21
                        obtain ⟨q0, q1, q2⟩ := P3k.out _ (SQp.out _ _ HSQ.out)
                        obtain ⟨e1, e2⟩ := HE.out
                        by_cases hjn : j < n
                        · as_aux_lemma =>
                          have hkl : (kk : Int) < (LN2 : Int) := by have := HKK.out; have := HLN2.out; omega
                          have hkd : kk < dx.length := by have := HKK.out; have := HROW.out.2.1; have := HLN.out; omega
                          obtain ⟨_, cA, cY⟩ := P3c.out _ (SQp.out _ _ HSQ.out) kk hkd
                          have hab := hAb.out kk hkd
                          obtain ⟨ak, hak⟩ : ∃ a, a = AN.getD kk 0 := ⟨_, rfl⟩
                          rw [← hak] at cA cY hab
                          have HAK := Lib.hid hak
                          have e3 : wrap64 (-ak) = -ak := (wrp (by omega)).1
                          have e4 : IntKind.i64.wrap (-ak) = -ak := (wrp (by omega)).2
                          have HAB2 := Lib.hid hab
                          clear hak hab
                          go_upto_region 37 with fail
                          clear e1 e2
                          go_cut [208] (fun s208 wx => s208 = .bool false ∧ Hid (SQ j wx))
                          case first =>
                            as_aux_lemma =>
                            go_quiet (fail)
                            go_wp2
                            go_meet
                            exact ⟨rfl, Lib.hid (SQn.out _ _ _ HSQ.out (below_drw (Below.refl _ _) _))⟩
                          case rest =>
                            as_aux_lemma =>
                            obtain ⟨rfl, HS1⟩ := hcut
                            obtain ⟨wk, hwk⟩ : ∃ v, v = wc := ⟨_, rfl⟩
                            rw [← hwk] at HS1 ⊢
                            clear hwk q0 q1 q2 cA cY e3 e4 HSQ
                            go_wp2
                            go_loopw [22] (fun s22 wQ => ∃ (i mm : Nat), i ≤ j ∧ s22 = .int .i64 (mm : Nat) ∧ mm ≤ kk ∧ Hid (mm = LN + i) ∧ Hid (SQ j wQ)) (fun s22 _ => kk - (intOf s22).toNat)
                            case atStart => exact ⟨0, LN, Nat.zero_le _, rfl, by have := HKK.out; omega, Lib.hid rfl, HS1⟩
                            case round =>
                              obtain ⟨i, mm, hi, rfl, hmk, HMM, HS2⟩ := hrel
                              obtain ⟨w22, hw22⟩ : ∃ v, v = wr := ⟨_, rfl⟩
                              rw [← hw22] at HS2 ⊢
                              clear hw22
                              by_cases hij : i < j
                              · as_aux_lemma =>
                                have hmk2 : (mm : Int) < (kk : Int) := by have := HKK.out; have := HMM.out; omega
                                have hmd : mm < dx.length := by omega
                                obtain ⟨cX2, cA2, _⟩ := P3c.out _ (SQp.out _ _ HS2.out) mm hmd
                                obtain ⟨cX, cA, _⟩ := P3c.out _ (SQp.out _ _ HS2.out) kk hkd
                                have hm1 := HROW.out.2.2.2.2.2.1 i j (by omega) hjn
                                have hm2 := HROW.out.2.2.2.2.2.1 j i hjn (by omega)
                                rw [← HMM.out, ← HKK.out] at hm1 hm2
                                obtain ⟨q0, q1, q2⟩ := P3k.out _ (SQp.out _ _ HS2.out)
                                clear HROW HAK HLN HLN2 HT20 SQm SQt SQb SQ0 HE hAb G3 P3f P3t P3k P3c P1t
                                generalize dx.getD mm 0 = dm at *
                                generalize AN.getD mm 0 = am at *
                                generalize dx.getD kk 0 = dk at *
                                generalize hak2 : AN.getD kk 0 = ak2 at *
                                clear hak2
                                go_upto_region 42 with fail
                                go_cut [296] (fun s296 wx => s296 = .bool false ∧ Hid (SQ j wx))
                                case first =>
                                  as_aux_lemma =>
                                  rcases Int.lt_trichotomy dm dk with h | h | h
                                  · as_aux_lemma =>
                                    have h1 : ¬ ak2 < am := by have := hm1 (by omega); omega
                                    have d1 : decide (dm < dk) = true := decide_eq_true h
                                    have d2 : decide (ak2 < am) = false := decide_eq_false h1
                                    have d3 : decide (dk < dm) = false := decide_eq_false (by omega)
                                    have h2 : ¬ dk < dm := by omega
                                    have h3 : (dm == dk) = false := by rw [beq_eq_false_iff_ne]; omega
                                    clear hm1 hm2
                                    refine wp_region_quiet_lit (by kernel_rfl) (by kernel_rfl) ?_
                                    dsimp only [List.append_eq, List.cons_append, List.nil_append]
                                    repeat (go_big_quiet_step (fail))
                                    refine wpQuiet_nil ?_
                                    intro _ hw'
                                    obtain ⟨nq, hw''⟩ := hw'
                                    subst hw''
                                    go_wp2
                                    go_meet
                                    exact ⟨rfl, Lib.hid (SQn.out _ _ _ HS2.out (below_drw (Below.refl _ _) _))⟩
                                  · as_aux_lemma =>
                                    subst h
                                    have h1 : am = ak2 := by have := hm1 (Int.le_refl _); have := hm2 (Int.le_refl _); omega
                                    subst h1
                                    have d1 : decide (dm < dm) = false := decide_eq_false (by omega)
                                    clear hm1 hm2
                                    refine wp_region_quiet_lit (by kernel_rfl) (by kernel_rfl) ?_
                                    dsimp only [List.append_eq, List.cons_append, List.nil_append]
                                    repeat (go_big_quiet_step (fail))
                                    refine wpQuiet_nil ?_
                                    intro _ hw'
                                    obtain ⟨nq, hw''⟩ := hw'
                                    subst hw''
                                    go_wp2
                                    go_meet
                                    exact ⟨rfl, Lib.hid (SQn.out _ _ _ HS2.out (below_drw (Below.refl _ _) _))⟩
                                  · as_aux_lemma =>
                                    have h1 : ¬ am < ak2 := by have := hm2 (by omega); omega
                                    have h2 : ¬ dm < dk := by omega
                                    have d1 : decide (dm < dk) = false := decide_eq_false h2
                                    have d2 : decide (am < ak2) = false := decide_eq_false h1
                                    have d3 : decide (dk < dm) = true := decide_eq_true h
                                    have h3 : (dm == dk) = false := by rw [beq_eq_false_iff_ne]; omega
                                    clear hm1 hm2
                                    refine wp_region_quiet_lit (by kernel_rfl) (by kernel_rfl) ?_
                                    dsimp only [List.append_eq, List.cons_append, List.nil_append]
                                    repeat (go_big_quiet_step (fail))
                                    refine wpQuiet_nil ?_
                                    intro _ hw'
                                    obtain ⟨nq, hw''⟩ := hw'
                                    subst hw''
                                    go_wp2
                                    go_meet
                                    exact ⟨rfl, Lib.hid (SQn.out _ _ _ HS2.out (below_drw (Below.refl _ _) _))⟩
                                case rest =>
                                  as_aux_lemma =>
                                  obtain ⟨rfl, HS3⟩ := hcut
                                  clear cX2 cA2 cX cA q0 q1 q2 hm1 hm2
                                  go_wp2
                                  exact ⟨⟨i + 1, mm + 1, by omega, by go_num, by omega, Lib.hid (by have := HMM.out; omega), HS3⟩, by simp [intOf]; omega⟩
                              · as_aux_lemma =>
                                have hnl : ¬ (mm : Int) < (kk : Int) := by have := HMM.out; have := HKK.out; omega
                                obtain ⟨q0, q1, q2⟩ := P3k.out _ (SQp.out _ _ HS2.out)
                                obtain ⟨_, cA, _⟩ := P3c.out _ (SQp.out _ _ HS2.out) kk hkd
                                rw [← HAK.out] at cA
                                have KFX := Lib.hid (fun W : World => ifrom_any ak W (by have := HAB2.out; omega) (by have := HAB2.out; omega))
                                obtain ⟨na, hna⟩ : ∃ m : Nat, m = ak.natAbs := ⟨_, rfl⟩
                                have hnb : na ≤ 274877906944 := by have := HAB2.out; omega
                                have KAB := Lib.hid (fun (W : World) (u : Value) (h : IsI W u ak) => iabs_any u ak W h)
                                rw [← hna] at KAB
                                have KL1 := Lib.hid (fun (W : World) (u : Value) (h : IsI W u (na : Int)) => ileft_1q u na W h (big_of (k := 64) (by omega) (by decide)))
                                have KF1 := Lib.hid (fun W : World => ifrom_any 1 W (by decide) (by decide))
                                obtain ⟨d, hd⟩ : ∃ d, d = (na : Int) * 2 ^ 1 - 1 := ⟨_, rfl⟩
                                have hdb : -1 ≤ d ∧ d ≤ 549755813888 := by omega
                                have hdd := sq_le2 hdb
                                have KLS := Lib.hid (fun (W : World) (u v : Value) (h : IsI W u ((na : Int) * 2 ^ 1)) (h2 : IsI W v 1) => iless_any u v _ _ W h h2 (big_of (k := 64) (by omega) (by decide)) (big_of (k := 4) (by decide) (by decide)))
                                rw [← hd] at KLS
                                have KSG := Lib.hid (fun (W : World) (u : Value) (h : IsI W u d) => isign_any u d W h)
                                have KTM := Lib.hid (fun (W : World) (u v : Value) (hu : IsI W u d) (hv : IsI W v d) => itimes_any u v d d W hu hv (big_of (k := 64) (by omega) (by decide)) (big_of (k := 64) (by omega) (by decide)))
                                have KPL := Lib.hid (fun (W : World) (u v : Value) (hu : IsI W u (sqd (NR.take j))) (hv : IsI W v (d * d)) => iplus_any u v _ _ W hu hv (HROW.out.2.2.2.2.2.2 j (by omega)) (big_of (k := 100) (by omega) (by decide)))
                                have hsq : sqd (NR.take (j + 1)) = sqd (NR.take j) + sqt ak := by rw [sqd_take (by rw [HROW.out.2.2.1]; exact hjn), HROW.out.2.2.2.1 j hjn, ← HKK.out, ← HAK.out]
                                have hst : sqt ak = if 0 < d then d * d else 0 := by
                                  unfold sqt
                                  rw [← hna, show 2 * (na : Int) - 1 = d by omega]
                                rw [hst] at hsq
                                have HSQ2 := Lib.hid hsq
                                clear hsq hst hdd hdb hd hna hnb
                                go_upto_region 45 with (first | (go_at_call 16; (with_reducible refine (KFX.out _).mono ?_); rintro e x2w ⟨v2x, rfl, hI, hb⟩; obtain ⟨b2x, o2x, l2x, c2x, rfl, H0⟩ := hI.open; have X2w := Lib.hid (hb); have HI2 := Lib.hid (IsI.mk H0.out.1 H0.out.2.1); clear hb hI H0) | (go_at_call 17; (with_reducible refine (KAB.out _ _ HI2.out).mono ?_); rintro e x3w ⟨v3x, rfl, hI, hb⟩; obtain ⟨b3x, o3x, l3x, c3x, rfl, H0⟩ := hI.open; have X3w := Lib.hid (X2w.out.trans (hb.mono X2w.out.size)); have HI3 := Lib.hid (IsI.mk H0.out.1 H0.out.2.1); clear hb hI H0))
                                obtain ⟨v23, hv⟩ : ∃ v, v = x3w.alloc (.cells #[.bool b3x, .slice o3x l3x c3x] 47) := ⟨_, rfl⟩
                                obtain ⟨T23, hT⟩ : ∃ T, T = x3w.heap.size := ⟨_, rfl⟩
                                rw [← hv, ← hT]
                                have IB23 : Hid (IBq v23 T23 b3x o3x l3x c3x (na : Int)) := Lib.hid (by rw [hv, hT]; exact ibq_new HI3.out)
                                have B23 : Hid (Below w22.heap.size w22 v23) := Lib.hid (by rw [hv]; exact X3w.out.alloc X3w.out.size _)
                                clear hv hT X2w X3w HI2 HI3 q0 q1 q2 cA
                                have z0 := (IBq.box IB23.out).cell 0
                                have z1 := (IBq.box IB23.out).cell 1
                                go_upto_region 46 with (first | (go_at_call 19; (with_reducible refine (KL1.out _ _ (IBq.num IB23.out)).mono ?_); rintro e x4w ⟨v4x, rfl, hI, hb⟩; obtain ⟨b4x, o4x, l4x, c4x, rfl, H0⟩ := hI.open; have X4w := Lib.hid (B23.out.trans (hb.mono B23.out.size)); have HI4 := Lib.hid (IsI.mk H0.out.1 H0.out.2.1); clear hb hI H0) | (go_at_call 16; (with_reducible refine (KF1.out _).mono ?_); rintro e x5w ⟨v5x, rfl, hI, hb⟩; obtain ⟨b5x, o5x, l5x, c5x, rfl, H0⟩ := hI.open; have X5w := Lib.hid (X4w.out.trans (hb.mono X4w.out.size)); have HI4b := Lib.hid (HI4.out.below hb); have HI5 := Lib.hid (IsI.mk H0.out.1 H0.out.2.1); clear hb hI H0) | (go_at_call 18; (with_reducible refine (KLS.out _ _ _ HI4b.out HI5.out).mono ?_); rintro e x6w ⟨v6x, rfl, hI, hb⟩; obtain ⟨b6x, o6x, l6x, c6x, rfl, H0⟩ := hI.open; have X6w := Lib.hid (X5w.out.trans (hb.mono X5w.out.size)); have HI6 := Lib.hid (IsI.mk H0.out.1 H0.out.2.1); clear hb hI H0))
                                obtain ⟨v24, hv⟩ : ∃ v, v = x6w.alloc (.cells #[.bool b6x, .slice o6x l6x c6x] 47) := ⟨_, rfl⟩
                                obtain ⟨T24, hT⟩ : ∃ T, T = x6w.heap.size := ⟨_, rfl⟩
                                rw [← hv, ← hT]
                                have IB24 : Hid (IBq v24 T24 b6x o6x l6x c6x d) := Lib.hid (by rw [hv, hT]; exact ibq_new HI6.out)
                                have B24 : Hid (Below w22.heap.size w22 v24) := Lib.hid (by rw [hv]; exact X6w.out.alloc X6w.out.size _)
                                have HT24 : Hid (w22.heap.size ≤ T24) := Lib.hid (by rw [hT]; exact X6w.out.size)
                                clear hv hT X4w X5w X6w HI4 HI5 HI6 IB23 B23 z0 z1
                                have z0 := (IBq.box IB24.out).cell 0
                                have z1 := (IBq.box IB24.out).cell 1
                                by_cases hdp : 0 < d
                                · have s1 : sg d 0 = 1 := sg_gt hdp
                                  rw [s1] at KSG
                                  rw [if_pos hdp] at HSQ2
                                  clear s1 hdp
                                  go_upto_region 47 with (go_at_call 20; (with_reducible refine (KSG.out _ _ (IBq.num IB24.out)).mono ?_); rintro e x7w ⟨rfl, hb⟩; have B7 := Lib.hid hb; clear hb)
                                  clear z0 z1
                                  have IBD := Lib.hid (IBq.below IB24.out B7.out)
                                  have HSJ := Lib.hid (SQn.out _ _ _ HS2.out (B24.out.trans (B7.out.mono B24.out.size)))
                                  obtain ⟨bq, oq, lq, cq, hQ1⟩ := SQt.out _ _ HSJ.out
                                  have B_0 : Hid (Below x7w.heap.size x7w x7w.drew) := Lib.hid (below_drw (Below.refl _ _) 1)
                                  have HQ0 := Lib.hid (IBq.below hQ1 B_0.out)
                                  have ID0 := Lib.hid (IBq.below IBD.out B_0.out)
                                  have HTT : Hid (T24 ≠ T20 ∧ w19.heap.size ≤ T20) := Lib.hid (by
                                    refine ⟨?_, HT20.out⟩
                                    have h1 := HT24.out
                                    obtain ⟨_, _, _, _, h2⟩ := SQt.out _ _ HS2.out
                                    have := (IBq.box h2).lt
                                    omega)
                                  have KS : Hid (∀ V, Blk V T24 47 #[.bool b6x, .slice o6x l6x c6x] → V.cell? ⟨T24, 0, none⟩ = some (.bool b6x) ∧ V.cell? ⟨T24, 1, none⟩ = some (.slice o6x l6x c6x)) := Lib.hid (fun V h => ⟨h.cell 0, h.cell 1⟩)
                                  clear hQ1
                                  refine wp_region_held_drew (S := fun V => V.cell? ⟨T24, 0, none⟩ = some (.bool b6x) ∧ V.cell? ⟨T24, 1, none⟩ = some (.slice o6x l6x c6x)) (by kernel_rfl) ?_ (fun hHeld => ?_)
                                  · exact KS.out _ (IBq.box ID0.out)
                                  have hHd := hHeld
                                  generalize hw0 : x7w.drew = w_0 at *
                                  clear hw0
                                  (refine wpAnyH_take (i := 1) (oi := ⟨some 312, _, _, _, _, _⟩) (v := ?v1_s1) rfl (by kernel_rfl) (by kernel_rfl) (by kernel_rfl) (fun _ _ _ h => h) (Or.inl ⟨by rfl, ?hy1_s1⟩) (by assumption) ?rest1_s1; (case hy1_s1 => ((intro w hSw); (try dsimp only at hSw); go_simp; first | done | (with_reducible rfl))))
                                  (try simp only [Act.put, List.setIfInBounds_toArray, List.set_cons_zero, List.set_cons_succ])
                                  (refine wpAnyH_take (i := 2) (oi := ⟨some 313, _, _, _, _, _⟩) (v := ?v2_s2) rfl (by kernel_rfl) (by kernel_rfl) (by kernel_rfl) (fun _ _ _ h => h) (Or.inl ⟨by rfl, ?hy2_s2⟩) (by assumption) ?rest2_s2; (case hy2_s2 => ((intro w hSw); (try dsimp only at hSw); go_simp; first | done | (with_reducible rfl))))
                                  (try simp only [Act.put, List.setIfInBounds_toArray, List.set_cons_zero, List.set_cons_succ])
                                  refine wpAnyH_ready (rs := [0, 3]) (by kernel_rfl) (by simp) ?_
                                  refine AllReadyH.cons (o := ⟨some 311, _, _, _, _, _⟩) rfl (fun K hK => ?_) (AllReadyH.cons (o := ⟨some 314, _, _, _, _, _⟩) rfl (fun K hK => ?_) (AllReadyH.nil))
                                  · (try clear l0 l1)
                                    have l0 := (IBq.box HQ0.out).cell 0
                                    have l1 := (IBq.box HQ0.out).cell 1
                                    go_simp
                                    refine hK.out _ _ ?_ (fun hHeld => ?_)
                                    · (try dsimp only)
                                      exact KS.out _ (IBq.box ID0.out)
                                    clear hK K
                                    (try simp only [Act.put, List.setIfInBounds_toArray, List.set_cons_zero, List.set_cons_succ])
                                    refine wpAnyH_ready (rs := [3]) (by kernel_rfl) (by simp) ?_
                                    refine AllReadyH.cons (o := ⟨some 314, _, _, _, _, _⟩) rfl (fun K hK => ?_) (AllReadyH.nil)
                                    go_simp
                                    (try clear l0 l1)
                                    (go_at_call 22; (with_reducible refine (KTM.out _ _ _ (IBq.num ID0.out) (IBq.num ID0.out)).mono ?_); rintro e w_1 ⟨vh, rfl, hI, hb⟩; obtain ⟨bh, oh, lh, ch, rfl, H0⟩ := hI.open; have B_1 := Lib.hid (B_0.out.trans (hb.mono B_0.out.size)); have HQ1 := Lib.hid (IBq.below HQ0.out hb); have ID1 := Lib.hid (IBq.below ID0.out hb); have HH := Lib.hid (IsI.mk H0.out.1 H0.out.2.1); clear hb hI H0)
                                    refine hK.out _ _ ?_ (fun hHeld => ?_)
                                    · (try dsimp only)
                                      exact KS.out _ (IBq.box ID1.out)
                                    clear hK K
                                    (try simp only [Act.put, List.setIfInBounds_toArray, List.set_cons_zero, List.set_cons_succ])
                                    refine wpAnyH_ready (rs := [4]) (by kernel_rfl) (by simp) ?_
                                    refine AllReadyH.cons (o := ⟨some 315, _, _, _, _, _⟩) rfl (fun K hK => ?_) (AllReadyH.nil)
                                    go_simp
                                    (try clear l0 l1)
                                    (go_at_call 21; (with_reducible refine (KPL.out _ _ _ (IBq.num HQ1.out) HH.out).mono ?_); rintro e w_2 ⟨vp, rfl, hI, hb⟩; obtain ⟨bp, op, lp, cp, rfl, H0⟩ := hI.open; have B_2 := Lib.hid (B_1.out.trans (hb.mono B_1.out.size)); have HQ2 := Lib.hid (IBq.below HQ1.out hb); have ID2 := Lib.hid (IBq.below ID1.out hb); have HP := Lib.hid (IsI.mk H0.out.1 H0.out.2.1); clear hb hI H0)
                                    refine hK.out _ _ ?_ (fun hHeld => ?_)
                                    · (try dsimp only)
                                      exact KS.out _ (IBq.box ID2.out)
                                    clear hK K
                                    (try simp only [Act.put, List.setIfInBounds_toArray, List.set_cons_zero, List.set_cons_succ])
                                    refine wpAnyH_ready (rs := [5]) (by kernel_rfl) (by simp) ?_
                                    refine AllReadyH.cons (o := ⟨none, _, _, _, _, _⟩) rfl (fun K hK => ?_) (AllReadyH.nil)
                                    (try clear l0 l1)
                                    have c0 := (IBq.box HQ2.out).cell 0
                                    have c1 := (IBq.box HQ2.out).cell 1
                                    have f0 := (IBq.box HQ2.out).frozen 0
                                    have f1 := (IBq.box HQ2.out).frozen 1
                                    have RF := Lib.hid (((IBq.box ID2.out).far (p := ⟨T20, 0, none⟩) HTT.out.1 (.bool bp)).far (p := ⟨T20, 1, none⟩) HTT.out.1 (.slice op lp cp))
                                    unfold Iv
                                    go_simp
                                    refine hK.out _ _ ?_ (fun hHeld => ?_)
                                    · (try dsimp only)
                                      exact KS.out _ RF.out
                                    clear hK K
                                    (try simp only [Act.put, List.setIfInBounds_toArray, List.set_cons_zero, List.set_cons_succ])
                                    refine wpAnyH_done (by kernel_rfl) ?_ _
                                    have H9 := IBq.put HQ2.out HP.out
                                    rw [← HSQ2.out] at H9
                                    have HSK : Hid (SQ (j + 1) ((w_2.setCell ⟨T20, 0, none⟩ (.bool bp)).setCell ⟨T20, 1, none⟩ (.slice op lp cp))) := Lib.hid (SQm.out _ _ _ _ _ _ H9 ((((SQb.out _ _ HSJ.out).trans (B_2.out.mono (SQb.out _ _ HSJ.out).size)).setCell (p := ⟨T20, 0, none⟩) HTT.out.2 _).setCell (p := ⟨T20, 1, none⟩) HTT.out.2 _))
                                    clear c0 c1 f0 f1 H9
                                    go_wp2
                                    refine ⟨?_, by have := HKK.out; simp [intOf]; omega⟩
                                    (repeat apply Exists.intro)
                                    exact ⟨⟨j + 1, kk + 1, by omega, by go_num, by have := HKK.out; omega, Lib.hid (by have := HKK.out; omega), HSK⟩, rfl⟩
                                  · go_simp
                                    (try clear l0 l1)
                                    (go_at_call 22; (with_reducible refine (KTM.out _ _ _ (IBq.num ID0.out) (IBq.num ID0.out)).mono ?_); rintro e w_1 ⟨vh, rfl, hI, hb⟩; obtain ⟨bh, oh, lh, ch, rfl, H0⟩ := hI.open; have B_1 := Lib.hid (B_0.out.trans (hb.mono B_0.out.size)); have HQ1 := Lib.hid (IBq.below HQ0.out hb); have ID1 := Lib.hid (IBq.below ID0.out hb); have HH := Lib.hid (IsI.mk H0.out.1 H0.out.2.1); clear hb hI H0)
                                    refine hK.out _ _ ?_ (fun hHeld => ?_)
                                    · (try dsimp only)
                                      exact KS.out _ (IBq.box ID1.out)
                                    clear hK K
                                    (try simp only [Act.put, List.setIfInBounds_toArray, List.set_cons_zero, List.set_cons_succ])
                                    refine wpAnyH_ready (rs := [0]) (by kernel_rfl) (by simp) ?_
                                    refine AllReadyH.cons (o := ⟨some 311, _, _, _, _, _⟩) rfl (fun K hK => ?_) (AllReadyH.nil)
                                    (try clear l0 l1)
                                    have l0 := (IBq.box HQ1.out).cell 0
                                    have l1 := (IBq.box HQ1.out).cell 1
                                    go_simp
                                    refine hK.out _ _ ?_ (fun hHeld => ?_)
                                    · (try dsimp only)
                                      exact KS.out _ (IBq.box ID1.out)
                                    clear hK K
                                    (try simp only [Act.put, List.setIfInBounds_toArray, List.set_cons_zero, List.set_cons_succ])
                                    refine wpAnyH_ready (rs := [4]) (by kernel_rfl) (by simp) ?_
                                    refine AllReadyH.cons (o := ⟨some 315, _, _, _, _, _⟩) rfl (fun K hK => ?_) (AllReadyH.nil)
                                    go_simp
                                    (try clear l0 l1)
                                    (go_at_call 21; (with_reducible refine (KPL.out _ _ _ (IBq.num HQ1.out) HH.out).mono ?_); rintro e w_2 ⟨vp, rfl, hI, hb⟩; obtain ⟨bp, op, lp, cp, rfl, H0⟩ := hI.open; have B_2 := Lib.hid (B_1.out.trans (hb.mono B_1.out.size)); have HQ2 := Lib.hid (IBq.below HQ1.out hb); have ID2 := Lib.hid (IBq.below ID1.out hb); have HP := Lib.hid (IsI.mk H0.out.1 H0.out.2.1); clear hb hI H0)
                                    refine hK.out _ _ ?_ (fun hHeld => ?_)
                                    · (try dsimp only)
                                      exact KS.out _ (IBq.box ID2.out)
                                    clear hK K
                                    (try simp only [Act.put, List.setIfInBounds_toArray, List.set_cons_zero, List.set_cons_succ])
                                    refine wpAnyH_ready (rs := [5]) (by kernel_rfl) (by simp) ?_
                                    refine AllReadyH.cons (o := ⟨none, _, _, _, _, _⟩) rfl (fun K hK => ?_) (AllReadyH.nil)
                                    (try clear l0 l1)
                                    have c0 := (IBq.box HQ2.out).cell 0
                                    have c1 := (IBq.box HQ2.out).cell 1
                                    have f0 := (IBq.box HQ2.out).frozen 0
                                    have f1 := (IBq.box HQ2.out).frozen 1
                                    have RF := Lib.hid (((IBq.box ID2.out).far (p := ⟨T20, 0, none⟩) HTT.out.1 (.bool bp)).far (p := ⟨T20, 1, none⟩) HTT.out.1 (.slice op lp cp))
                                    unfold Iv
                                    go_simp
                                    refine hK.out _ _ ?_ (fun hHeld => ?_)
                                    · (try dsimp only)
                                      exact KS.out _ RF.out
                                    clear hK K
                                    (try simp only [Act.put, List.setIfInBounds_toArray, List.set_cons_zero, List.set_cons_succ])
                                    refine wpAnyH_done (by kernel_rfl) ?_ _
                                    have H9 := IBq.put HQ2.out HP.out
                                    rw [← HSQ2.out] at H9
                                    have HSK : Hid (SQ (j + 1) ((w_2.setCell ⟨T20, 0, none⟩ (.bool bp)).setCell ⟨T20, 1, none⟩ (.slice op lp cp))) := Lib.hid (SQm.out _ _ _ _ _ _ H9 ((((SQb.out _ _ HSJ.out).trans (B_2.out.mono (SQb.out _ _ HSJ.out).size)).setCell (p := ⟨T20, 0, none⟩) HTT.out.2 _).setCell (p := ⟨T20, 1, none⟩) HTT.out.2 _))
                                    clear c0 c1 f0 f1 H9
                                    go_wp2
                                    refine ⟨?_, by have := HKK.out; simp [intOf]; omega⟩
                                    (repeat apply Exists.intro)
                                    exact ⟨⟨j + 1, kk + 1, by omega, by go_num, by have := HKK.out; omega, Lib.hid (by have := HKK.out; omega), HSK⟩, rfl⟩
                                · obtain ⟨s, hs⟩ : ∃ s, s = sg d 0 := ⟨_, rfl⟩
                                  have hs0 : ¬ 0 < s := by
                                    rw [hs]
                                    rcases Int.lt_or_eq_of_le (Int.not_lt.1 hdp) with h | h
                                    · rw [sg_lt h]; decide
                                    · rw [h, sg_eq]; decide
                                  rw [← hs] at KSG
                                  rw [if_neg hdp, Int.add_zero] at HSQ2
                                  clear hs hdp
                                  go_wp2_with (go_at_call 20; (with_reducible refine (KSG.out _ _ (IBq.num IB24.out)).mono ?_); rintro e x7w ⟨rfl, hb⟩; have B7 := Lib.hid hb; clear hb)
                                  have HSJ := Lib.hid (SQn.out _ _ _ HS2.out (B24.out.trans (B7.out.mono B24.out.size)))
                                  have HSK : Hid (SQ (j + 1) x7w) := Lib.hid (by
                                    obtain ⟨b, o, l, c, h⟩ := SQt.out _ _ HSJ.out
                                    rw [← HSQ2.out] at h
                                    exact SQm.out _ _ _ _ _ _ h (SQb.out _ _ HSJ.out))
                                  exact ⟨⟨j + 1, kk + 1, by omega, by go_num, by have := HKK.out; omega, Lib.hid (by have := HKK.out; omega), HSK⟩, by have := HKK.out; simp [intOf]; omega⟩
                        · as_aux_lemma =>
                          have hjn2 : j = n := by omega
                          have hnl : ¬ (kk : Int) < (LN2 : Int) := by have := HKK.out; have := HLN2.out; omega
                          obtain ⟨bq, oq, lq, cq, hQ1⟩ := SQt.out _ _ HSQ.out
                          rw [hjn2, List.take_of_length_le (by rw [HROW.out.2.2.1]; exact Nat.le_refl _)] at hQ1
                          have HQ := Lib.hid hQ1
                          obtain ⟨f2, hf2⟩ : ∃ m, m = 2 * fN := ⟨_, rfl⟩
                          obtain ⟨sh, hsh⟩ : ∃ m, m = f2 + 2 := ⟨_, rfl⟩
                          have hf32 : fN ≤ 32 := by have := fb_bd HW.out.2.1; omega
                          have HE3 : Hid (wrap64 (2 * (fN : Int)) = (f2 : Int) ∧ IntKind.i64.wrap (2 * (fN : Int)) = (f2 : Int)) := Lib.hid (by
                            rw [show 2 * (fN : Int) = (f2 : Int) by omega]; exact wrp (by omega))
                          have HE4 : Hid (wrap64 ((f2 : Int) + 2) = (sh : Int) ∧ IntKind.i64.wrap ((f2 : Int) + 2) = (sh : Int)) := Lib.hid (by
                            rw [show (f2 : Int) + 2 = (sh : Int) by omega]; exact wrp (by omega))
                          have KNF := Lib.hid (fun W : World => ifrom_any (n : Int) W (by omega) (by omega))
                          have KLF := Lib.hid (fun (W : World) (u : Value) (h : IsI W u (n : Int)) => ileft_any u n sh W h (big_of (k := 64) (by omega) (by decide)) (by omega))
                          have hbq := HROW.out.2.2.2.2.2.2 n (Nat.le_refl _)
                          rw [List.take_of_length_le (by rw [HROW.out.2.2.1]; exact Nat.le_refl _)] at hbq
                          have KCM := Lib.hid (fun (W : World) (u v : Value) (hu : IsI W u (sqd NR)) (hv : IsI W v ((n : Int) * 2 ^ sh)) => icmp_any u v _ _ W hu hv hbq (n_big hn24 (by omega)))
                          obtain ⟨s, hs⟩ : ∃ s, s = sg (sqd NR) ((n : Int) * 2 ^ sh) := ⟨_, rfl⟩
                          have hs0 : ¬ 0 < s := by
                            have h := HROW.out.2.2.2.2.1
                            rw [hs]
                            rw [← hf2, ← hsh] at h
                            rcases Int.lt_or_eq_of_le h with h | h
                            · rw [sg_lt h]; decide
                            · rw [h, sg_eq]; decide
                          rw [← hs] at KCM
                          clear hQ1 hf2 hsh hbq hs hf32 e1 e2
                          obtain ⟨e3, e4⟩ := HE3.out
                          obtain ⟨e5, e6⟩ := HE4.out
                          obtain ⟨e1, e2⟩ := HE.out
                          go_upto_region 48 with fail
                          clear e1 e2
                          go_cut [324] (fun s324 wx => s324 = .bool false ∧ Hid (P3 wx))
                          case first =>
                            as_aux_lemma =>
                            have KS : Hid (∀ V, Below w21.heap.size w21 V → V.cell? ⟨T20, 0, none⟩ = some (.bool bq) ∧ V.cell? ⟨T20, 1, none⟩ = some (.slice oq lq cq)) := Lib.hid (fun V hV => ⟨(IBq.box (IBq.below HQ.out hV)).cell 0, (IBq.box (IBq.below HQ.out hV)).cell 1⟩)
                            have Y_0 : Hid (Below w21.heap.size w21 w21.drew) := Lib.hid (below_drw (Below.refl _ _) 1)
                            refine wp_region_held_drew (S := fun V => V.cell? ⟨T20, 0, none⟩ = some (.bool bq) ∧ V.cell? ⟨T20, 1, none⟩ = some (.slice oq lq cq)) (by kernel_rfl) ?_ (fun hHeld => ?_)
                            · exact KS.out _ Y_0.out
                            have hHd := hHeld
                            generalize hw0 : w21.drew = w_0 at *
                            clear hw0
                            (refine wpAnyH_take (i := 0) (oi := ⟨some 316, _, _, _, _, _⟩) (v := ?v0_t1) rfl (by kernel_rfl) (by kernel_rfl) (by kernel_rfl) (fun _ _ _ h => h) (Or.inl ⟨by rfl, ?hy0_t1⟩) (by assumption) ?rest0_t1; (case hy0_t1 => ((intro w hSw); (try dsimp only at hSw); go_simp; first | done | (with_reducible rfl))))
                            (try simp only [Act.put, List.setIfInBounds_toArray, List.set_cons_zero, List.set_cons_succ])
                            (refine wpAnyH_take (i := 1) (oi := ⟨some 317, _, _, _, _, _⟩) (v := ?v1_t2) rfl (by kernel_rfl) (by kernel_rfl) (by kernel_rfl) (fun _ _ _ h => h) (Or.inl ⟨by rfl, ?hy1_t2⟩) (by assumption) ?rest1_t2; (case hy1_t2 => ((intro w hSw); (try dsimp only at hSw); go_simp; first | done | (with_reducible rfl))))
                            (try simp only [Act.put, List.setIfInBounds_toArray, List.set_cons_zero, List.set_cons_succ])
                            (refine wpAnyH_take (i := 3) (oi := ⟨some 319, _, _, _, _, _⟩) (v := ?v3_t3) rfl (by kernel_rfl) (by kernel_rfl) (by kernel_rfl) (fun _ _ _ h => h) (Or.inl ⟨by rfl, ?hy3_t3⟩) (by assumption) ?rest3_t3; (case hy3_t3 => ((intro w hSw); (try dsimp only at hSw); go_simp; first | done | (with_reducible rfl))))
                            (try simp only [Act.put, List.setIfInBounds_toArray, List.set_cons_zero, List.set_cons_succ])
                            (refine wpAnyH_take (i := 4) (oi := ⟨some 320, _, _, _, _, _⟩) (v := ?v4_t4) rfl (by kernel_rfl) (by kernel_rfl) (by kernel_rfl) (fun _ _ _ h => h) (Or.inl ⟨by rfl, ?hy4_t4⟩) (by assumption) ?rest4_t4; (case hy4_t4 => ((intro w hSw); (try dsimp only at hSw); go_simp; first | done | (with_reducible rfl))))
                            (try simp only [Act.put, List.setIfInBounds_toArray, List.set_cons_zero, List.set_cons_succ])
                            (refine wpAnyH_take (i := 5) (oi := ⟨some 321, _, _, _, _, _⟩) (v := ?v5_t5) rfl (by kernel_rfl) (by kernel_rfl) (by kernel_rfl) (fun _ _ _ h => h) (Or.inl ⟨by rfl, ?hy5_t5⟩) (by assumption) ?rest5_t5; (case hy5_t5 => ((intro w hSw); (try dsimp only at hSw); go_simp; first | done | (with_reducible rfl))))
                            (try simp only [Act.put, List.setIfInBounds_toArray, List.set_cons_zero, List.set_cons_succ])
                            refine wpAnyH_ready (rs := [2]) (by kernel_rfl) (by simp) ?_
                            refine AllReadyH.cons (o := ⟨some 318, _, _, _, _, _⟩) rfl (fun K hK => ?_) (AllReadyH.nil)
                            go_simp
                            (go_at_call 16; (with_reducible refine (KNF.out _).mono ?_); rintro e y_1 ⟨vo, rfl, hI, hb⟩; obtain ⟨bo1, oo1, lo1, co1, rfl, H0⟩ := hI.open; have Y_1 := Lib.hid (Y_0.out.trans (hb.mono Y_0.out.size)); have HN1 := Lib.hid (IsI.mk H0.out.1 H0.out.2.1); clear hb hI H0)
                            refine hK.out _ _ ?_ (fun hHeld => ?_)
                            · (try dsimp only)
                              exact KS.out _ Y_1.out
                            clear hK K
                            (try simp only [Act.put, List.setIfInBounds_toArray, List.set_cons_zero, List.set_cons_succ])
                            refine wpAnyH_ready (rs := [6]) (by kernel_rfl) (by simp) ?_
                            refine AllReadyH.cons (o := ⟨some 322, _, _, _, _, _⟩) rfl (fun K hK => ?_) (AllReadyH.nil)
                            go_simp
                            (go_at_call 19; (with_reducible refine (KLF.out _ _ HN1.out).mono ?_); rintro e y_2 ⟨vo2, rfl, hI, hb⟩; obtain ⟨bo2, oo2, lo2, co2, rfl, H0⟩ := hI.open; have Y_2 := Lib.hid (Y_1.out.trans (hb.mono Y_1.out.size)); have HN2 := Lib.hid (IsI.mk H0.out.1 H0.out.2.1); clear hb hI H0)
                            refine hK.out _ _ ?_ (fun hHeld => ?_)
                            · (try dsimp only)
                              exact KS.out _ Y_2.out
                            clear hK K
                            (try simp only [Act.put, List.setIfInBounds_toArray, List.set_cons_zero, List.set_cons_succ])
                            refine wpAnyH_ready (rs := [7]) (by kernel_rfl) (by simp) ?_
                            refine AllReadyH.cons (o := ⟨some 323, _, _, _, _, _⟩) rfl (fun K hK => ?_) (AllReadyH.nil)
                            go_simp
                            (go_at_call 23; (with_reducible refine (KCM.out _ _ _ (IBq.num (IBq.below HQ.out Y_2.out)) HN2.out).mono ?_); rintro e y_3 ⟨rfl, hb⟩; have Y_3 := Lib.hid (Y_2.out.trans (hb.mono Y_2.out.size)); clear hb)
                            refine hK.out _ _ ?_ (fun hHeld => ?_)
                            · (try dsimp only)
                              exact KS.out _ Y_3.out
                            clear hK K
                            (try simp only [Act.put, List.setIfInBounds_toArray, List.set_cons_zero, List.set_cons_succ])
                            (refine wpAnyH_take (i := 8) (oi := ⟨some 324, _, _, _, _, _⟩) (v := ?v8_t6) rfl (by kernel_rfl) (by kernel_rfl) (by kernel_rfl) (fun _ _ _ h => h) (Or.inl ⟨by rfl, ?hy8_t6⟩) (by assumption) ?rest8_t6; (case hy8_t6 => ((intro w hSw); (try dsimp only at hSw); go_simp; first | done | (with_reducible rfl))))
                            (try simp only [Act.put, List.setIfInBounds_toArray, List.set_cons_zero, List.set_cons_succ])
                            refine wpAnyH_done (by kernel_rfl) ?_ _
                            go_wp2
                            go_meet
                            exact ⟨rfl, Lib.hid (SQp.out _ _ (SQn.out _ _ _ HSQ.out Y_3.out))⟩
                          case rest =>
                            as_aux_lemma =>
                            obtain ⟨rfl, HP4⟩ := hcut
                            have HLL : Hid (l + 1 ≤ N ∧ LN2 ≤ 24 ∧ LN2 = (l + 1) * n ∧ LN2 = LN + n) := Lib.hid (by
                              have h1 := HROW.out.1
                              have h2 := HROW.out.2.1
                              have h3 := HLN.out
                              have h4 := HLN2.out
                              refine ⟨h1, by omega, ?_, h4⟩
                              rw [Nat.add_mul, Nat.one_mul]
                              omega)
                            clear e3 e4 e5 e6 q0 q1 q2
                            obtain ⟨e1, e2⟩ := HE.out
                            go_wp2
                            clear e1 e2
                            exact ⟨⟨l + 1, LN2, HLL.out.1, rfl, HLL.out.2.1, Lib.hid HLL.out.2.2.1, HP4⟩, by have := HLL.out.2.2.2; simp [intOf]; omega⟩
                    · as_aux_lemma =>
                      go_wp2
                      exact ⟨⟨k + 1, by omega, by go_num, hB.trans ((FRb.out _ (P1f.out _ (P3f.out _ HP3.out))).mono hBs)⟩, by simp [intOf]; omega⟩
    · as_aux_lemma =>
      by_cases g1 : k < len
      · have g2 : 4 ≤ k := by omega
        clear g
        go_wp2_with (go_at_call 12; (with_reducible refine (wakes14_any _).mono ?_); rintro e w9 ⟨rfl, hb9⟩)
        go_ret
        exact ⟨rfl, hB.trans (hb9.mono hBs)⟩
      · have g2 : len ≤ k := by omega
        clear g g1
        go_wp2_with (go_at_call 12; (with_reducible refine (wakes14_any _).mono ?_); rintro e w9 ⟨rfl, hb9⟩)
        go_ret
        exact ⟨rfl, hB.trans (hb9.mono hBs)⟩
end Go.Proofs.Ytimmgmhgahbcbaa
