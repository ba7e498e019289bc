/-
  NormRows' loop.
-/
import Derived.BigQuiet
import Derived.BigRegion
import Derived.Test.YtimmgmhgahbcbaaM06
import Derived.Test.YtimmgmhgahbcbaaM09
namespace Go.Proofs.Ytimmgmhgahbcbaa
open Go.RowKit Go.Shelf

theorem blk5q {W : World} {b : Nat} {t : TypeId} {v0 v1 v2 v3 v4 : Value} (h : Blk W b t #[v0, v1, v2, v3, v4]) : W.cell? ⟨b, 0, none⟩ = some v0 ∧ W.cell? ⟨b, 1, none⟩ = some v1 ∧ W.cell? ⟨b, 2, none⟩ = some v2 ∧ W.cell? ⟨b, 3, none⟩ = some v3 ∧ W.cell? ⟨b, 4, none⟩ = some v4 := ⟨h.cell 0, h.cell 1, h.cell 2, h.cell 3, h.cell 4⟩

set_option maxRecDepth 100000 in
set_option maxHeartbeats 8000000 in
theorem normrows_any (bb oo len cap : Nat) (es : Nat → Qk) (w : World) (_hl : len ≤ 9223372036854775807) (hb : bb < w.heap.size) (hT : ∀ i, i < len → QkAt w bb (oo + i * 5) (es i)) (hok : ∀ i, i < len → (es i).ok w) :
    Calls Try.prog 3 #[.slice (some ⟨bb, oo, none⟩) len cap] w fun e w' => e = .returned (.bool true) ∧ Below w.heap.size w w' := by
  have HT := Lib.hid (And.intro hT hok)
  clear hT hok
  go_enter Try.func3, Try.ntmps3
  go_wp2
  go_loopw [3] (fun s3 wQ => ∃ k : Nat, k ≤ len ∧ s3 = .int .i64 k ∧ Below w.heap.size w wQ) (fun s3 _ => len - (intOf s3).toNat)
  case atStart => exact ⟨0, Nat.zero_le _, rfl, Below.refl _ _⟩
  case round =>
    obtain ⟨k, hk, rfl, hB⟩ := hrel
    have hBs := hB.size
    obtain ⟨w1, hw1⟩ : ∃ w1, w1 = wr := ⟨_, rfl⟩
    subst hw1
    by_cases g : k < len ∧ k < 4
    · obtain ⟨g1, g2⟩ := g
      obtain ⟨t0, t1, t2, t3, t4⟩ := (HT.out.1 k (by omega)).below hB hb
      obtain ⟨⟨hX, hV⟩, ⟨l0, l1⟩, ⟨a0, a1⟩, ⟨b0, b1⟩, ⟨c0, c1⟩⟩ := HT.out.2 k (by omega)
      replace hX := hX.below hB
      replace hV := hV.below hB
      generalize es k = p at *
      obtain ⟨vX, vV, sx, dx, ep, z, f⟩ := p
      simp only at t0 t1 t2 t3 t4 hX hV l0 l1 a0 a1 b0 b1 c0 c1
      obtain ⟨oX, cX, rfl, _, _⟩ := id hX
      obtain ⟨oV, cV, rfl, _, _⟩ := id hV
      have K0 := Lib.hid (fun o => (Below.refl w1.heap.size w1).alloc (Nat.le_refl _) o)
      have K4 := Lib.hid (Blk.new w1 28 #[.slice oX sx.length cX, .slice oV dx.length cV, .int .i64 ep, .int .i64 z, .int .i64 f])
      obtain ⟨FR, hFR⟩ : ∃ FR : World → Prop, FR = fun W => Below w1.heap.size w1 W ∧ Blk W w1.heap.size 28 #[.slice oX sx.length cX, .slice oV dx.length cV, .int .i64 ep, .int .i64 z, .int .i64 f] := ⟨_, rfl⟩
      have FRb : Hid (∀ W, FR W → Below w1.heap.size w1 W) := Lib.hid (fun W h => by rw [hFR] at h; exact h.1)
      have FRk := Lib.hid (fun (W : World) (h : FR W) => blk5q (by rw [hFR] at h; exact h.2 : Blk W w1.heap.size 28 #[.slice oX sx.length cX, .slice oV dx.length cV, .int .i64 ep, .int .i64 z, .int .i64 f]))
      have FRn : Hid (∀ W W', FR W → Below W.heap.size W W' → FR W') := Lib.hid (fun W W' h hb => by rw [hFR] at h ⊢; exact ⟨h.1.trans (hb.mono h.1.size), h.2.below hb h.2.lt⟩)
      have FRl : Hid (∀ W, FR W → w1.heap.size < W.heap.size) := Lib.hid (fun W h => by rw [hFR] at h; exact h.2.lt)
      have FRs : Hid (∀ W, Below (w1.alloc (.cells #[.slice oX sx.length cX, .slice oV dx.length cV, .int .i64 ep, .int .i64 z, .int .i64 f] 28)).heap.size (w1.alloc (.cells #[.slice oX sx.length cX, .slice oV dx.length cV, .int .i64 ep, .int .i64 z, .int .i64 f] 28)) W → FR W) := Lib.hid (fun W h => by rw [hFR]; exact ⟨(K0.out _).trans (h.mono (by simp)), K4.out.below h K4.out.lt⟩)
      clear hFR
      have LG := Lib.hid (fun (W : World) (hW : Below w1.heap.size w1 W) => heavy8_any _ _ sx dx 24 W (hX.below hW) (hV.below hW) (by omega) (by omega))
      cases lg : hv8 24 sx dx with
      | true =>
        as_aux_lemma =>
        rw [lg] at LG
        clear lg hX hV
        go_wp2_with (go_at_call 5; (with_reducible refine (LG.out _ (K0.out _)).mono ?_); rintro e w2 ⟨rfl, hb2⟩; have F2 := Lib.hid (FRs.out _ hb2); obtain ⟨x0, x1, x2, x3, x4⟩ := FRk.out _ F2.out; clear hb2)
        go_ret
        exact ⟨rfl, hB.trans ((FRb.out _ F2.out).mono hBs)⟩
      | false =>
        rw [lg] at LG
        have na := hv8_no lg
        have HL := Lib.hid (And.intro hX hV)
        have KMA := Lib.hid (fun (W : World) (hW : Below w1.heap.size w1 W) => rmay8_any _ _ sx dx W (hX.below hW) (hV.below hW) (by omega) (by omega))
        clear lg hX hV
        have KME := Lib.hid (fun W : World => may_any ep W)
        obtain ⟨TA, hTA⟩ : ∃ b, b = tnb sx dx := ⟨_, rfl⟩
        obtain ⟨WE, hWE⟩ : ∃ b, b = wd ep := ⟨_, rfl⟩
        obtain ⟨OK, hOK⟩ : ∃ b, b = (TA && decide (sx.length ≠ 0) && decide (0 < ep) && WE) := ⟨_, rfl⟩
        have HTA := Lib.hid hTA
        have HWE := Lib.hid hWE
        have HOK := Lib.hid hOK
        rw [← hTA] at KMA
        rw [← hWE] at KME
        clear hTA hWE hOK
        go_upto_region 7 with (go_at_call 5; (with_reducible refine (LG.out _ (K0.out _)).mono ?_); rintro e w2 ⟨rfl, hb2⟩; have F2 := Lib.hid (FRs.out _ hb2); obtain ⟨x0, x1, x2, x3, x4⟩ := FRk.out _ F2.out; clear hb2)
        go_cut [53] (fun s53 wx => s53 = .bool (!OK) ∧ Hid (FR wx))
        case first =>
          as_aux_lemma =>
          cases TA with
          | false =>
            go_wp2_with (go_at_call 6; (with_reducible refine (KMA.out _ (FRb.out _ F2.out)).mono ?_); rintro e w4 ⟨rfl, hb4⟩; have F4 := Lib.hid (FRn.out _ _ F2.out hb4); obtain ⟨x0, x1, x2, x3, x4⟩ := FRk.out _ F4.out; clear hb4)
            go_meet
            exact ⟨by rw [HOK.out]; rfl, F4⟩
          | true =>
            by_cases z0 : sx.length = 0
            · have z1 : (((sx.length : Nat) : Int) == 0) = true := by rw [z0]; rfl
              have HZ := Lib.hid z0
              clear z0
              go_wp2_with (go_at_call 6; (with_reducible refine (KMA.out _ (FRb.out _ F2.out)).mono ?_); rintro e w4 ⟨rfl, hb4⟩; have F4 := Lib.hid (FRn.out _ _ F2.out hb4); obtain ⟨x0, x1, x2, x3, x4⟩ := FRk.out _ F4.out; clear hb4)
              go_meet
              exact ⟨by rw [HOK.out, HZ.out]; rfl, F4⟩
            · have z1 : (((sx.length : Nat) : Int) == 0) = false := by rw [beq_eq_false_iff_ne]; omega
              by_cases e0 : 0 < ep
              · have e1 : ¬ ep ≤ 0 := by omega
                cases WE with
                | false =>
                  go_wp2_with (first | (go_at_call 6; (with_reducible refine (KMA.out _ (FRb.out _ F2.out)).mono ?_); rintro e w4 ⟨rfl, hb4⟩; have F4 := Lib.hid (FRn.out _ _ F2.out hb4); obtain ⟨x0, x1, x2, x3, x4⟩ := FRk.out _ F4.out; clear hb4) | (go_at_call 7; (with_reducible refine (KME.out _).mono ?_); rintro e w' ⟨rfl, rfl⟩))
                  go_meet
                  exact ⟨by rw [HOK.out]; simp, F4⟩
                | true =>
                  go_wp2_with (first | (go_at_call 6; (with_reducible refine (KMA.out _ (FRb.out _ F2.out)).mono ?_); rintro e w4 ⟨rfl, hb4⟩; have F4 := Lib.hid (FRn.out _ _ F2.out hb4); obtain ⟨x0, x1, x2, x3, x4⟩ := FRk.out _ F4.out; clear hb4) | (go_at_call 7; (with_reducible refine (KME.out _).mono ?_); rintro e w' ⟨rfl, rfl⟩))
                  go_meet
                  exact ⟨by rw [HOK.out]; simp [z0, e0], F4⟩
              · have e1 : ep ≤ 0 := by omega
                go_wp2_with (go_at_call 6; (with_reducible refine (KMA.out _ (FRb.out _ F2.out)).mono ?_); rintro e w4 ⟨rfl, hb4⟩; have F4 := Lib.hid (FRn.out _ _ F2.out hb4); obtain ⟨x0, x1, x2, x3, x4⟩ := FRk.out _ F4.out; clear hb4)
                go_meet
                exact ⟨by rw [HOK.out]; simp [e0], F4⟩
        case rest =>
          as_aux_lemma =>
          clear x0 x1 x2 x3 x4
          obtain ⟨rfl, F5⟩ := hcut
          obtain ⟨wd0, hwd⟩ : ∃ v, v = wc := ⟨_, rfl⟩
          rw [← hwd] at F5 ⊢
          clear hwd
          cases OK with
          | false =>
            as_aux_lemma =>
            go_wp2
            exact ⟨⟨k + 1, by omega, by go_num, hB.trans ((FRb.out _ F5.out).mono hBs)⟩, by simp [intOf]; omega⟩
          | true =>
            as_aux_lemma =>
            obtain ⟨ta, h0, e0, we⟩ : tnb sx dx = true ∧ sx.length ≠ 0 ∧ 0 < ep ∧ wd ep = true := by
              have q := HOK.out
              rw [HTA.out, HWE.out] at q
              simpa [and_assoc] using q.symm
            obtain ⟨fN, hfN⟩ : ∃ fN : Nat, (fN : Int) = 8 + f % 18446744073709551616 % 25 := ⟨(8 + f % 18446744073709551616 % 25).toNat, by omega⟩
            have hfb : fb (fN : Int) = true := fb_mk (by omega)
            have KFF : Hid (∀ W : World, Calls Try.prog 8 #[.int .i64 f] W fun e w' => e = .returned (.int .i64 (fN : Int)) ∧ W = w') := Lib.hid (fun W => by rw [hfN]; exact ff_any f W)
            obtain ⟨ma, la, hwd⟩ := tnb_parts ta
            have hp := may_prod ma
            have hn1 := may_dim ma (i := sx.length - 1) (by omega)
            obtain ⟨n, hn⟩ : ∃ n : Nat, sx.getD (sx.length - 1) 0 = (n : Int) := ⟨(sx.getD (sx.length - 1) 0).toNat, by omega⟩
            obtain ⟨N, hN1, hNn⟩ := rows_of h0 hn la hp.1 (by omega)
            have hn1' : 1 ≤ n := by omega
            have hn24 : n ≤ 24 := by
              have : 1 * n ≤ N * n := Nat.mul_le_mul_right n hN1
              omega
            obtain ⟨gV, fV, hoV, _⟩ := ld_at HL.out.2 (k := 0) (by rw [hNn]; have : 1 * n ≤ N * n := Nat.mul_le_mul_right n hN1; omega)
            subst hoV
            have KRW : Hid (∀ W, FR W → Calls Try.prog 9 #[.agg #[.slice oX sx.length cX, .slice (some ⟨gV, fV, none⟩) dx.length cV]] W fun e w' => e = .returned (.int .i64 (n : Int)) ∧ Below W.heap.size W w') := Lib.hid (fun W h => rows13_any _ _ sx n W (HL.out.1.below (FRb.out _ h)) h0 (by omega) hn)
            obtain ⟨AN, hAN⟩ : ∃ l, l = nrt n dx ep fN := ⟨_, rfl⟩
            have hANl : AN.length = dx.length := by rw [hAN]; exact nrt_len _ _ _ _
            have KNM : Hid (∀ W, FR W → Calls Try.prog 10 #[.agg #[.slice oX sx.length cX, .slice (some ⟨gV, fV, none⟩) dx.length cV], .int .i64 ep, .int .i64 (fN : Int)] W fun e w' => ∃ os cs od cd, e = .returned (.tuple #[.agg #[.slice os sx.length cs, .slice od dx.length cd], .int .i64 0]) ∧ Ld w' (.slice os sx.length cs) sx ∧ Ld w' (.slice od dx.length cd) AN ∧ Below W.heap.size W w') := Lib.hid (fun W h => by
              rw [hAN]
              exact norm_ld _ _ sx dx ep fN W (HL.out.1.below (FRb.out _ h)) (HL.out.2.below (FRb.out _ h)) ta we e0 hfb h0 n hn)
            have HA := Lib.hid (And.intro hAN hANl)
            have HW := Lib.hid (And.intro we (And.intro hfb (And.intro hwd (And.intro hNn hn1))))
            have HN1 := Lib.hid hN1
            have E0 := Lib.hid e0
            clear ta h0 e0 we hfb ma la hwd hp hn1 hn hAN hANl hfN hN1 hNn KMA KME LG HOK HTA HWE
            obtain ⟨x0, x1, x2, x3, x4⟩ := FRk.out _ F5.out
            go_upto_region 11 with (first | (go_at_call 8; (with_reducible refine (KFF.out _).mono ?_); rintro e w' ⟨rfl, rfl⟩) | (go_at_call 9; (with_reducible refine (KRW.out _ F5.out).mono ?_); rintro e w6 ⟨rfl, hb⟩; have F6 := Lib.hid (FRn.out _ _ F5.out hb); obtain ⟨x0, x1, x2, x3, x4⟩ := FRk.out _ F6.out; clear hb) | (go_at_call 10; (with_reducible refine (KNM.out _ F6.out).mono ?_); rintro e wz1 ⟨os1, cs1, od1, cd1, rfl, h1, h2, hb⟩; have U1 := Lib.hid (And.intro (FRn.out _ _ F6.out hb) (And.intro h1 h2)); clear h1 h2 hb))
            obtain ⟨v1, hv⟩ : ∃ v, v = wz1.alloc (.cells #[.slice os1 sx.length cs1, .slice od1 dx.length cd1] 26) := ⟨_, rfl⟩
            obtain ⟨T7, hT⟩ : ∃ T, T = wz1.heap.size := ⟨_, rfl⟩
            rw [← hv, ← hT]
            obtain ⟨gA, fA, hoA, _⟩ := ld_at U1.out.2.2 (k := 0) (by rw [HA.out.2, HW.out.2.2.2.1]; have : 1 * n ≤ N * n := Nat.mul_le_mul_right n HN1.out; omega)
            subst hoA
            obtain ⟨P1, hP⟩ : ∃ P : World → Prop, P = fun W => FR W ∧ Blk W T7 26 #[.slice os1 sx.length cs1, .slice (some ⟨gA, fA, none⟩) dx.length cd1] ∧ Ld W (.slice (some ⟨gA, fA, none⟩) dx.length cd1) AN := ⟨_, rfl⟩
            have G1 : Hid (P1 v1) := Lib.hid (by rw [hP]; exact ⟨by rw [hv]; exact FRn.out _ _ U1.out.1 (al_below _), by rw [hv, hT]; exact Blk.new _ _ _, by rw [hv]; exact U1.out.2.2.below (al_below _)⟩)
            have P1f : Hid (∀ W, P1 W → FR W) := Lib.hid (fun W h => by rw [hP] at h; exact h.1)
            have P1n : Hid (∀ W W', P1 W → Below W.heap.size W W' → P1 W') := Lib.hid (fun W W' h hb => by rw [hP] at h ⊢; exact ⟨FRn.out _ _ h.1 hb, h.2.1.below hb h.2.1.lt, h.2.2.below hb⟩)
            have P1t : Hid (∀ W, P1 W → (W.cell? ⟨T7, 0, none⟩ = some (.slice os1 sx.length cs1) ∧ W.cell? ⟨T7, 1, none⟩ = some (.slice (some ⟨gA, fA, none⟩) dx.length cd1)) ∧ Ld W (.slice (some ⟨gA, fA, none⟩) dx.length cd1) AN) := Lib.hid (fun W h => by rw [hP] at h; exact ⟨⟨(blk2 h.2.1).1, (blk2 h.2.1).2.1⟩, h.2.2⟩)
            clear hP hv hT U1 x0 x1 x2 x3 x4
            obtain ⟨⟨y0, y1⟩, _⟩ := P1t.out _ G1.out
            obtain ⟨x0, x1, x2, x3, x4⟩ := FRk.out _ (P1f.out _ G1.out)
            have hn1 : 1 ≤ n := by have := HW.out.2.2.2.2.1; omega
            go_wp2_with (go_at_call 11; (with_reducible refine (num14_any _ _).mono ?_); rintro e w' ⟨rfl, rfl⟩)
            clear x0 x1 x2 x3 x4 y0 y1
            go_loopw [9] (fun s9 wQ => ∃ (l LN : Nat), l ≤ N ∧ s9 = .int .i64 (LN : Nat) ∧ LN ≤ 24 ∧ Hid (LN = l * n) ∧ Hid (P1 wQ)) (fun s9 _ => dx.length - (intOf s9).toNat)
            case atStart => exact ⟨0, 0, Nat.zero_le _, rfl, Nat.zero_le _, Lib.hid (by simp), G1⟩
            case round =>
              obtain ⟨l, LN, hlN, rfl, hL24, HLN, HP1⟩ := hrel
              obtain ⟨⟨y0, y1⟩, _⟩ := P1t.out _ HP1.out
              obtain ⟨x0, x1, x2, x3, x4⟩ := FRk.out _ (P1f.out _ HP1.out)
              obtain ⟨w9, hw9⟩ : ∃ v, v = wr := ⟨_, rfl⟩
              rw [← hw9] at HP1 y0 y1 x0 x1 x2 x3 x4 ⊢
              clear hw9
              by_cases hlt : LN < dx.length
              · as_aux_lemma =>
                have hll : l * n + n ≤ dx.length := by
                  have h1 := HW.out.2.2.2.1
                  have h2 := HLN.out
                  have h3 : l < N := by
                    refine Nat.lt_of_not_le fun h => ?_
                    have := Nat.mul_le_mul_right n h
                    omega
                  have := Nat.mul_le_mul_right n (show l + 1 ≤ N from h3)
                  rw [Nat.add_mul, Nat.one_mul] at this
                  omega
                obtain ⟨rv, hrv⟩ : ∃ r, r = ((dx.drop (l * n)).take n).reverse := ⟨_, rfl⟩
                have hrl : rv.length = n := by rw [hrv, List.length_reverse]; simp; omega
                have hrw : wds rv = true := wds_yes (fun k hk => by
                  have h1 := wds_midq HW.out.2.2.1 hll
                  have h2 : ((dx.drop (l * n)).take n).length = n := by simp; omega
                  have h3 := rev_getD (j := n - 1 - k) h2 (by omega)
                  rw [show n - 1 - (n - 1 - k) = k by omega] at h3
                  rw [hrv, h3]
                  exact wds_at h1 (by omega))
                have hra : ∀ q, q < n → rv.getD (n - 1 - q) 0 = dx.getD (LN + q) 0 := fun q hq => by
                  have h2 : ((dx.drop (l * n)).take n).length = n := by simp; omega
                  rw [hrv, rev_getD h2 hq, mid_getD1 hq, HLN.out]
                have htb : tnb [((n : Nat) : Int)] rv = true := tnb_mk (may_one (by omega) (by omega)) (by rw [hrl]; simp [prod]) hrw
                obtain ⟨BN, hBN⟩ : ∃ b, b = nrt n rv ep fN := ⟨_, rfl⟩
                have hBNl : BN.length = n := by rw [hBN, nrt_len, hrl]
                have hBA : ∀ j, j < n → BN.getD (n - 1 - j) 0 = AN.getD (LN + j) 0 := fun j hj => by
                  rw [hBN, hrv, HA.out.1, HLN.out]
                  exact rev_at ep fN hj hll
                have hB1 : n = 1 → BN.getD 0 0 = 0 := fun e => by
                  rw [hBN, e]
                  exact one_at fN E0.out (by rw [hrl, e])
                have KN2 : Hid (∀ (W : World) (vs vd : Value), Ld W vs [((n : Nat) : Int)] → Ld W vd rv → Calls Try.prog 10 #[.agg #[vs, vd], .int .i64 ep, .int .i64 (fN : Int)] W fun e w' => ∃ os cs od cd, e = .returned (.tuple #[.agg #[.slice os 1 cs, .slice od n cd], .int .i64 0]) ∧ Ld w' (.slice od n cd) BN ∧ Below W.heap.size W w') := Lib.hid (fun W vs vd hs hd =>
                  (norm_ld vs vd _ rv ep fN W hs hd htb HW.out.1 E0.out HW.out.2.1 (by simp) n (by simp)).mono fun e w' hh => by
                    obtain ⟨os, cs, od, cd, rfl, _, h4, h5⟩ := hh
                    rw [hrl, ← hBN] at *
                    exact ⟨os, cs, od, cd, rfl, h4, h5⟩)
                have HRV := Lib.hid (And.intro hrl (And.intro hra (And.intro hll (And.intro hBNl (And.intro hBA hB1)))))
                clear hrv hrl hrw hra htb hBN hBNl hBA hB1 hll
                obtain ⟨i1, hi1, hz0, hz1, hz2⟩ := info_parts infoW
                go_upto_region 17 with fail
                obtain ⟨V10, hV⟩ : ∃ v, v = (w9.alloc (.cells #[.int .i64 (n : Int)] 3)).alloc (.cells #[.slice (some ⟨w9.heap.size, 0, none⟩) 1 1, .slice none 0 0] 26) := ⟨_, rfl⟩
                obtain ⟨S10, hS⟩ : ∃ T, T = w9.heap.size := ⟨_, rfl⟩
                rw [← hS] at hV
                rw [← hS, ← hV]
                have HV10 : Hid (V10.heap.size = S10 + 2 ∧ S10 = w9.heap.size) := Lib.hid (by rw [hV, World.size_alloc, World.size_alloc, hS]; exact ⟨rfl, rfl⟩)
                obtain ⟨RT, hRT⟩ : ∃ RT : Nat → World → Prop, RT = fun c W => ∃ vd, Blk W (S10 + 1) 26 #[.slice (some ⟨S10, 0, none⟩) 1 1, vd] ∧ W.ownsRow (S10 + 2) 2 1 vd c (ints (rv.take c)) ∧ Blk W S10 3 #[.int .i64 (n : Int)] ∧ Below S10 w9 W ∧ S10 + 2 ≤ W.heap.size := ⟨_, rfl⟩
                have RT0 : Hid (RT 0 V10) := Lib.hid (by
                  rw [hRT, hV]
                  refine ⟨_, ?_, World.ownsRow_nil _ _ _ _, ?_, ?_, ?_⟩
                  · have q := Blk.new (w9.alloc (.cells #[.int .i64 (n : Int)] 3)) 26 #[.slice (some ⟨S10, 0, none⟩) 1 1, .slice none 0 0]
                    rwa [World.size_alloc, ← hS] at q
                  · rw [hS]; exact (Blk.new w9 _ _).alloc _
                  · rw [hS]; exact ((Below.refl _ _).alloc (Nat.le_refl _) _).alloc (by simp) _
                  · simp; omega)
                have RTt : Hid (∀ c W, RT c W → ∃ vd, Blk W (S10 + 1) 26 #[.slice (some ⟨S10, 0, none⟩) 1 1, vd] ∧ W.ownsRow (S10 + 2) 2 1 vd c (ints (rv.take c)) ∧ Blk W S10 3 #[.int .i64 (n : Int)] ∧ Below S10 w9 W ∧ S10 + 2 ≤ W.heap.size) := Lib.hid (fun c W h => by rw [hRT] at h; exact h)
                have RTm : Hid (∀ c W vd, Blk W (S10 + 1) 26 #[.slice (some ⟨S10, 0, none⟩) 1 1, vd] → W.ownsRow (S10 + 2) 2 1 vd c (ints (rv.take c)) → Blk W S10 3 #[.int .i64 (n : Int)] → Below S10 w9 W → S10 + 2 ≤ W.heap.size → RT c W) := Lib.hid (fun c W vd h1 h2 h3 h4 h5 => by rw [hRT]; exact ⟨vd, h1, h2, h3, h4, h5⟩)
                have P1m : Hid (∀ c W, RT c W → P1 W) := Lib.hid (fun c W h => by
                  obtain ⟨_, _, _, _, h4, _⟩ := RTt.out c W h
                  rw [HV10.out.2] at h4
                  exact P1n.out _ _ HP1.out h4)
                have hE := IntWalk.wrap64_in ((n : Int) - 1) (by omega)
                have hE2 := IntWalk.i64_in ((n : Int) - 1) (by omega)
                clear hRT hV hS x0 x1 x2 x3 x4 y0 y1
                go_wp2
                clear hE hE2
                go_loopw [11] (fun s11 wQ => ∃ (c : Nat) (kk : Int), c ≤ n ∧ s11 = .int .i64 kk ∧ (-1 ≤ kk ∧ kk ≤ 24) ∧ Hid (kk = (n : Int) - 1 - (c : Int)) ∧ Hid (RT c wQ)) (fun s11 _ => (intOf s11 + 1).toNat)
                case atStart => exact ⟨0, _, Nat.zero_le _, rfl, by omega, Lib.hid (by simp), RT0⟩
                case round =>
                  obtain ⟨c, kk, hcn, rfl, hkk, HKK, HRT⟩ := hrel
                  obtain ⟨wq, hwq⟩ : ∃ v, v = wr := ⟨_, rfl⟩
                  rw [← hwq] at HRT ⊢
                  clear hwq
                  by_cases hck : 0 ≤ kk
                  · as_aux_lemma =>
                    obtain ⟨q, rfl⟩ : ∃ q : Nat, kk = (q : Int) := ⟨kk.toNat, by omega⟩
                    obtain ⟨vj, m1, m2, m3, m4, m5⟩ := RTt.out _ _ HRT.out
                    obtain ⟨oj, cj, rfl⟩ := own_form1 m2
                    have hq : q < n ∧ n - 1 - q = c ∧ c < n := by have := HKK.out; omega
                    obtain ⟨ix, hix⟩ : ∃ ix, ix = LN + q := ⟨_, rfl⟩
                    have hixl : ix < dx.length := by have := HRV.out.2.2.1; have := HLN.out; omega
                    have hval : rv.getD c 0 = dx.getD ix 0 := by have h1 := HRV.out.2.1 q hq.1; rw [hq.2.1] at h1; rw [h1, hix]
                    have HNS : Hid (rv.take (c + 1) = rv.take c ++ [dx.getD ix 0]) := Lib.hid (by rw [← hval]; exact take_snoc (by rw [HRV.out.1]; exact hq.2.2))
                    have HCL : Hid (∀ V, P1 V → V.cell? ⟨w1.heap.size, 1, none⟩ = some (.slice (some ⟨gV, fV, none⟩) dx.length cV) ∧ V.cell? ⟨gV, fV + ix, none⟩ = some (.int .i64 (dx.getD ix 0))) := Lib.hid (fun V h => ⟨(FRk.out _ (P1f.out _ h)).2.1, ld_cell (HL.out.2.below (FRb.out _ (P1f.out _ h))) hixl⟩)
                    have e1 : wrap64 ((LN : Int) + (q : Int)) = (ix : Int) ∧ IntKind.i64.wrap ((LN : Int) + (q : Int)) = (ix : Int) := by
                      rw [hix, Int.natCast_add]; exact wrp (by omega)
                    have e2 : wrap64 ((q : Int) - 1) = (q : Int) - 1 ∧ IntKind.i64.wrap ((q : Int) - 1) = (q : Int) - 1 := wrp (by omega)
                    generalize dx.getD ix 0 = aj at *
                    have HE1 := Lib.hid e1
                    have HE2 := Lib.hid e2
                    have HQ := Lib.hid (And.intro hq (And.intro hix hval))
                    obtain ⟨Q, hQq⟩ : ∃ Q : World → Prop, Q = fun V => Below wq.heap.size wq V ∧ Blk V (S10 + 1) 26 #[.slice (some ⟨S10, 0, none⟩) 1 1, .slice oj c cj] ∧ V.ownsRow (S10 + 2) 2 1 (.slice oj c cj) c (ints (rv.take c)) := ⟨_, rfl⟩
                    have Q0 : Hid (Q wq) := Lib.hid (by rw [hQq]; exact ⟨Below.refl _ _, m1, m2⟩)
                    have Qn : Hid (∀ V V', Q V → Below V.heap.size V V' → Q V') := Lib.hid (fun V V' h hb => by rw [hQq] at h ⊢; exact ⟨h.1.trans (hb.mono h.1.size), h.2.1.below hb h.2.1.lt, Below.keepOwn h.2.2 hb (Nat.le_refl _)⟩)
                    have Qt : Hid (∀ V, Q V → Below wq.heap.size wq V ∧ Blk V (S10 + 1) 26 #[.slice (some ⟨S10, 0, none⟩) 1 1, .slice oj c cj] ∧ V.ownsRow (S10 + 2) 2 1 (.slice oj c cj) c (ints (rv.take c))) := Lib.hid (fun V h => by rw [hQq] at h; exact h)
                    have HPQ := Lib.hid (P1m.out _ _ HRT.out)
                    have KSb : Hid (∀ V, P1 V → V.cell? ⟨w1.heap.size, 1, none⟩ = some (.slice (some ⟨gV, fV, none⟩) dx.length cV) ∧ V.cell? ⟨gV, fV + ix, none⟩ = some (.int .i64 aj)) := HCL
                    have QP : Hid (∀ V, Q V → P1 V) := Lib.hid (fun V h => P1n.out _ _ HPQ.out (Qt.out V h).1)
                    have HZ : Hid (∀ V, Q V → S10 + 2 ≤ V.heap.size) := Lib.hid (fun V h => Nat.le_trans m5 (Qt.out V h).1.size)
                    have HWR := Lib.hid (And.intro m3 (And.intro m4 m5))
                    have hc24 : c ≤ 24 := by have := HQ.out.1.2.2; omega
                    clear hQq m1 m2 m3 m4 m5 hq hix hval e1 e2 HCL
                    go_upto_region 20 with fail
                    have B_0 : Hid (Q wq.drew) := Lib.hid (Qn.out _ _ Q0.out (below_drw (Below.refl _ _) 1))
                    obtain ⟨e1, e2⟩ := HE1.out
                    refine wp_region_held_drew (S := fun V => V.cell? ⟨w1.heap.size, 1, none⟩ = some (.slice (some ⟨gV, fV, none⟩) dx.length cV) ∧ V.cell? ⟨gV, fV + ix, none⟩ = some (.int .i64 aj)) (by kernel_rfl) ?_ (fun hHeld => ?_)
                    · exact KSb.out _ (QP.out _ B_0.out)
                    have hHd := hHeld
                    generalize wq.drew = w_0 at *
                    (refine wpAnyH_take (i := 0) (oi := ⟨some 100, _, _, _, _, _⟩) (v := ?v0_q1) rfl (by kernel_rfl) (by kernel_rfl) (by kernel_rfl) (fun _ _ _ h => h) (Or.inl ⟨by rfl, ?hy0_q1⟩) (by assumption) ?rest0_q1; (case hy0_q1 => ((intro w hSw); (try dsimp only at hSw); go_simp; first | done | (with_reducible rfl))))
                    (try simp only [Act.put, List.setIfInBounds_toArray, List.set_cons_zero, List.set_cons_succ])
                    (refine wpAnyH_take (i := 2) (oi := ⟨some 102, _, _, _, _, _⟩) (v := ?v2_q2) rfl (by kernel_rfl) (by kernel_rfl) (by kernel_rfl) (fun _ _ _ h => h) (Or.inl ⟨by rfl, ?hy2_q2⟩) (by assumption) ?rest2_q2; (case hy2_q2 => ((intro w hSw); (try dsimp only at hSw); go_simp; first | done | (with_reducible rfl))))
                    (try simp only [Act.put, List.setIfInBounds_toArray, List.set_cons_zero, List.set_cons_succ])
                    (refine wpAnyH_take (i := 3) (oi := ⟨some 103, _, _, _, _, _⟩) (v := ?v3_q3) rfl (by kernel_rfl) (by kernel_rfl) (by kernel_rfl) (fun _ _ _ h => h) (Or.inl ⟨by rfl, ?hy3_q3⟩) (by assumption) ?rest3_q3; (case hy3_q3 => ((intro w hSw); (try dsimp only at hSw); go_simp; first | done | (with_reducible rfl))))
                    (try simp only [Act.put, List.setIfInBounds_toArray, List.set_cons_zero, List.set_cons_succ])
                    (refine wpAnyH_take (i := 4) (oi := ⟨some 104, _, _, _, _, _⟩) (v := ?v4_q4) rfl (by kernel_rfl) (by kernel_rfl) (by kernel_rfl) (fun _ _ _ h => h) (Or.inl ⟨by rfl, ?hy4_q4⟩) (by assumption) ?rest4_q4; (case hy4_q4 => ((intro w hSw); (try dsimp only at hSw); go_simp; first | done | (with_reducible rfl))))
                    (try simp only [Act.put, List.setIfInBounds_toArray, List.set_cons_zero, List.set_cons_succ])
                    (refine wpAnyH_take (i := 5) (oi := ⟨some 105, _, _, _, _, _⟩) (v := ?v5_q5) rfl (by kernel_rfl) (by kernel_rfl) (by kernel_rfl) (fun _ _ _ h => h) (Or.inl ⟨by rfl, ?hy5_q5⟩) (by assumption) ?rest5_q5; (case hy5_q5 => ((intro w hSw); (try dsimp only at hSw); go_simp; first | done | (with_reducible rfl))))
                    (try simp only [Act.put, List.setIfInBounds_toArray, List.set_cons_zero, List.set_cons_succ])
                    (refine wpAnyH_take (i := 6) (oi := ⟨some 106, _, _, _, _, _⟩) (v := ?v6_q6) rfl (by kernel_rfl) (by kernel_rfl) (by kernel_rfl) (fun _ _ _ h => h) (Or.inl ⟨by rfl, ?hy6_q6⟩) (by assumption) ?rest6_q6; (case hy6_q6 => ((intro w hSw); (try dsimp only at hSw); go_simp; first | done | (with_reducible rfl))))
                    (try simp only [Act.put, List.setIfInBounds_toArray, List.set_cons_zero, List.set_cons_succ])
                    (refine wpAnyH_take (i := 7) (oi := ⟨some 107, _, _, _, _, _⟩) (v := ?v7_q7) rfl (by kernel_rfl) (by kernel_rfl) (by kernel_rfl) (fun _ _ _ h => h) (Or.inl ⟨by rfl, ?hy7_q7⟩) (by assumption) ?rest7_q7; (case hy7_q7 => ((intro w hSw); (try dsimp only at hSw); go_simp; first | done | (with_reducible rfl))))
                    (try simp only [Act.put, List.setIfInBounds_toArray, List.set_cons_zero, List.set_cons_succ])
                    (refine wpAnyH_take (i := 8) (oi := ⟨some 108, _, _, _, _, _⟩) (v := ?v8_q8) rfl (by kernel_rfl) (by kernel_rfl) (by kernel_rfl) (fun _ _ _ h => h) (Or.inl ⟨by rfl, ?hy8_q8⟩) (by assumption) ?rest8_q8; (case hy8_q8 => ((intro w hSw); (try dsimp only at hSw); go_simp; first | done | (with_reducible rfl))))
                    (try simp only [Act.put, List.setIfInBounds_toArray, List.set_cons_zero, List.set_cons_succ])
                    (refine wpAnyH_take (i := 9) (oi := ⟨some 109, _, _, _, _, _⟩) (v := ?v9_q9) rfl (by kernel_rfl) (by kernel_rfl) (by kernel_rfl) (fun _ _ _ h => h) (Or.inl ⟨by rfl, ?hy9_q9⟩) (by assumption) ?rest9_q9; (case hy9_q9 => ((intro w hSw); (try dsimp only at hSw); go_simp; first | done | (with_reducible rfl))))
                    (try simp only [Act.put, List.setIfInBounds_toArray, List.set_cons_zero, List.set_cons_succ])
                    refine wpAnyH_ready (rs := [1, 10]) (by kernel_rfl) (by simp) ?_
                    refine AllReadyH.cons (o := ⟨some 101, _, _, _, _, _⟩) rfl (fun K hK => ?_) (AllReadyH.cons (o := ⟨some 110, _, _, _, _, _⟩) rfl (fun K hK => ?_) (AllReadyH.nil))
                    · (try clear p0 p1 pf0 pf1)
                      obtain ⟨p0, p1, pf0, pf1⟩ := blkz2 (Qt.out _ B_0.out).2.1
                      go_simp
                      refine hK.out _ _ ?_ (fun hHeld => ?_)
                      · (try dsimp only)
                        exact KSb.out _ (QP.out _ B_0.out)
                      clear hK K
                      (try simp only [Act.put, List.setIfInBounds_toArray, List.set_cons_zero, List.set_cons_succ])
                      refine wpAnyH_ready (rs := [10]) (by kernel_rfl) (by simp) ?_
                      refine AllReadyH.cons (o := ⟨some 110, _, _, _, _, _⟩) rfl (fun K hK => ?_) (AllReadyH.nil)
                      (try clear p0 p1 pf0 pf1)
                      have X_1 := Lib.hid (Blk.new w_0 2 #[.int .i64 aj])
                      have B_1 := Lib.hid (Qn.out _ _ B_0.out (al_below (.cells #[.int .i64 aj] 2)))
                      go_simp
                      refine hK.out _ _ ?_ (fun hHeld => ?_)
                      · (try dsimp only)
                        exact KSb.out _ (QP.out _ B_1.out)
                      clear hK K
                      generalize w_0.alloc (.cells #[.int .i64 aj] 2) = w_1 at *
                      (try simp only [Act.put, List.setIfInBounds_toArray, List.set_cons_zero, List.set_cons_succ])
                      refine wpAnyH_ready (rs := [11]) (by kernel_rfl) (by simp) ?_
                      refine AllReadyH.cons (o := ⟨some 111, _, _, _, _, _⟩) rfl (fun K hK => ?_) (AllReadyH.nil)
                      (try clear p0 p1 pf0 pf1)
                      refine step_append_lies _ (by rfl) (.tmp 101) (.tmp 110) 24 (by rfl) (S10 + 2) 2 i1 (.int .i64 0) 1 8 Try.underlying24 hi1 hz0 hz1 hz2 rfl (by decide) (.slice oj c cj) c (ints (rv.take c)) (by rfl) (Qt.out _ B_1.out).2.2 ⟨w_0.heap.size, 0, none⟩ 1 1 [.int .i64 aj] (by rfl) rfl (World.news_of_block X_1.out) (by simp [Value.oneCell']) (by decide) (by unfold maxLen; omega) (by omega) (HZ.out _ B_1.out) w_1.heap.size rfl ?_
                      intro g9 cp9 w9x hown hgrow hat _
                      have HOW := Lib.hid hown
                      have Q9 := Lib.hid ((Qt.out _ B_1.out).2.1.kept hgrow (fun e => by have := ((Qt.out _ B_1.out).2.2.lt (S10 + 1) e.symm).1; omega))
                      have R9 := Lib.hid ((HWR.out.1.below (Qt.out _ B_1.out).1 HWR.out.1.lt).kept hgrow (fun e => by have := ((Qt.out _ B_1.out).2.2.lt S10 e.symm).1; omega))
                      have E9 := Lib.hid ((HWR.out.2.1.trans ((Qt.out _ B_1.out).1.mono (by have := HWR.out.2.2; omega))).grown hgrow (by have := HZ.out _ B_1.out; omega) (fun q e => by have := ((Qt.out _ B_1.out).2.2.lt q e).1; omega))
                      have Z9 := Lib.hid (Nat.le_trans (HZ.out _ B_1.out) hgrow.size)
                      have E9b : Hid (Below w9.heap.size w9 w9x) := Lib.hid (E9.out.mono (Nat.le_of_eq HV10.out.2.symm))
                      clear hown hgrow hat
                      refine hK.out _ _ ?_ (fun hHeld => ?_)
                      · (try dsimp only)
                        exact KSb.out _ (P1n.out _ _ HP1.out E9b.out)
                      clear hK K
                      (try simp only [Act.put, List.setIfInBounds_toArray, List.set_cons_zero, List.set_cons_succ])
                      (refine wpAnyH_take (i := 12) (oi := ⟨some 112, _, _, _, _, _⟩) (v := ?v12_q10) rfl (by kernel_rfl) (by kernel_rfl) (by kernel_rfl) (fun _ _ _ h => h) (Or.inl ⟨by rfl, ?hy12_q10⟩) (by assumption) ?rest12_q10; (case hy12_q10 => ((intro w hSw); (try dsimp only at hSw); go_simp; first | done | (with_reducible rfl))))
                      (try simp only [Act.put, List.setIfInBounds_toArray, List.set_cons_zero, List.set_cons_succ])
                      refine wpAnyH_ready (rs := [13]) (by kernel_rfl) (by simp) ?_
                      refine AllReadyH.cons (o := ⟨none, _, _, _, _, _⟩) rfl (fun K hK => ?_) (AllReadyH.nil)
                      (try clear p0 p1 pf0 pf1)
                      obtain ⟨p0, p1, pf0, pf1⟩ := blkz2 Q9.out
                      have ZF := Lib.hid (Q9.out.set_ 1 (.slice (some ⟨g9, 0, none⟩) (c + 1) cp9))
                      have EF := Lib.hid (E9.out.setCell (p := ⟨S10 + 1, 1, none⟩) (Nat.le_succ _) (.slice (some ⟨g9, 0, none⟩) (c + 1) cp9))
                      have EFb : Hid (Below w9.heap.size w9 (w9x.setCell ⟨S10 + 1, 1, none⟩ (.slice (some ⟨g9, 0, none⟩) (c + 1) cp9))) := Lib.hid (EF.out.mono (Nat.le_of_eq HV10.out.2.symm))
                      go_simp
                      refine hK.out _ _ ?_ (fun hHeld => ?_)
                      · (try dsimp only)
                        exact KSb.out _ (P1n.out _ _ HP1.out EFb.out)
                      clear hK K
                      (try simp only [Act.put, List.setIfInBounds_toArray, List.set_cons_zero, List.set_cons_succ])
                      refine wpAnyH_done (by kernel_rfl) ?_ _
                      have FIN : Hid (RT (c + 1) (w9x.setCell ⟨S10 + 1, 1, none⟩ (.slice (some ⟨g9, 0, none⟩) (c + 1) cp9))) := Lib.hid (RTm.out _ _ _ ZF.out (by rw [HNS.out, ints_snoc]; exact own_setx (i := 1) HOW.out Q9.out (by decide)) (R9.out.far (p := ⟨S10 + 1, 1, none⟩) (by show ¬ S10 = S10 + 1; omega) _) EF.out (by rw [World.size_setCell]; exact Z9.out))
                      (try clear p0 p1 pf0 pf1)
                      obtain ⟨e3, e4⟩ := HE2.out
                      clear e1 e2
                      go_wp2
                      clear e3 e4
                      exact ⟨⟨c + 1, (q : Int) - 1, by have := HQ.out; omega, rfl, by omega, Lib.hid (by have := HKK.out; push_cast; omega), FIN⟩, by first | (simp [intOf]; done) | (simp [intOf]; omega)⟩
                    · (try clear p0 p1 pf0 pf1)
                      have X_2 := Lib.hid (Blk.new w_0 2 #[.int .i64 aj])
                      have B_2 := Lib.hid (Qn.out _ _ B_0.out (al_below (.cells #[.int .i64 aj] 2)))
                      go_simp
                      refine hK.out _ _ ?_ (fun hHeld => ?_)
                      · (try dsimp only)
                        exact KSb.out _ (QP.out _ B_2.out)
                      clear hK K
                      generalize w_0.alloc (.cells #[.int .i64 aj] 2) = w_2 at *
                      (try simp only [Act.put, List.setIfInBounds_toArray, List.set_cons_zero, List.set_cons_succ])
                      refine wpAnyH_ready (rs := [1]) (by kernel_rfl) (by simp) ?_
                      refine AllReadyH.cons (o := ⟨some 101, _, _, _, _, _⟩) rfl (fun K hK => ?_) (AllReadyH.nil)
                      (try clear p0 p1 pf0 pf1)
                      obtain ⟨p0, p1, pf0, pf1⟩ := blkz2 (Qt.out _ B_2.out).2.1
                      go_simp
                      refine hK.out _ _ ?_ (fun hHeld => ?_)
                      · (try dsimp only)
                        exact KSb.out _ (QP.out _ B_2.out)
                      clear hK K
                      (try simp only [Act.put, List.setIfInBounds_toArray, List.set_cons_zero, List.set_cons_succ])
                      refine wpAnyH_ready (rs := [11]) (by kernel_rfl) (by simp) ?_
                      refine AllReadyH.cons (o := ⟨some 111, _, _, _, _, _⟩) rfl (fun K hK => ?_) (AllReadyH.nil)
                      (try clear p0 p1 pf0 pf1)
                      refine step_append_lies _ (by rfl) (.tmp 101) (.tmp 110) 24 (by rfl) (S10 + 2) 2 i1 (.int .i64 0) 1 8 Try.underlying24 hi1 hz0 hz1 hz2 rfl (by decide) (.slice oj c cj) c (ints (rv.take c)) (by rfl) (Qt.out _ B_2.out).2.2 ⟨w_0.heap.size, 0, none⟩ 1 1 [.int .i64 aj] (by rfl) rfl (World.news_of_block X_2.out) (by simp [Value.oneCell']) (by decide) (by unfold maxLen; omega) (by omega) (HZ.out _ B_2.out) w_2.heap.size rfl ?_
                      intro g9 cp9 w9x hown hgrow hat _
                      have HOW := Lib.hid hown
                      have Q9 := Lib.hid ((Qt.out _ B_2.out).2.1.kept hgrow (fun e => by have := ((Qt.out _ B_2.out).2.2.lt (S10 + 1) e.symm).1; omega))
                      have R9 := Lib.hid ((HWR.out.1.below (Qt.out _ B_2.out).1 HWR.out.1.lt).kept hgrow (fun e => by have := ((Qt.out _ B_2.out).2.2.lt S10 e.symm).1; omega))
                      have E9 := Lib.hid ((HWR.out.2.1.trans ((Qt.out _ B_2.out).1.mono (by have := HWR.out.2.2; omega))).grown hgrow (by have := HZ.out _ B_2.out; omega) (fun q e => by have := ((Qt.out _ B_2.out).2.2.lt q e).1; omega))
                      have Z9 := Lib.hid (Nat.le_trans (HZ.out _ B_2.out) hgrow.size)
                      have E9b : Hid (Below w9.heap.size w9 w9x) := Lib.hid (E9.out.mono (Nat.le_of_eq HV10.out.2.symm))
                      clear hown hgrow hat
                      refine hK.out _ _ ?_ (fun hHeld => ?_)
                      · (try dsimp only)
                        exact KSb.out _ (P1n.out _ _ HP1.out E9b.out)
                      clear hK K
                      (try simp only [Act.put, List.setIfInBounds_toArray, List.set_cons_zero, List.set_cons_succ])
                      (refine wpAnyH_take (i := 12) (oi := ⟨some 112, _, _, _, _, _⟩) (v := ?v12_q11) rfl (by kernel_rfl) (by kernel_rfl) (by kernel_rfl) (fun _ _ _ h => h) (Or.inl ⟨by rfl, ?hy12_q11⟩) (by assumption) ?rest12_q11; (case hy12_q11 => ((intro w hSw); (try dsimp only at hSw); go_simp; first | done | (with_reducible rfl))))
                      (try simp only [Act.put, List.setIfInBounds_toArray, List.set_cons_zero, List.set_cons_succ])
                      refine wpAnyH_ready (rs := [13]) (by kernel_rfl) (by simp) ?_
                      refine AllReadyH.cons (o := ⟨none, _, _, _, _, _⟩) rfl (fun K hK => ?_) (AllReadyH.nil)
                      (try clear p0 p1 pf0 pf1)
                      obtain ⟨p0, p1, pf0, pf1⟩ := blkz2 Q9.out
                      have ZF := Lib.hid (Q9.out.set_ 1 (.slice (some ⟨g9, 0, none⟩) (c + 1) cp9))
                      have EF := Lib.hid (E9.out.setCell (p := ⟨S10 + 1, 1, none⟩) (Nat.le_succ _) (.slice (some ⟨g9, 0, none⟩) (c + 1) cp9))
                      have EFb : Hid (Below w9.heap.size w9 (w9x.setCell ⟨S10 + 1, 1, none⟩ (.slice (some ⟨g9, 0, none⟩) (c + 1) cp9))) := Lib.hid (EF.out.mono (Nat.le_of_eq HV10.out.2.symm))
                      go_simp
                      refine hK.out _ _ ?_ (fun hHeld => ?_)
                      · (try dsimp only)
                        exact KSb.out _ (P1n.out _ _ HP1.out EFb.out)
                      clear hK K
                      (try simp only [Act.put, List.setIfInBounds_toArray, List.set_cons_zero, List.set_cons_succ])
                      refine wpAnyH_done (by kernel_rfl) ?_ _
                      have FIN : Hid (RT (c + 1) (w9x.setCell ⟨S10 + 1, 1, none⟩ (.slice (some ⟨g9, 0, none⟩) (c + 1) cp9))) := Lib.hid (RTm.out _ _ _ ZF.out (by rw [HNS.out, ints_snoc]; exact own_setx (i := 1) HOW.out Q9.out (by decide)) (R9.out.far (p := ⟨S10 + 1, 1, none⟩) (by show ¬ S10 = S10 + 1; omega) _) EF.out (by rw [World.size_setCell]; exact Z9.out))
                      (try clear p0 p1 pf0 pf1)
                      obtain ⟨e3, e4⟩ := HE2.out
                      clear e1 e2
                      go_wp2
                      clear e3 e4
                      exact ⟨⟨c + 1, (q : Int) - 1, by have := HQ.out; omega, rfl, by omega, Lib.hid (by have := HKK.out; push_cast; omega), FIN⟩, by first | (simp [intOf]; done) | (simp [intOf]; omega)⟩
                  · as_aux_lemma =>
                    have hcn2 : c = n := by have := HKK.out; omega
                    rw [hcn2] at HRT
                    obtain ⟨vj, m1, m2, m3, m4, m5⟩ := RTt.out _ _ HRT.out
                    rw [List.take_of_length_le (by rw [HRV.out.1]; exact Nat.le_refl _)] at m2
                    obtain ⟨oj, cj, rfl⟩ := own_form1 m2
                    have KN3 := Lib.hid (KN2.out wq (.slice (some ⟨S10, 0, none⟩) 1 1) (.slice oj n cj) (Ld.of_blk (ls := [((n : Nat) : Int)]) m3 (Nat.le_refl _)) (Ld.of_own' m2 HRV.out.1))
                    have FQ := Lib.hid (P1m.out _ _ HRT.out)
                    obtain ⟨p0, p1, _, _⟩ := blk2 m1
                    obtain ⟨x0, x1, x2, x3, x4⟩ := FRk.out _ (P1f.out _ FQ.out)
                    clear m1 m2 m3 m4 m5 hcn hcn2
                    go_upto_region 22 with (go_at_call 10; (with_reducible refine KN3.out.mono ?_); rintro e wz2 ⟨os2, cs2, od2, cd2, rfl, h2, hb⟩; have U2 := Lib.hid (And.intro (P1n.out _ _ FQ.out hb) h2); clear h2 hb)
                    obtain ⟨v2, hv⟩ : ∃ v, v = wz2.alloc (.cells #[.slice os2 1 cs2, .slice od2 n cd2] 26) := ⟨_, rfl⟩
                    obtain ⟨T12, hT⟩ : ∃ T, T = wz2.heap.size := ⟨_, rfl⟩
                    rw [← hv, ← hT]
                    obtain ⟨gB, fB, hoB, _⟩ := ld_at U2.out.2 (k := 0) (by rw [HRV.out.2.2.2.1]; omega)
                    subst hoB
                    obtain ⟨P2, hP⟩ : ∃ P : World → Prop, P = fun W => P1 W ∧ Blk W T12 26 #[.slice os2 1 cs2, .slice (some ⟨gB, fB, none⟩) n cd2] ∧ Ld W (.slice (some ⟨gB, fB, none⟩) n cd2) BN := ⟨_, rfl⟩
                    have G2 : Hid (P2 v2) := Lib.hid (by rw [hP]; exact ⟨by rw [hv]; exact P1n.out _ _ U2.out.1 (al_below _), by rw [hv, hT]; exact Blk.new _ _ _, by rw [hv]; exact U2.out.2.below (al_below _)⟩)
                    have P2f : Hid (∀ W, P2 W → P1 W) := Lib.hid (fun W h => by rw [hP] at h; exact h.1)
                    have P2n : Hid (∀ W W', P2 W → Below W.heap.size W W' → P2 W') := Lib.hid (fun W W' h hb => by rw [hP] at h ⊢; exact ⟨P1n.out _ _ h.1 hb, h.2.1.below hb h.2.1.lt, h.2.2.below hb⟩)
                    have P2t : Hid (∀ W, P2 W → (W.cell? ⟨T12, 0, none⟩ = some (.slice os2 1 cs2) ∧ W.cell? ⟨T12, 1, none⟩ = some (.slice (some ⟨gB, fB, none⟩) n cd2)) ∧ Ld W (.slice (some ⟨gB, fB, none⟩) n cd2) BN) := Lib.hid (fun W h => by rw [hP] at h; exact ⟨⟨(blk2 h.2.1).1, (blk2 h.2.1).2.1⟩, h.2.2⟩)
                    clear hP hv hT U2 x0 x1 x2 x3 x4 p0 p1 RT0 RTt RTm P1m HRT KN2 KN3 HKK
                    go_cut [141] (fun s141 wx => s141 = .bool false ∧ v2 = wx)
                    case first =>
                      as_aux_lemma =>
                      obtain ⟨⟨p0, p1⟩, hB2⟩ := P2t.out _ G2.out
                      by_cases hne : n = 1
                      · have zc := ld_cell hB2 (k := 0) (by rw [HRV.out.2.2.2.1]; omega)
                        rw [HRV.out.2.2.2.2.2 hne, Nat.add_zero] at zc
                        have z1 : ((n : Int) == 1) = true := by rw [hne]; rfl
                        clear hB2 hne
                        go_wp2_with (go_at_call 11; (with_reducible refine (num14_any _ _).mono ?_); rintro e w' ⟨rfl, rfl⟩)
                        go_meet
                        exact ⟨rfl, rfl⟩
                      · have z1 : ((n : Int) == 1) = false := by rw [beq_eq_false_iff_ne]; omega
                        clear hB2
                        go_wp2_with (go_at_call 11; (with_reducible refine (num14_any _ _).mono ?_); rintro e w' ⟨rfl, rfl⟩)
                        go_meet
                        exact ⟨rfl, rfl⟩
                    case rest =>
                      as_aux_lemma =>
                      obtain ⟨rfl, rfl⟩ := hcut
                      go_wp2
                      go_loopw [14] (fun s14 wQ => ∃ j : Nat, j ≤ n ∧ s14 = .int .i64 j ∧ Hid (P2 wQ)) (fun s14 _ => n - (intOf s14).toNat)
                      case atStart => exact ⟨0, Nat.zero_le _, rfl, G2⟩
                      case round =>
                        obtain ⟨j, hj, rfl, HP2⟩ := hrel
                        obtain ⟨w14, hw14⟩ : ∃ v, v = wr := ⟨_, rfl⟩
                        rw [← hw14] at HP2 ⊢
                        clear hw14
                        by_cases hjn : j < n
                        · as_aux_lemma =>
                          obtain ⟨⟨p0, p1⟩, hB2⟩ := P2t.out _ HP2.out
                          obtain ⟨⟨y0, y1⟩, hA2⟩ := P1t.out _ (P2f.out _ HP2.out)
                          obtain ⟨p, hp⟩ : ∃ p, p = LN + j := ⟨_, rfl⟩
                          obtain ⟨m1, hm1⟩ : ∃ m, m = n - 1 := ⟨_, rfl⟩
                          obtain ⟨q, hq⟩ : ∃ q, q = n - 1 - j := ⟨_, rfl⟩
                          have hpl : p < dx.length := by have := HRV.out.2.2.1; have := HLN.out; omega
                          have hqn : q < n := by omega
                          have zA := ld_cell hA2 (k := p) (by rw [HA.out.2]; exact hpl)
                          have zB := ld_cell hB2 (k := q) (by rw [HRV.out.2.2.2.1]; exact hqn)
                          rw [hq, HRV.out.2.2.2.2.1 j hjn, ← hp, ← hq] at zB
                          generalize AN.getD p 0 = v at *
                          have e1 : wrap64 ((n : Int) - 1) = (m1 : Int) ∧ IntKind.i64.wrap ((n : Int) - 1) = (m1 : Int) := by
                            rw [show (n : Int) - 1 = (m1 : Int) by omega]; exact wrp (by omega)
                          have e2 : wrap64 ((m1 : Int) - (j : Int)) = (q : Int) ∧ IntKind.i64.wrap ((m1 : Int) - (j : Int)) = (q : Int) := by
                            rw [show (m1 : Int) - (j : Int) = (q : Int) by omega]; exact wrp (by omega)
                          have e3 : wrap64 ((LN : Int) + (j : Int)) = (p : Int) ∧ IntKind.i64.wrap ((LN : Int) + (j : Int)) = (p : Int) := by
                            rw [show (LN : Int) + (j : Int) = (p : Int) by omega]; exact wrp (by omega)
                          obtain ⟨e1a, e1b⟩ := e1
                          obtain ⟨e2a, e2b⟩ := e2
                          obtain ⟨e3a, e3b⟩ := e3
                          clear hA2 hB2 hp hm1 hq
                          go_upto_region 27 with fail
                          go_cut [162] (fun s162 wx => s162 = .bool false ∧ Hid (P2 wx))
                          case first =>
                            as_aux_lemma =>
                            go_quiet (fail)
                            go_wp2
                            go_meet
                            exact ⟨rfl, Lib.hid (P2n.out _ _ HP2.out (below_drw (Below.refl _ _) _))⟩
                          case rest =>
                            as_aux_lemma =>
                            clear e1a e1b e2a e2b e3a e3b zA zB y0 y1 p0 p1
                            obtain ⟨rfl, HP3⟩ := hcut
                            go_wp2
                            exact ⟨⟨j + 1, by omega, by go_num, HP3⟩, by simp [intOf]; omega⟩
                        · as_aux_lemma =>
                          have hjn2 : j = n := by omega
                          obtain ⟨LN2, hLN2⟩ : ∃ m, m = LN + n := ⟨_, rfl⟩
                          have h24 : LN2 ≤ 24 ∧ LN2 = (l + 1) * n ∧ l + 1 ≤ N := by
                            have h1 := HRV.out.2.2.1
                            have h2 := HLN.out
                            have h3 := HW.out.2.2.2.1
                            rw [Nat.add_mul, Nat.one_mul]
                            refine ⟨by omega, by omega, Nat.lt_of_not_le fun h => ?_⟩
                            have := Nat.mul_le_mul_right n h
                            omega
                          have e3 : wrap64 ((LN : Int) + (n : Int)) = (LN2 : Int) ∧ IntKind.i64.wrap ((LN : Int) + (n : Int)) = (LN2 : Int) := by
                            rw [show (LN : Int) + (n : Int) = (LN2 : Int) by omega]; exact wrp (by omega)
                          have H24 := Lib.hid (And.intro h24 hLN2)
                          obtain ⟨e3a, e3b⟩ := e3
                          clear h24 hLN2
                          go_wp2
                          clear e3a e3b
                          exact ⟨⟨l + 1, LN2, H24.out.1.2.2, rfl, H24.out.1.1, Lib.hid H24.out.1.2.1, Lib.hid (P2f.out _ HP2.out)⟩, by have := H24.out.2; simp [intOf]; omega⟩
              · as_aux_lemma =>
                go_wp2
                exact ⟨⟨k + 1, by omega, by go_num, hB.trans ((FRb.out _ (P1f.out _ HP1.out)).mono hBs)⟩, by simp [intOf]; omega⟩
    · as_aux_lemma =>
      by_cases g1 : k < len
      · have g2 : 4 ≤ k := by omega
        clear g
        go_wp2_with (go_at_call 12; (with_reducible refine (wakes14_any _).mono ?_); rintro e w9 ⟨rfl, hb9⟩)
        go_ret
        exact ⟨rfl, hB.trans (hb9.mono hBs)⟩
      · have g2 : len ≤ k := by omega
        clear g g1
        go_wp2_with (go_at_call 12; (with_reducible refine (wakes14_any _).mono ?_); rintro e w9 ⟨rfl, hb9⟩)
        go_ret
        exact ⟨rfl, hB.trans (hb9.mono hBs)⟩
end Go.Proofs.Ytimmgmhgahbcbaa
