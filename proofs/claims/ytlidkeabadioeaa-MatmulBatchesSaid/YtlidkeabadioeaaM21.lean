/-
  MatmulBatches' loop.
-/
import Derived.BigQuiet
import Derived.Deep.RegionHeld3
import Derived.Test.YtlidkeabadioeaaM01
import Derived.Test.YtlidkeabadioeaaM17
import Derived.Test.YtlidkeabadioeaaM20
namespace Go.Proofs.Ytlidkeabadioeaa
open Go.RowKit Go.Shelf


set_option maxRecDepth 100000 in
set_option maxHeartbeats 6000000 in
theorem matmulbatches_any (bb oo len cap : Nat) (es : Nat → Mk) (w : World) (_hl : len ≤ 9223372036854775807) (hb : bb < w.heap.size) (hT : ∀ i, i < len → MkAt w bb (oo + i * 5) (es i)) (hok : ∀ i, i < len → (es i).ok w) :
    Calls Try.prog 5 #[.slice (some ⟨bb, oo, none⟩) len cap] w fun e w' => e = .returned (.bool true) ∧ Below w.heap.size w w' := by
  have HT := Lib.hid (And.intro hT hok)
  clear hT hok
  go_enter Try.func5, Try.ntmps5
  go_wp2
  go_loopw [3] (fun s3 wQ => ∃ k : Nat, k ≤ len ∧ s3 = .int .i64 k ∧ Below w.heap.size w wQ) (fun s3 _ => len - (intOf s3).toNat)
  case atStart => exact ⟨0, Nat.zero_le _, rfl, Below.refl _ _⟩
  case round =>
    obtain ⟨k, hk, rfl, hB⟩ := hrel
    have hBs := hB.size
    obtain ⟨w1, hw1⟩ : ∃ w1, w1 = wr := ⟨_, rfl⟩
    subst hw1
    by_cases g : k < len ∧ k < 6
    · obtain ⟨g1, g2⟩ := g
      obtain ⟨t0, t1, t2, t3, t4⟩ := (HT.out.1 k (by omega)).below hB hb
      obtain ⟨⟨hA, hX, hV, hY⟩, ⟨l0, l1, l2, l3⟩, ⟨a0, a1⟩⟩ := HT.out.2 k (by omega)
      replace hA := hA.below hB
      replace hX := hX.below hB
      replace hV := hV.below hB
      replace hY := hY.below hB
      generalize es k = p at *
      obtain ⟨vA, vX, vB, vY, sa, da, sb, db, f⟩ := p
      simp only at t0 t1 t2 t3 t4 hA hX hV hY l0 l1 l2 l3 a0 a1
      obtain ⟨oA, cA, rfl, _, _⟩ := id hA
      obtain ⟨oX, cX, rfl, _, hxX⟩ := id hX
      obtain ⟨oB, cB, rfl, _, _⟩ := id hV
      obtain ⟨oY, cY, rfl, _, hxY⟩ := id hY
      have HXX := Lib.hid (And.intro hxX hxY)
      clear hxX hxY
      have K0 := Lib.hid (fun o => (Below.refl w1.heap.size w1).alloc (Nat.le_refl _) o)
      have K4 := Lib.hid (Blk.new w1 28 #[.slice oA sa.length cA, .slice oX da.length cX, .slice oB sb.length cB, .slice oY db.length cY, .int .i64 f])
      obtain ⟨FR, hFR⟩ : ∃ FR : World → Prop, FR = fun W => Below w1.heap.size w1 W ∧ Blk W w1.heap.size 28 #[.slice oA sa.length cA, .slice oX da.length cX, .slice oB sb.length cB, .slice oY db.length cY, .int .i64 f] := ⟨_, rfl⟩
      have FRb : Hid (∀ W, FR W → Below w1.heap.size w1 W) := Lib.hid (fun W h => by rw [hFR] at h; exact h.1)
      have FRk := Lib.hid (fun (W : World) (h : FR W) => blk5m (by rw [hFR] at h; exact h.2 : Blk W w1.heap.size 28 #[.slice oA sa.length cA, .slice oX da.length cX, .slice oB sb.length cB, .slice oY db.length cY, .int .i64 f]))
      have FRn : Hid (∀ W W', FR W → Below W.heap.size W W' → FR W') := Lib.hid (fun W W' h hb => by rw [hFR] at h ⊢; exact ⟨h.1.trans (hb.mono h.1.size), h.2.below hb h.2.lt⟩)
      have FRl : Hid (∀ W, FR W → w1.heap.size < W.heap.size) := Lib.hid (fun W h => by rw [hFR] at h; exact h.2.lt)
      have FRs : Hid (∀ W, Below (w1.alloc (.cells #[.slice oA sa.length cA, .slice oX da.length cX, .slice oB sb.length cB, .slice oY db.length cY, .int .i64 f] 28)).heap.size (w1.alloc (.cells #[.slice oA sa.length cA, .slice oX da.length cX, .slice oB sb.length cB, .slice oY db.length cY, .int .i64 f] 28)) W → FR W) := Lib.hid (fun W h => by rw [hFR]; exact ⟨(K0.out _).trans (h.mono (by simp)), K4.out.below h K4.out.lt⟩)
      clear hFR
      have LG := Lib.hid (fun (W : World) (hW : Below w1.heap.size w1 W) => heavy10_any _ _ _ _ sa da sb db f W (hA.below hW) (hX.below hW) (hV.below hW) (hY.below hW) (by omega) (by omega) (by omega) (by omega))
      cases lg : (hv8 40 sa da || hv8 40 sb db) with
      | true =>
        as_aux_lemma =>
        rw [lg] at LG
        clear lg hA hX hV hY
        go_wp2_with (go_at_call 11; (with_reducible refine (LG.out _ (K0.out _)).mono ?_); rintro e w2 ⟨rfl, hb2⟩; have F2 := Lib.hid (FRs.out _ hb2); obtain ⟨x0, x1, x2, x3, x4⟩ := FRk.out _ F2.out; clear hb2)
        go_ret
        exact ⟨rfl, hB.trans ((FRb.out _ F2.out).mono hBs)⟩
      | false =>
        rw [lg] at LG
        have na := hv10_no lg
        have HL := Lib.hid (And.intro hA (And.intro hX (And.intro hV hY)))
        have KMA := Lib.hid (fun (W : World) (hW : Below w1.heap.size w1 W) => rmay8_any _ _ sa da W (hA.below hW) (hX.below hW) (by omega) (by omega))
        have KMB := Lib.hid (fun (W : World) (hW : Below w1.heap.size w1 W) => rmay8_any _ _ sb db W (hV.below hW) (hY.below hW) (by omega) (by omega))
        clear lg hA hX hV hY
        cases ta : tnb sa da with
        | false =>
          as_aux_lemma =>
          rw [ta] at KMA
          clear ta
          go_wp2_with (first | (go_at_call 11; (with_reducible refine (LG.out _ (K0.out _)).mono ?_); rintro e w2 ⟨rfl, hb2⟩; have F2 := Lib.hid (FRs.out _ hb2); obtain ⟨x0, x1, x2, x3, x4⟩ := FRk.out _ F2.out; clear hb2) | (go_at_call 12; (with_reducible refine (KMA.out _ (FRb.out _ F2.out)).mono ?_); rintro e w4 ⟨rfl, hb4⟩; have F4 := Lib.hid (FRn.out _ _ F2.out hb4); obtain ⟨x0, x1, x2, x3, x4⟩ := FRk.out _ F4.out; clear hb4))
          exact ⟨⟨k + 1, by omega, by go_num, hB.trans ((FRb.out _ F4.out).mono hBs)⟩, by simp [intOf]; omega⟩
        | true =>
          rw [ta] at KMA
          cases tb : tnb sb db with
          | false =>
            as_aux_lemma =>
            rw [tb] at KMB
            clear ta tb
            go_wp2_with (first | (go_at_call 11; (with_reducible refine (LG.out _ (K0.out _)).mono ?_); rintro e w2 ⟨rfl, hb2⟩; have F2 := Lib.hid (FRs.out _ hb2); obtain ⟨x0, x1, x2, x3, x4⟩ := FRk.out _ F2.out; clear hb2) | (go_at_call 12; (with_reducible refine (KMA.out _ (FRb.out _ F2.out)).mono ?_); rintro e w4 ⟨rfl, hb4⟩; have F4 := Lib.hid (FRn.out _ _ F2.out hb4); obtain ⟨x0, x1, x2, x3, x4⟩ := FRk.out _ F4.out; clear hb4) | (go_at_call 12; (with_reducible refine (KMB.out _ (FRb.out _ F4.out)).mono ?_); rintro e w5 ⟨rfl, hb5⟩; have F5 := Lib.hid (FRn.out _ _ F4.out hb5); obtain ⟨x0, x1, x2, x3, x4⟩ := FRk.out _ F5.out; clear hb5))
            exact ⟨⟨k + 1, by omega, by go_num, hB.trans ((FRb.out _ F5.out).mono hBs)⟩, by simp [intOf]; omega⟩
          | true =>
            rw [tb] at KMB
            by_cases hr : sa.length = 3
            · skip
              as_aux_lemma =>
              obtain ⟨K, r, n, hrn, hK, hr1, hn1⟩ := three_of hr (tnb_parts ta).1
              have la := (tnb_parts ta).2.1
              have hdl : da.length = K * (r * n) := by rw [hrn, prod3] at la; omega
              have hda1 : 1 ≤ da.length := by have := may_prod (tnb_parts ta).1; omega
              have hdb1 : 1 ≤ db.length := by have := may_prod (tnb_parts tb).1; have := (tnb_parts tb).2.1; omega
              obtain ⟨fN, hfN⟩ : ∃ fN : Nat, (fN : Int) = 8 + f % 18446744073709551616 % 25 := ⟨(8 + f % 18446744073709551616 % 25).toNat, by omega⟩
              have hfb : fb fN = true := fb_mk (by omega)
              have KFF : Hid (∀ W : World, Calls Try.prog 13 #[.int .i64 f] W fun e w' => e = .returned (.int .i64 (fN : Int)) ∧ W = w') := Lib.hid (fun W => by rw [hfN]; exact ff_any f W)
              obtain ⟨gA, fA, hoA, _⟩ := ld_at HL.out.1 (k := 0) (by omega)
              subst hoA
              obtain ⟨gX, fX, hoX, _⟩ := ld_at HL.out.2.1 (k := 0) (by omega)
              subst hoX
              obtain ⟨gY, fY, hoY, _⟩ := ld_at HL.out.2.2.2 (k := 0) (by omega)
              subst hoY
              have HLW : Hid (∀ W, FR W → Ld W (.slice (some ⟨gA, fA, none⟩) sa.length cA) sa ∧ Ld W (.slice (some ⟨gX, fX, none⟩) da.length cX) da ∧ Ld W (.slice oB sb.length cB) sb ∧ Ld W (.slice (some ⟨gY, fY, none⟩) db.length cY) db) := Lib.hid (fun W h => ⟨HL.out.1.below (FRb.out _ h), HL.out.2.1.below (FRb.out _ h), HL.out.2.2.1.below (FRb.out _ h), HL.out.2.2.2.below (FRb.out _ h)⟩)
              have HSA : Hid (∀ W, FR W → W.cell? ⟨gA, fA, none⟩ = some (.int .i64 (K : Int)) ∧ W.cell? ⟨gA, fA + 1, none⟩ = some (.int .i64 (r : Int)) ∧ W.cell? ⟨gA, fA + 2, none⟩ = some (.int .i64 (n : Int))) := Lib.hid (fun W h => by
                have h0 := ld_cell (HLW.out W h).1 (k := 0) (by omega)
                have h1 := ld_cell (HLW.out W h).1 (k := 1) (by omega)
                have h2 := ld_cell (HLW.out W h).1 (k := 2) (by omega)
                have e0 : sa.getD 0 0 = (K : Int) := by rw [hrn]; rfl
                have e1 : sa.getD 1 0 = (r : Int) := by rw [hrn]; rfl
                have e2 : sa.getD 2 0 = (n : Int) := by rw [hrn]; rfl
                rw [e0, Nat.add_zero] at h0
                rw [e1] at h1
                rw [e2] at h2
                exact ⟨h0, h1, h2⟩)
              obtain ⟨E, hE⟩ : ∃ E, E = mue sa da sb db fN := ⟨_, rfl⟩
              obtain ⟨S, hS⟩ : ∃ S, S = msh sa sb := ⟨_, rfl⟩
              obtain ⟨LQ, hLQ⟩ : ∃ L, L = muw sa da sb db fN := ⟨_, rfl⟩
              obtain ⟨M, hM⟩ : ∃ M, M = mse sa sb := ⟨_, rfl⟩
              obtain ⟨mS, hmS⟩ : ∃ m, m = (unl E S).length := ⟨_, rfl⟩
              obtain ⟨mL, hmL⟩ : ∃ m, m = (unl E LQ).length := ⟨_, rfl⟩
              obtain ⟨m2, hm2⟩ : ∃ m, m = (unl M S).length := ⟨_, rfl⟩
              have K1 : Hid (∀ W, FR W → Calls Try.prog 18 #[.agg #[.slice (some ⟨gA, fA, none⟩) sa.length cA, .slice (some ⟨gX, fX, none⟩) da.length cX], .agg #[.slice oB sb.length cB, .slice (some ⟨gY, fY, none⟩) db.length cY], .int .i64 (fN : Int)] W (TyL W E (unl E S) mS (unl E LQ) mL)) := Lib.hid (fun W h => by
                have q := mul_all _ _ _ _ sa da sb db fN W (HLW.out _ h).1 (HLW.out _ h).2.1 (HLW.out _ h).2.2.1 (HLW.out _ h).2.2.2 ta tb hfb
                rw [← hE, ← hS, ← hLQ] at q
                exact q.mono (fun _ _ hh => tyL_of hmS hmL hh))
              have KMS : Hid (∀ W, FR W → Calls Try.prog 22 #[.slice (some ⟨gA, fA, none⟩) sa.length cA, .slice oB sb.length cB] W (fun e w' => ∃ o c, e = .returned (.tuple #[.slice o m2 c, .int .i64 M]) ∧ Ld w' (.slice o m2 c) (unl M S) ∧ Below W.heap.size W w')) := Lib.hid (fun W h => by
                have q := rmulshape_any _ _ sa sb W (HLW.out _ h).1 (HLW.out _ h).2.2.1 (tnb_parts ta).1 (tnb_parts tb).1
                rw [← hM, ← hS] at q
                exact q.mono (fun _ _ hh => someSh_named hm2 hh))
              have HX := Lib.hid (And.intro (And.intro ta (And.intro tb hfb)) (And.intro hrn (And.intro hr (And.intro hK (And.intro hr1 hn1)))))
              have HEQ := Lib.hid (And.intro hE (And.intro hS (And.intro hLQ (And.intro hM (And.intro hmS (And.intro hmL hm2))))))
              have hz1 : ((sa.length : Int) != 3) = false := by simp [hr]
              have hz3 : (1 : Int) < (sa.length : Int) := by omega
              have hz4 : (0 : Int) < (sa.length : Int) := by omega
              have hz5 : (2 : Int) < (sa.length : Int) := by omega
              have hz6 : 0 < sa.length := by omega
              have hz7 : 1 < sa.length := by omega
              have hz8 : 2 < sa.length := by omega
              clear hr ta tb hrn hK hr1 hn1 la hdl hda1 hdb1 hfb hfN hE hS hLQ hM hmS hmL hm2 na
              go_upto_region 9 with (first | (go_at_call 11; (with_reducible refine (LG.out _ (K0.out _)).mono ?_); rintro e w2 ⟨rfl, hb2⟩; have F2 := Lib.hid (FRs.out _ hb2); obtain ⟨x0, x1, x2, x3, x4⟩ := FRk.out _ F2.out; clear hb2) | (go_at_call 12; (with_reducible refine (KMA.out _ (FRb.out _ F2.out)).mono ?_); rintro e w4 ⟨rfl, hb4⟩; have F4 := Lib.hid (FRn.out _ _ F2.out hb4); obtain ⟨x0, x1, x2, x3, x4⟩ := FRk.out _ F4.out; clear hb4) | (go_at_call 12; (with_reducible refine (KMB.out _ (FRb.out _ F4.out)).mono ?_); rintro e w5 ⟨rfl, hb5⟩; have F5 := Lib.hid (FRn.out _ _ F4.out hb5); obtain ⟨x0, x1, x2, x3, x4⟩ := FRk.out _ F5.out; clear hb5) | (go_at_call 13; (with_reducible refine (KFF.out _).mono ?_); rintro e w' ⟨rfl, rfl⟩))
              as_aux_lemma =>
              have P0n := FRn
              obtain ⟨P0, hP0⟩ : ∃ P : World → Prop, P = FR := ⟨_, rfl⟩
              subst hP0
              clear x0 x1 x2 x3 x4 LG KMA KMB K0 FRs F2 F4
              obtain ⟨x0, x1, x2, x3, x4⟩ := FRk.out _ F5.out
              go_upto_region 10 with (go_at_call 18; (with_reducible refine (K1.out _ F5.out).mono ?_); rintro e wz1 ⟨os1, cs1, od1, cd1, rfl, h1, h2, hb⟩; have U1 := Lib.hid (And.intro (P0n.out _ _ F5.out hb) (And.intro h1 h2)); clear h1 h2 hb)
              obtain ⟨v1, hv⟩ : ∃ v, v = wz1.alloc (.cells #[.slice os1 mS cs1, .slice od1 mL cd1] 26) := ⟨_, rfl⟩
              obtain ⟨T1, hT⟩ : ∃ T, T = wz1.heap.size := ⟨_, rfl⟩
              rw [← hv, ← hT]
              obtain ⟨P1, hP⟩ : ∃ P : World → Prop, P = fun W => P0 W ∧ Blk W T1 26 #[.slice os1 mS cs1, .slice od1 mL cd1] ∧ Ld W (.slice os1 mS cs1) (unl E S) ∧ Ld W (.slice od1 mL cd1) (unl E LQ) := ⟨_, rfl⟩
              have G1 : Hid (P1 v1) := Lib.hid (by rw [hP]; exact ⟨by rw [hv]; exact P0n.out _ _ U1.out.1 (al_below _), by rw [hv, hT]; exact Blk.new _ _ _, by rw [hv]; exact U1.out.2.1.below (al_below _), by rw [hv]; exact U1.out.2.2.below (al_below _)⟩)
              have P1f : Hid (∀ W, P1 W → P0 W) := Lib.hid (fun W h => by rw [hP] at h; exact h.1)
              have P1n : Hid (∀ W W', P1 W → Below W.heap.size W W' → P1 W') := Lib.hid (fun W W' h hb => by rw [hP] at h ⊢; exact ⟨P0n.out _ _ h.1 hb, h.2.1.below hb h.2.1.lt, h.2.2.1.below hb, h.2.2.2.below hb⟩)
              have P1t : Hid (∀ W, P1 W → (W.cell? ⟨T1, 0, none⟩ = some (.slice os1 mS cs1) ∧ W.cell? ⟨T1, 1, none⟩ = some (.slice od1 mL cd1)) ∧ Ld W (.slice os1 mS cs1) (unl E S) ∧ Ld W (.slice od1 mL cd1) (unl E LQ)) := Lib.hid (fun W h => by rw [hP] at h; exact ⟨⟨(blk2 h.2.1).1, (blk2 h.2.1).2.1⟩, h.2.2⟩)
              clear hP
              clear hv hT U1 x0 x1 x2 x3 x4
              obtain ⟨x0, x1, x2, x3, x4⟩ := FRk.out _ (P1f.out _ G1.out)
              go_upto_region 11 with (go_at_call 22; (with_reducible refine (KMS.out _ (P1f.out _ G1.out)).mono ?_); rintro e q1 ⟨oS, cS, rfl, h1, hb⟩; have GQ := Lib.hid (P1n.out _ _ G1.out hb); have HLS := Lib.hid h1; clear h1 hb)
              clear x0 x1 x2 x3 x4
              by_cases hM0 : M = 0
              · by_cases hE0 : E = 0
                · skip
                  as_aux_lemma =>
                  subst hM0
                  subst hE0
                  obtain ⟨⟨ta, tb, hfb⟩, hrn, hr, hK, hr1, hn1⟩ := HX.out
                  obtain ⟨hE, hS, hLQ, hM, hmS, hmL, hm2⟩ := HEQ.out
                  have hmu := hE.symm
                  obtain ⟨hfit, hmay, _⟩ := mue_ok hmu
                  have hfl := mfit_len hfit
                  obtain ⟨c, hc⟩ : ∃ c : Nat, sb.getD (sb.length - 1) 0 = (c : Int) ∧ 1 ≤ c := by
                    have h := may_dim (tnb_parts tb).1 (i := sb.length - 1) (by omega)
                    exact ⟨(sb.getD (sb.length - 1) 0).toNat, by rw [Int.toNat_of_nonneg (by omega)], by omega⟩
                  have hS2 : S = [(K : Int), (r : Int), (c : Int)] := by rw [hS]; unfold msh; rw [hc.1, hrn]; rfl
                  have hS3 : unl 0 S = [(K : Int), (r : Int), (c : Int)] := hS2
                  have hLQ2 : unl 0 LQ = LQ := rfl
                  have hmS3 : mS = 3 := by rw [hmS, hS3]; rfl
                  have hm23 : m2 = 3 := by rw [hm2, hS3]; rfl
                  have hmay3 : may [(K : Int), (r : Int), (c : Int)] = true := by rw [← hS2, hS]; exact hmay
                  obtain ⟨nt, hnt⟩ : ∃ m, m = r * c := ⟨_, rfl⟩
                  obtain ⟨na, hna⟩ : ∃ m, m = r * n := ⟨_, rfl⟩
                  have hlq : LQ.length = K * nt := by rw [hLQ, muw_len]; unfold mun; rw [← hS, hS2, prod3, Int.toNat_natCast, hnt]
                  have hmLq : mL = K * nt := by rw [hmL, hLQ2, hlq]
                  have hKnt : K * nt ≤ 65536 := by have := may_prod hmay3; rw [prod3, ← hnt] at this; omega
                  have hKna : K * na ≤ 65536 := by have h := may_prod (tnb_parts ta).1; rw [hrn, prod3, ← hna] at h; omega
                  have hnt1 : 1 ≤ nt := by rw [hnt]; exact Nat.mul_pos (by omega) (by omega)
                  have hna1 : 1 ≤ na := by rw [hna]; exact Nat.mul_pos (by omega) (by omega)
                  have hntm : nt ≤ 65536 := by have := Nat.mul_le_mul_right nt hK.1; omega
                  have hnam : na ≤ 65536 := by have := Nat.mul_le_mul_right na hK.1; omega
                  subst hmS3
                  subst hm23
                  rw [hS3] at HLS
                  have hdl : da.length = K * na := by have h := (tnb_parts ta).2.1; rw [hrn, prod3, ← hna] at h; omega
                  obtain ⟨gS, fS, hoS, _⟩ := ld_at HLS.out (k := 0) (by simp)
                  subst hoS
                  have HSS : Hid (q1.cell? ⟨gS, fS + 1, none⟩ = some (.int .i64 (r : Int)) ∧ q1.cell? ⟨gS, fS + 2, none⟩ = some (.int .i64 (c : Int))) := Lib.hid ⟨ld_cell HLS.out (k := 1) (by simp), ld_cell HLS.out (k := 2) (by simp)⟩
                  have hb2 : 2 ≤ sb.length := by omega
                  obtain ⟨gB, fB, hoB, _⟩ := ld_at HL.out.2.2.1 (k := 0) (by omega)
                  subst hoB
                  have KCT : Hid (∀ W, Below q1.heap.size q1 W → Calls Try.prog 23 #[.slice (some ⟨gS, fS, none⟩) 3 cS] W fun e w' => e = .returned (.int .i64 (mL : Int)) ∧ w' = W) := Lib.hid (fun W h => by
                    have q := rcount_any _ _ W (HLS.out.below h) (may_dms hmay3) (by simp)
                    rw [rct_may hmay3, prod3, ← hnt, ← hmLq] at q
                    exact q.mono fun _ _ h => ⟨h.1, h.2.symm⟩)
                  have HWN := Lib.hid (And.intro (nat_wrap hna hnam) (nat_wrap hnt hntm))
                  have bm : ((mL : Int) != (mL : Int)) = false := by simp
                  have HNA := Lib.hid (And.intro hna1 hnt1)
                  have hlqH : Hid (LQ.length = mL) := Lib.hid (by rw [hlq, hmLq])
                  have HCC := Lib.hid (And.intro (ld_cap HL.out.2.1) (ld_cap HL.out.2.2.2))
                  have HBIG : Hid (∀ j, j ≤ K → j * na ≤ 65536 ∧ j * nt ≤ 65536 ∧ j ≤ 65535) := Lib.hid (fun j hj => by
                    have := Nat.mul_le_mul_right na hj
                    have := Nat.mul_le_mul_right nt hj
                    omega)
                  have HLA : Hid (∀ W, P0 W → Ld W (.slice (some ⟨gA, fA + 1, none⟩) 2 (cA - 1)) [(r : Int), (n : Int)]) := Lib.hid (fun W h => by
                    have q := (HLW.out W h).1
                    rw [hr, hrn] at q
                    exact ld_from q)
                  have rpA : ∀ W : World, (Instr.slice 23 (.slice (some ⟨gA, fA, none⟩) sa.length cA) (some (.int .i64 1)) none none).run Try.prog W = .ok (.slice (some ⟨gA, fA + 1, none⟩) 2 (cA - 1)) W := fun W => by
                    have hc3 := ld_cap HL.out.1
                    rw [hr] at hc3 ⊢
                    exact run_from Try.underlying23 infoN.1 infoN.2 gA fA cA hc3 W
                  have KEW := Lib.hid (fun W va vb lo2 (hl : lo2 + nt ≤ mL) (ha : Ld W va ((LQ.drop lo2).take nt)) (hb : Ld W vb ((LQ.drop lo2).take nt)) => eqw_same va vb _ W ha hb (by rw [drop_take_len (by rw [hlq, ← hmLq]; exact hl)]; omega))
                  have hK4 : K ≤ 4096 := hK.2
                  have HP1L : Hid (∀ W, P1 W → Ld W (.slice od1 mL cd1) LQ) := Lib.hid (fun W h => (P1t.out W h).2.2)
                  -- the walk to the loop
                  have HTT := Lib.hid (And.intro (And.intro ta (And.intro tb hfb)) (And.intro hrn (And.intro hr (And.intro hfl (And.intro hS2 (And.intro hS (And.intro hLQ (And.intro hmu (And.intro hc hmay3)))))))))
                  have HNN := Lib.hid (And.intro hna (And.intro hnt (And.intro hdl (And.intro hlq hmLq))))
                  have HB2 := Lib.hid hb2
                  clear ta tb hfb hrn hr hK hr1 hn1 hE hS hLQ hM hmS hmL hm2 hmu hfit hmay hfl hc hS2 hS3 hLQ2 hmay3 hnt hna hlq hmLq hKnt hKna hnt1 hna1 hntm hnam hdl hb2 KMS K1
                  obtain ⟨x0, x1, x2, x3, x4⟩ := FRk.out _ (P1f.out _ GQ.out)
                  obtain ⟨a0, a1, a2⟩ := HSA.out _ (P1f.out _ GQ.out)
                  go_upto_region 12 with (go_at_call 15; (with_reducible refine (num10_any _ _).mono ?_); rintro e w' ⟨rfl, rfl⟩)
                  go_cut [10] (fun s10 wx => s10 = .int .i64 (na : Int) ∧ Hid (Below q1.heap.size q1 wx))
                  case first =>
                    as_aux_lemma =>
                    obtain ⟨⟨e1, e2⟩, _⟩ := HWN.out
                    go_quiet (fail)
                    go_wp2
                    go_meet
                    exact ⟨rfl, Lib.hid (below_drw (Below.refl _ _) _)⟩
                  case rest =>
                    as_aux_lemma =>
                    obtain ⟨rfl, Y1⟩ := hcut
                    obtain ⟨q2, hq2⟩ : ∃ v, v = wc := ⟨_, rfl⟩
                    rw [← hq2] at Y1 ⊢
                    clear hq2 x0 x1 x2 x3 x4 a0 a1 a2
                    have s1 := (ld_cell (HLS.out.below Y1.out) (k := 1) (by simp) : q2.cell? ⟨gS, fS + 1, none⟩ = some (.int .i64 (r : Int)))
                    have s2 := (ld_cell (HLS.out.below Y1.out) (k := 2) (by simp) : q2.cell? ⟨gS, fS + 2, none⟩ = some (.int .i64 (c : Int)))
                    go_upto_region 13 with fail
                    go_cut [11] (fun s11 wx => s11 = .int .i64 (nt : Int) ∧ Hid (Below q1.heap.size q1 wx))
                    case first =>
                      as_aux_lemma =>
                      obtain ⟨_, e1, e2⟩ := HWN.out
                      go_quiet (fail)
                      go_wp2
                      go_meet
                      exact ⟨rfl, Lib.hid (below_drw Y1.out _)⟩
                    case rest =>
                      as_aux_lemma =>
                      obtain ⟨rfl, Y2⟩ := hcut
                      obtain ⟨q3, hq3⟩ : ∃ v, v = wc := ⟨_, rfl⟩
                      rw [← hq3] at Y2 ⊢
                      clear hq3 s1 s2 Y1
                      have GQ3 := Lib.hid (P1n.out _ _ GQ.out Y2.out)
                      obtain ⟨⟨y1_0, y1_1⟩, _⟩ := P1t.out _ GQ3.out
                      go_upto_region 14 with fail
                      go_cut [103] (fun s103 wx => s103 = .bool false ∧ Hid (P1 wx))
                      case first =>
                        as_aux_lemma =>
                        go_quiet ((go_at_call 23; exact Calls.quiet_of_same (KCT.out _ (below_drw Y2.out _))))
                        go_wp2
                        go_meet
                        exact ⟨rfl, Lib.hid (P1n.out _ _ GQ3.out (below_drw (Below.refl _ _) _))⟩
                      case rest =>
                        as_aux_lemma =>
                        obtain ⟨rfl, GL⟩ := hcut
                        clear y1_0 y1_1 Y2 GQ3 GQ HLS HSS KCT
                        go_wp2
                        go_loopw [12] (fun s12 wQ => ∃ j : Nat, j ≤ K ∧ s12 = .int .i64 j ∧ Hid (P1 wQ)) (fun s12 _ => K - (intOf s12).toNat)
                        case atStart => exact ⟨0, Nat.zero_le _, rfl, GL⟩
                        case round =>
                          obtain ⟨j, hj, rfl, HG⟩ := hrel
                          obtain ⟨x0, x1, x2, x3, x4⟩ := FRk.out _ (P1f.out _ HG.out)
                          by_cases hlt : j < K
                          · by_cases hb3 : sb.length = 3
                            · as_aux_lemma =>
                              obtain ⟨⟨ta, tb, hfb⟩, hrn, hr, hfl, hS2, hS, hLQ, hmu, hc, hmay3⟩ := HTT.out
                              obtain ⟨hna, hnt, hdl, hlq, hmLq⟩ := HNN.out
                              have hbig0 := HBIG.out
                              obtain ⟨K', x, c', hsb, _, hx1, hc1⟩ := three_of hb3 (tnb_parts tb).1
                              have hcc : c = c' := by
                                have h := hc.1
                                rw [hsb] at h
                                have h' : (c' : Int) = (c : Int) := h
                                omega
                              have hxn : n = x := by
                                have h := hfl.2.2.2.2
                                rw [hrn, hsb] at h
                                have h' : (n : Int) = (x : Int) := h
                                omega
                              have hKK : K = K' := by
                                have h := hfl.2.2.2.1
                                rw [hrn, hsb] at h
                                have h' : [(K : Int)] = [(K' : Int)] := h
                                simp only [List.cons.injEq, and_true] at h'
                                omega
                              subst hcc hxn hKK
                              have b3 : ((sb.length : Int) == 3) = true := by simp [hb3]
                              obtain ⟨nb, hnb⟩ : ∃ m, m = n * c := ⟨_, rfl⟩
                              have hdbl : db.length = K * nb := by have h := (tnb_parts tb).2.1; rw [hsb, prod3, ← hnb] at h; omega
                              have hdb6 : db.length ≤ 65536 := by have := (tnb_parts tb).2.1; have := may_prod (tnb_parts tb).1; omega
                              have HDB6 := Lib.hid hdb6
                              have hnb1 : 1 ≤ nb := by rw [hnb]; exact Nat.mul_pos (by omega) (by omega)
                              have HNB1 := Lib.hid hnb1
                              have HNB := Lib.hid (nat_wrap hnb (by have := Nat.mul_le_mul_right nb (show 1 ≤ K by omega); omega))
                              have HPAR : Hid (∀ j, j < K → j * na + na ≤ da.length ∧ j * nt + nt ≤ mL ∧ ∀ (W : World) (vs vd vt ve : Value), Ld W vs [(r : Int), (n : Int)] → Ld W vd ((da.drop (j * na)).take na) → Ld W vt [(n : Int), (c : Int)] → Ld W ve ((db.drop (j * nb)).take nb) → Calls Try.prog 18 #[.agg #[vs, vd], .agg #[vt, ve], .int .i64 (fN : Int)] W (TyL W 0 [(r : Int), (c : Int)] 2 ((LQ.drop (j * nt)).take nt) nt)) := Lib.hid (fun j hj => by
                                have q1 : j * na + na ≤ K * na := by
                                  have := Nat.mul_le_mul_right na (show j + 1 ≤ K from hj)
                                  rwa [Nat.add_mul, Nat.one_mul] at this
                                have q2 : j * nt + nt ≤ K * nt := by
                                  have := Nat.mul_le_mul_right nt (show j + 1 ≤ K from hj)
                                  rwa [Nat.add_mul, Nat.one_mul] at this
                                refine ⟨by rw [hdl]; exact q1, by rw [hmLq]; exact q2, ?_⟩
                                intro W vs vd vt ve h1 h2 h3 h4
                                have q := batch3 (K := K) (r := r) (n := n) (c := c) (x := j) (by rw [← hrn, ← hsb]; exact hmu) hj
                                have pt := part_tnb (A := K) (B := r) (C := n) (x := j) (ds := da) (by rw [← hrn]; exact ta) hj
                                have pb := part_tnb (A := K) (B := n) (C := c) (x := j) (ds := db) (by rw [← hsb]; exact tb) hj
                                rw [← hna] at q pt
                                rw [← hnb] at q pb
                                rw [← hrn, ← hsb, ← hLQ, ← hnt] at q
                                have u := mul_all vs vd vt ve _ _ _ _ fN W h1 h2 h3 h4 pt.1 pb.1 hfb
                                rw [q.1, q.2] at u
                                exact u.mono (fun _ _ hh => tyL_of (S := [(r : Int), (c : Int)]) (D := (LQ.drop (j * nt)).take nt) rfl (drop_take_len (by rw [hlq]; exact q2)).symm hh))
                              have HPAB : Hid (∀ j, j < K → j * nb + nb ≤ db.length) := Lib.hid (fun j hj => by
                                have := Nat.mul_le_mul_right nb (show j + 1 ≤ K from hj)
                                rw [Nat.add_mul, Nat.one_mul] at this
                                omega)
                              have HSB : Hid (∀ W, P0 W → W.cell? ⟨gB, fB, none⟩ = some (.int .i64 (K : Int)) ∧ W.cell? ⟨gB, fB + 1, none⟩ = some (.int .i64 (n : Int)) ∧ W.cell? ⟨gB, fB + 2, none⟩ = some (.int .i64 (c : Int))) := Lib.hid (fun W h => by
                                have h0 := ld_cell (HLW.out W h).2.2.1 (k := 0) (by omega)
                                have h1 := ld_cell (HLW.out W h).2.2.1 (k := 1) (by omega)
                                have h2 := ld_cell (HLW.out W h).2.2.1 (k := 2) (by omega)
                                have e0 : sb.getD 0 0 = (K : Int) := by rw [hsb]; rfl
                                have e1 : sb.getD 1 0 = (n : Int) := by rw [hsb]; rfl
                                have e2 : sb.getD 2 0 = (c : Int) := by rw [hsb]; rfl
                                rw [e0, Nat.add_zero] at h0
                                rw [e1] at h1
                                rw [e2] at h2
                                exact ⟨h0, h1, h2⟩)
                              have HLB : Hid (∀ W, P0 W → Ld W (.slice (some ⟨gB, fB + 1, none⟩) 2 (cB - 1)) [(n : Int), (c : Int)]) := Lib.hid (fun W h => by
                                have q := (HLW.out W h).2.2.1
                                rw [hb3, hsb] at q
                                exact ld_from q)
                              have rpB : ∀ W : World, (Instr.slice 23 (.slice (some ⟨gB, fB, none⟩) sb.length cB) (some (.int .i64 1)) none none).run Try.prog W = .ok (.slice (some ⟨gB, fB + 1, none⟩) 2 (cB - 1)) W := fun W => by
                                have hc3 := ld_cap HL.out.2.2.1
                                rw [hb3] at hc3 ⊢
                                exact run_from Try.underlying23 infoN.1 infoN.2 gB fB cB hc3 W
                              have HRF := Lib.hid (And.intro rpA rpB)
                              have i1 : (1 : Int) < (sb.length : Int) := by omega
                              have i2 : (2 : Int) < (sb.length : Int) := by omega
                              have i3 : 1 < sb.length := by omega
                              have i4 : 2 < sb.length := by omega
                              clear ta tb hfb hrn hr hfl hS2 hS hLQ hmu hc hmay3 hna hnt hdl hlq hmLq hsb hb3 rpA rpB hbig0 hx1 hc1 hnb hdbl hdb6 hnb1
                              obtain ⟨lo, hlo⟩ : ∃ m, m = j * na := ⟨_, rfl⟩
                              obtain ⟨j1, hj1⟩ : ∃ m, m = j + 1 := ⟨_, rfl⟩
                              obtain ⟨hi, hhi⟩ : ∃ m, m = j1 * na := ⟨_, rfl⟩
                              obtain ⟨lo2, hlo2⟩ : ∃ m, m = j * nt := ⟨_, rfl⟩
                              obtain ⟨hi2, hhi2⟩ : ∃ m, m = j1 * nt := ⟨_, rfl⟩
                              have HPA := HPAR.out j hlt
                              have hhl : lo + na = hi := by rw [hhi, hlo, hj1, Nat.add_mul, Nat.one_mul]
                              have hhl2 : lo2 + nt = hi2 := by rw [hhi2, hlo2, hj1, Nat.add_mul, Nat.one_mul]
                              rw [← hlo, ← hlo2] at HPA
                              have hj1K : j1 ≤ K := by omega
                              have hbig := HBIG.out j1 hj1K
                              have hbig2 := HBIG.out j (by omega)
                              rw [← hhi, ← hhi2] at hbig
                              rw [← hlo, ← hlo2] at hbig2
                              have HWR := Lib.hid (And.intro (nat_wrap hlo (by omega)) (And.intro (nat_wrap hhi (by omega)) (And.intro (nat_wrap hlo2 (by omega)) (And.intro (nat_wrap hhi2 (by omega)) (nat_wrap_one hj1 (by omega))))))
                              have HHL := Lib.hid (And.intro hhl (And.intro hhl2 (And.intro HPA.1 HPA.2.1)))
                              have HKM := Lib.hid HPA.2.2
                              have HKB := Lib.hid (HPAB.out j hlt)
                              clear hlo hhi hlo2 hhi2 hhl hhl2 HPA hbig hbig2 hj1K hj1
                              have rp1 := HRF.out.1
                              have rp2 := fun (W : World) => run_part Try.underlying24 info64.1 info64.2 gX fX da.length cX lo hi na HHL.out.1 (by have := HHL.out; have := HCC.out; omega) HNA.out.1 W
                              obtain ⟨a0, a1, a2⟩ := HSA.out _ (P1f.out _ HG.out)
                              go_upto_region 19 with fail
                              have KS : Hid (∀ W, P1 W → W.cell? ⟨w1.heap.size, 0, none⟩ = some (.slice (some ⟨gA, fA, none⟩) sa.length cA) ∧ W.cell? ⟨w1.heap.size, 1, none⟩ = some (.slice (some ⟨gX, fX, none⟩) da.length cX)) := Lib.hid (fun W h => ⟨(FRk.out _ (P1f.out _ h)).1, (FRk.out _ (P1f.out _ h)).2.1⟩)
                              obtain ⟨vr, hvr⟩ : ∃ v, v = wr := ⟨_, rfl⟩
                              rw [← hvr] at HG ⊢
                              clear hvr x0 x1 x2 x3 x4 a0 a1 a2
                              go_cut [13] (fun s13 wx => ∃ TA : Nat, s13 = .pointer (some ⟨TA, 0, none⟩) ∧ Blk wx TA 26 #[.slice (some ⟨gA, fA + 1, none⟩) 2 (cA - 1), .slice (some ⟨gX, fX + lo, none⟩) na (cX - lo)] ∧ Hid (P1 wx))
                              case first =>
                                as_aux_lemma =>
                                obtain ⟨⟨e1, e2⟩, ⟨e3, e4⟩, _, _, e5, e6⟩ := HWR.out
                                have B_0 : Hid (P1 vr.drew) := Lib.hid (P1n.out _ _ HG.out (below_drw (Below.refl _ _) 1))
                                refine wp_region_held_drew (S := fun W => W.cell? ⟨w1.heap.size, 0, none⟩ = some (.slice (some ⟨gA, fA, none⟩) sa.length cA) ∧ W.cell? ⟨w1.heap.size, 1, none⟩ = some (.slice (some ⟨gX, fX, none⟩) da.length cX)) (by kernel_rfl) ?_ (fun hHeld => ?_)
                                · exact KS.out _ B_0.out
                                have hHd := hHeld
                                generalize vr.drew = w_0 at *
                                (refine wpAnyH_take (i := 0) (oi := ⟨some 113, _, _, _, _, _⟩) (v := ?v0_aq1) rfl (by kernel_rfl) (by kernel_rfl) (by kernel_rfl) (fun _ _ _ h => h) (Or.inl ⟨by rfl, ?hy0_aq1⟩) (by assumption) ?rest0_aq1; (case hy0_aq1 => ((intro w hSw); (try dsimp only at hSw); go_simp; first | done | (with_reducible rfl))))
                                (try simp only [Act.put, List.setIfInBounds_toArray, List.set_cons_zero, List.set_cons_succ])
                                (refine wpAnyH_take (i := 1) (oi := ⟨some 114, _, _, _, _, _⟩) (v := ?v1_aq2) rfl (by kernel_rfl) (by kernel_rfl) (by kernel_rfl) (fun _ _ _ h => h) (Or.inl ⟨by rfl, ?hy1_aq2⟩) (by assumption) ?rest1_aq2; (case hy1_aq2 => ((intro w hSw); (try dsimp only at hSw); go_simp; first | done | (with_reducible rfl))))
                                (try simp only [Act.put, List.setIfInBounds_toArray, List.set_cons_zero, List.set_cons_succ])
                                (refine wpAnyH_take (i := 2) (oi := ⟨some 115, _, _, _, _, _⟩) (v := ?v2_aq3) rfl (by kernel_rfl) (by kernel_rfl) (by kernel_rfl) (fun _ _ _ h => h) (Or.inl ⟨by rfl, ?hy2_aq3⟩) (by assumption) ?rest2_aq3; (case hy2_aq3 => ((intro w hSw); (try dsimp only at hSw); go_simp; first | done | (with_reducible rfl))))
                                (try simp only [Act.put, List.setIfInBounds_toArray, List.set_cons_zero, List.set_cons_succ])
                                (refine wpAnyH_take (i := 3) (oi := ⟨some 116, _, _, _, _, _⟩) (v := ?v3_aq4) rfl (by kernel_rfl) (by kernel_rfl) (by kernel_rfl) (fun _ _ _ h => h) (Or.inl ⟨by rfl, ?hy3_aq4⟩) (by assumption) ?rest3_aq4; (case hy3_aq4 => ((intro w hSw); (try dsimp only at hSw); go_simp; first | done | (with_reducible rfl))))
                                (try simp only [Act.put, List.setIfInBounds_toArray, List.set_cons_zero, List.set_cons_succ])
                                (refine wpAnyH_take (i := 4) (oi := ⟨some 117, _, _, _, _, _⟩) (v := ?v4_aq5) rfl (by kernel_rfl) (by kernel_rfl) (by kernel_rfl) (fun _ _ _ h => h) (Or.inl ⟨by rfl, ?hy4_aq5⟩) (by assumption) ?rest4_aq5; (case hy4_aq5 => ((intro w hSw); (try dsimp only at hSw); go_simp; first | done | (with_reducible rfl))))
                                (try simp only [Act.put, List.setIfInBounds_toArray, List.set_cons_zero, List.set_cons_succ])
                                (refine wpAnyH_take (i := 5) (oi := ⟨some 118, _, _, _, _, _⟩) (v := ?v5_aq6) rfl (by kernel_rfl) (by kernel_rfl) (by kernel_rfl) (fun _ _ _ h => h) (Or.inl ⟨by rfl, ?hy5_aq6⟩) (by assumption) ?rest5_aq6; (case hy5_aq6 => ((intro w hSw); (try dsimp only at hSw); go_simp; first | done | (with_reducible rfl))))
                                (try simp only [Act.put, List.setIfInBounds_toArray, List.set_cons_zero, List.set_cons_succ])
                                (refine wpAnyH_take (i := 6) (oi := ⟨some 119, _, _, _, _, _⟩) (v := ?v6_aq7) rfl (by kernel_rfl) (by kernel_rfl) (by kernel_rfl) (fun _ _ _ h => h) (Or.inl ⟨by rfl, ?hy6_aq7⟩) (by assumption) ?rest6_aq7; (case hy6_aq7 => ((intro w hSw); (try dsimp only at hSw); go_simp; first | done | (with_reducible rfl))))
                                (try simp only [Act.put, List.setIfInBounds_toArray, List.set_cons_zero, List.set_cons_succ])
                                (refine wpAnyH_take (i := 7) (oi := ⟨some 120, _, _, _, _, _⟩) (v := ?v7_aq8) rfl (by kernel_rfl) (by kernel_rfl) (by kernel_rfl) (fun _ _ _ h => h) (Or.inl ⟨by rfl, ?hy7_aq8⟩) (by assumption) ?rest7_aq8; (case hy7_aq8 => ((intro w hSw); (try dsimp only at hSw); go_simp; first | done | (with_reducible rfl))))
                                (try simp only [Act.put, List.setIfInBounds_toArray, List.set_cons_zero, List.set_cons_succ])
                                (refine wpAnyH_take (i := 8) (oi := ⟨some 121, _, _, _, _, _⟩) (v := ?v8_aq9) rfl (by kernel_rfl) (by kernel_rfl) (by kernel_rfl) (fun _ _ _ h => h) (Or.inl ⟨by rfl, ?hy8_aq9⟩) (by assumption) ?rest8_aq9; (case hy8_aq9 => ((intro w hSw); (try dsimp only at hSw); go_simp; first | done | (with_reducible rfl))))
                                (try simp only [Act.put, List.setIfInBounds_toArray, List.set_cons_zero, List.set_cons_succ])
                                (refine wpAnyH_take (i := 9) (oi := ⟨some 122, _, _, _, _, _⟩) (v := ?v9_aq10) rfl (by kernel_rfl) (by kernel_rfl) (by kernel_rfl) (fun _ _ _ h => h) (Or.inl ⟨by rfl, ?hy9_aq10⟩) (by assumption) ?rest9_aq10; (case hy9_aq10 => ((intro w hSw); (try dsimp only at hSw); go_simp; first | done | (with_reducible rfl))))
                                (try simp only [Act.put, List.setIfInBounds_toArray, List.set_cons_zero, List.set_cons_succ])
                                (refine wpAnyH_take (i := 10) (oi := ⟨some 123, _, _, _, _, _⟩) (v := ?v10_aq11) rfl (by kernel_rfl) (by kernel_rfl) (by kernel_rfl) (fun _ _ _ h => h) (Or.inl ⟨by rfl, ?hy10_aq11⟩) (by assumption) ?rest10_aq11; (case hy10_aq11 => ((intro w hSw); (try dsimp only at hSw); go_simp; first | done | (with_reducible rfl))))
                                (try simp only [Act.put, List.setIfInBounds_toArray, List.set_cons_zero, List.set_cons_succ])
                                (refine wpAnyH_take (i := 11) (oi := ⟨some 124, _, _, _, _, _⟩) (v := ?v11_aq12) rfl (by kernel_rfl) (by kernel_rfl) (by kernel_rfl) (fun _ _ _ h => h) (Or.inl ⟨by rfl, ?hy11_aq12⟩) (by assumption) ?rest11_aq12; (case hy11_aq12 => ((intro w hSw); (try dsimp only at hSw); go_simp; first | done | (with_reducible rfl))))
                                (try simp only [Act.put, List.setIfInBounds_toArray, List.set_cons_zero, List.set_cons_succ])
                                (refine wpAnyH_take (i := 12) (oi := ⟨some 125, _, _, _, _, _⟩) (v := ?v12_aq13) rfl (by kernel_rfl) (by kernel_rfl) (by kernel_rfl) (fun _ _ _ h => h) (Or.inl ⟨by rfl, ?hy12_aq13⟩) (by assumption) ?rest12_aq13; (case hy12_aq13 => ((intro w hSw); (try dsimp only at hSw); go_simp; first | done | (with_reducible rfl))))
                                (try simp only [Act.put, List.setIfInBounds_toArray, List.set_cons_zero, List.set_cons_succ])
                                (refine wpAnyH_take (i := 13) (oi := ⟨some 126, _, _, _, _, _⟩) (v := ?v13_aq14) rfl (by kernel_rfl) (by kernel_rfl) (by kernel_rfl) (fun _ _ _ h => h) (Or.inl ⟨by rfl, ?hy13_aq14⟩) (by assumption) ?rest13_aq14; (case hy13_aq14 => ((intro w hSw); (try dsimp only at hSw); go_simp; first | done | (with_reducible rfl))))
                                (try simp only [Act.put, List.setIfInBounds_toArray, List.set_cons_zero, List.set_cons_succ])
                                (refine wpAnyH_take (i := 14) (oi := ⟨some 127, _, _, _, _, _⟩) (v := ?v14_aq15) rfl (by kernel_rfl) (by kernel_rfl) (by kernel_rfl) (fun _ _ _ h => h) (Or.inl ⟨by rfl, ?hy14_aq15⟩) (by assumption) ?rest14_aq15; (case hy14_aq15 => ((intro w hSw); (try dsimp only at hSw); go_simp; first | done | (with_reducible rfl))))
                                (try simp only [Act.put, List.setIfInBounds_toArray, List.set_cons_zero, List.set_cons_succ])
                                (refine wpAnyH_take (i := 15) (oi := ⟨some 128, _, _, _, _, _⟩) (v := ?v15_aq16) rfl (by kernel_rfl) (by kernel_rfl) (by kernel_rfl) (fun _ _ _ h => h) (Or.inl ⟨by rfl, ?hy15_aq16⟩) (by assumption) ?rest15_aq16; (case hy15_aq16 => ((intro w hSw); (try dsimp only at hSw); go_simp; first | done | (with_reducible rfl))))
                                (try simp only [Act.put, List.setIfInBounds_toArray, List.set_cons_zero, List.set_cons_succ])
                                refine wpAnyH_ready (rs := [16]) (by kernel_rfl) (by simp) ?_
                                refine AllReadyH.cons (o := ⟨some 13, _, _, _, _, _⟩) rfl (fun K hK => ?_) (AllReadyH.nil)
                                go_simp
                                have Z_1 := Lib.hid (Blk.new w_0 26 #[.slice none 0 0, .slice none 0 0])
                                have Y_1 := Lib.hid (al_below (W := w_0) (.cells #[.slice none 0 0, .slice none 0 0] 26))
                                have ZS := Lib.hid (Nat.le_refl w_0.heap.size)
                                refine hK.out _ _ ?_ (fun hHeld => ?_)
                                · (try dsimp only)
                                  exact KS.out _ (P1n.out _ _ B_0.out Y_1.out)
                                clear hK K
                                generalize w_0.alloc (.cells #[.slice none 0 0, .slice none 0 0] 26) = w_1 at *
                                (try simp only [Act.put, List.setIfInBounds_toArray, List.set_cons_zero, List.set_cons_succ])
                                refine wpAnyH_ready (rs := [17]) (by kernel_rfl) (by simp) ?_
                                refine AllReadyH.cons (o := ⟨none, _, _, _, _, _⟩) rfl (fun K hK => ?_) (AllReadyH.nil)
                                obtain ⟨p0, p1, pf0, pf1⟩ := blk2 Z_1.out
                                go_simp
                                refine hK.out _ _ ?_ (fun hHeld => ?_)
                                · (try dsimp only)
                                  exact KS.out _ (P1n.out _ _ B_0.out ((Y_1.out.setCell (p := ⟨_, 0, none⟩) ZS.out _).setCell (p := ⟨_, 1, none⟩) ZS.out _))
                                clear hK K
                                (try simp only [Act.put, List.setIfInBounds_toArray, List.set_cons_zero, List.set_cons_succ])
                                refine wpAnyH_done (by kernel_rfl) ?_ _
                                go_wp2
                                go_meet
                                exact ⟨_, rfl, (Z_1.out.set_ 0 _).set_ 1 _, Lib.hid (P1n.out _ _ B_0.out ((Y_1.out.setCell (p := ⟨_, 0, none⟩) ZS.out _).setCell (p := ⟨_, 1, none⟩) ZS.out _))⟩
                              case rest =>
                                as_aux_lemma =>
                                obtain ⟨TA, rfl, hba, HG1⟩ := hcut
                                obtain ⟨v2, hv2⟩ : ∃ v, v = wc := ⟨_, rfl⟩
                                rw [← hv2] at hba HG1 ⊢
                                have LX := Lib.hid (ld_part (HLW.out _ (P1f.out _ HG1.out)).2.1 (lo := lo) (N := na) (by have := HHL.out; omega))
                                have LS := Lib.hid (HLA.out _ (P1f.out _ HG1.out))
                                clear hv2 KS rp1 rp2
                                obtain ⟨P2, hP⟩ : ∃ P : World → Prop, P = fun W => P1 W ∧ Blk W TA 26 #[.slice (some ⟨gA, fA + 1, none⟩) 2 (cA - 1), .slice (some ⟨gX, fX + lo, none⟩) na (cX - lo)] ∧ Ld W (.slice (some ⟨gA, fA + 1, none⟩) 2 (cA - 1)) ([(r : Int), (n : Int)]) ∧ Ld W (.slice (some ⟨gX, fX + lo, none⟩) na (cX - lo)) ((da.drop lo).take na) := ⟨_, rfl⟩
                                have G2 : Hid (P2 v2) := Lib.hid (by rw [hP]; exact ⟨HG1.out, hba, LS.out, LX.out⟩)
                                have P2f : Hid (∀ W, P2 W → P1 W) := Lib.hid (fun W h => by rw [hP] at h; exact h.1)
                                have P2n : Hid (∀ W W', P2 W → Below W.heap.size W W' → P2 W') := Lib.hid (fun W W' h hb => by rw [hP] at h ⊢; exact ⟨P1n.out _ _ h.1 hb, h.2.1.below hb h.2.1.lt, h.2.2.1.below hb, h.2.2.2.below hb⟩)
                                have P2t : Hid (∀ W, P2 W → (W.cell? ⟨TA, 0, none⟩ = some (.slice (some ⟨gA, fA + 1, none⟩) 2 (cA - 1)) ∧ W.cell? ⟨TA, 1, none⟩ = some (.slice (some ⟨gX, fX + lo, none⟩) na (cX - lo))) ∧ Ld W (.slice (some ⟨gA, fA + 1, none⟩) 2 (cA - 1)) ([(r : Int), (n : Int)]) ∧ Ld W (.slice (some ⟨gX, fX + lo, none⟩) na (cX - lo)) ((da.drop lo).take na)) := Lib.hid (fun W h => by rw [hP] at h; exact ⟨⟨(blk2 h.2.1).1, (blk2 h.2.1).2.1⟩, h.2.2⟩)
                                clear hP
                                clear hba LX LS HG1
                                obtain ⟨lo3, hlo3⟩ : ∃ m, m = j * nb := ⟨_, rfl⟩
                                obtain ⟨j2, hj2⟩ : ∃ m, m = j + 1 := ⟨_, rfl⟩
                                obtain ⟨hi3, hhi3⟩ : ∃ m, m = j2 * nb := ⟨_, rfl⟩
                                have hhl3 : lo3 + nb = hi3 := by rw [hhi3, hlo3, hj2, Nat.add_mul, Nat.one_mul]
                                have HKB2 : Hid (lo3 + nb ≤ db.length) := Lib.hid (by have := HKB.out; rw [← hlo3] at this; exact this)
                                rw [← hlo3] at HKM
                                have HWB := Lib.hid (And.intro (nat_wrap hlo3 (by have := HKB2.out; have := HDB6.out; omega)) (And.intro (nat_wrap hhi3 (by have := HKB2.out; have := HDB6.out; omega)) (nat_wrap_one hj2 (by have := HBIG.out j (by omega); omega))))
                                have HB3 := Lib.hid hhl3
                                clear hlo3 hj2 hhi3 hhl3 HKB
                                obtain ⟨x0, x1, x2, x3, x4⟩ := FRk.out _ (P1f.out _ (P2f.out _ G2.out))
                                go_upto_region 21 with fail
                                clear x0 x1 x2 x3 x4
                                obtain ⟨v3, hv3⟩ : ∃ v, v = v2.alloc (.cells #[.slice (some ⟨gB, fB, none⟩) sb.length cB, .slice (some ⟨gY, fY, none⟩) db.length cY] 26) := ⟨_, rfl⟩
                                obtain ⟨TB, hTB⟩ : ∃ T, T = v2.heap.size := ⟨_, rfl⟩
                                have Z3 : Hid (Blk v3 TB 26 #[.slice (some ⟨gB, fB, none⟩) sb.length cB, .slice (some ⟨gY, fY, none⟩) db.length cY]) := Lib.hid (by rw [hv3, hTB]; exact Blk.new _ _ _)
                                have Y3 : Hid (Below v2.heap.size v2 v3) := Lib.hid (by rw [hv3]; exact al_below _)
                                have HTB := Lib.hid hTB
                                rw [← hv3, ← hTB]
                                clear hv3 hTB
                                have GN := Lib.hid (P2n.out _ _ G2.out Y3.out)
                                obtain ⟨x0, x1, x2, x3, x4⟩ := FRk.out _ (P1f.out _ (P2f.out _ GN.out))
                                obtain ⟨b0, b1, b2⟩ := HSB.out _ (P1f.out _ (P2f.out _ GN.out))
                                go_upto_region 22 with fail
                                go_cut [15] (fun s15 wx => s15 = .int .i64 (nb : Int) ∧ Hid (Below v2.heap.size v2 wx) ∧ Hid (Blk wx TB 26 #[.slice (some ⟨gB, fB, none⟩) sb.length cB, .slice (some ⟨gY, fY, none⟩) db.length cY]))
                                case first =>
                                  as_aux_lemma =>
                                  obtain ⟨e1, e2⟩ := HNB.out
                                  go_quiet (fail)
                                  go_wp2
                                  go_meet
                                  exact ⟨rfl, Lib.hid (below_drw Y3.out _), Lib.hid Z3.out⟩
                                case rest =>
                                  as_aux_lemma =>
                                  obtain ⟨rfl, Y4, Z4⟩ := hcut
                                  obtain ⟨v4, hv4⟩ : ∃ v, v = wc := ⟨_, rfl⟩
                                  rw [← hv4] at Y4 Z4 ⊢
                                  clear hv4 x0 x1 x2 x3 x4 b0 b1 b2 GN Y3 Z3
                                  have KS : Hid (∀ W, P2 W → (W.cell? ⟨w1.heap.size, 2, none⟩ = some (.slice (some ⟨gB, fB, none⟩) sb.length cB) ∧ W.cell? ⟨w1.heap.size, 3, none⟩ = some (.slice (some ⟨gY, fY, none⟩) db.length cY))) := Lib.hid (fun W h => ⟨(FRk.out _ (P1f.out _ (P2f.out _ h))).2.2.1, (FRk.out _ (P1f.out _ (P2f.out _ h))).2.2.2.1⟩)
                                  have rp1 := HRF.out.2
                                  have rp2 := fun (W : World) => run_part Try.underlying24 info64.1 info64.2 gY fY db.length cY lo3 hi3 nb HB3.out (by have := HB3.out; have := HKB2.out; have := HCC.out; omega) HNB1.out W
                                  go_upto_region 23 with fail
                                  go_cut [] (fun wx => Hid (Below v2.heap.size v2 wx) ∧ Hid (Blk wx TB 26 #[.slice (some ⟨gB, fB + 1, none⟩) 2 (cB - 1), .slice (some ⟨gY, fY + lo3, none⟩) nb (cY - lo3)]))
                                  case first =>
                                    as_aux_lemma =>
                                    obtain ⟨⟨e1, e2⟩, ⟨e3, e4⟩, e5, e6⟩ := HWB.out
                                    have Y5 : Hid (Below v2.heap.size v2 v4.drew) := Lib.hid (below_drw Y4.out 1)
                                    have Z5 : Hid (Blk v4.drew TB 26 #[.slice (some ⟨gB, fB, none⟩) sb.length cB, .slice (some ⟨gY, fY, none⟩) db.length cY]) := Lib.hid Z4.out
                                    have B_0 := Lib.hid (P2n.out _ _ G2.out Y5.out)
                                    have ZS : Hid (v2.heap.size ≤ TB) := Lib.hid (by rw [HTB.out]; exact Nat.le_refl _)
                                    refine wp_region_held_drew (S := fun W => (W.cell? ⟨w1.heap.size, 2, none⟩ = some (.slice (some ⟨gB, fB, none⟩) sb.length cB) ∧ W.cell? ⟨w1.heap.size, 3, none⟩ = some (.slice (some ⟨gY, fY, none⟩) db.length cY))) (by kernel_rfl) ?_ (fun hHeld => ?_)
                                    · exact KS.out _ B_0.out
                                    have hHd := hHeld
                                    generalize v4.drew = w_0 at *
                                    have YS := Lib.hid ((Y5.out.setCell (p := ⟨TB, 0, none⟩) ZS.out (.slice (some ⟨gB, fB + 1, none⟩) 2 (cB - 1))).setCell (p := ⟨TB, 1, none⟩) ZS.out (.slice (some ⟨gY, fY + lo3, none⟩) nb (cY - lo3)))
                                    obtain ⟨p0, p1, pf0, pf1⟩ := blk2 Z5.out
                                    (refine wpAnyH_take (i := 0) (oi := ⟨some 147, _, _, _, _, _⟩) (v := ?v0_bq1) rfl (by kernel_rfl) (by kernel_rfl) (by kernel_rfl) (fun _ _ _ h => h) (Or.inl ⟨by rfl, ?hy0_bq1⟩) (by assumption) ?rest0_bq1; (case hy0_bq1 => ((intro w hSw); (try dsimp only at hSw); go_simp; first | done | (with_reducible rfl))))
                                    (try simp only [Act.put, List.setIfInBounds_toArray, List.set_cons_zero, List.set_cons_succ])
                                    (refine wpAnyH_take (i := 1) (oi := ⟨some 148, _, _, _, _, _⟩) (v := ?v1_bq2) rfl (by kernel_rfl) (by kernel_rfl) (by kernel_rfl) (fun _ _ _ h => h) (Or.inl ⟨by rfl, ?hy1_bq2⟩) (by assumption) ?rest1_bq2; (case hy1_bq2 => ((intro w hSw); (try dsimp only at hSw); go_simp; first | done | (with_reducible rfl))))
                                    (try simp only [Act.put, List.setIfInBounds_toArray, List.set_cons_zero, List.set_cons_succ])
                                    (refine wpAnyH_take (i := 2) (oi := ⟨some 149, _, _, _, _, _⟩) (v := ?v2_bq3) rfl (by kernel_rfl) (by kernel_rfl) (by kernel_rfl) (fun _ _ _ h => h) (Or.inl ⟨by rfl, ?hy2_bq3⟩) (by assumption) ?rest2_bq3; (case hy2_bq3 => ((intro w hSw); (try dsimp only at hSw); go_simp; first | done | (with_reducible rfl))))
                                    (try simp only [Act.put, List.setIfInBounds_toArray, List.set_cons_zero, List.set_cons_succ])
                                    (refine wpAnyH_take (i := 3) (oi := ⟨some 150, _, _, _, _, _⟩) (v := ?v3_bq4) rfl (by kernel_rfl) (by kernel_rfl) (by kernel_rfl) (fun _ _ _ h => h) (Or.inl ⟨by rfl, ?hy3_bq4⟩) (by assumption) ?rest3_bq4; (case hy3_bq4 => ((intro w hSw); (try dsimp only at hSw); go_simp; first | done | (with_reducible rfl))))
                                    (try simp only [Act.put, List.setIfInBounds_toArray, List.set_cons_zero, List.set_cons_succ])
                                    (refine wpAnyH_take (i := 4) (oi := ⟨some 151, _, _, _, _, _⟩) (v := ?v4_bq5) rfl (by kernel_rfl) (by kernel_rfl) (by kernel_rfl) (fun _ _ _ h => h) (Or.inl ⟨by rfl, ?hy4_bq5⟩) (by assumption) ?rest4_bq5; (case hy4_bq5 => ((intro w hSw); (try dsimp only at hSw); go_simp; first | done | (with_reducible rfl))))
                                    (try simp only [Act.put, List.setIfInBounds_toArray, List.set_cons_zero, List.set_cons_succ])
                                    (refine wpAnyH_take (i := 5) (oi := ⟨some 152, _, _, _, _, _⟩) (v := ?v5_bq6) rfl (by kernel_rfl) (by kernel_rfl) (by kernel_rfl) (fun _ _ _ h => h) (Or.inl ⟨by rfl, ?hy5_bq6⟩) (by assumption) ?rest5_bq6; (case hy5_bq6 => ((intro w hSw); (try dsimp only at hSw); go_simp; first | done | (with_reducible rfl))))
                                    (try simp only [Act.put, List.setIfInBounds_toArray, List.set_cons_zero, List.set_cons_succ])
                                    (refine wpAnyH_take (i := 6) (oi := ⟨some 153, _, _, _, _, _⟩) (v := ?v6_bq7) rfl (by kernel_rfl) (by kernel_rfl) (by kernel_rfl) (fun _ _ _ h => h) (Or.inl ⟨by rfl, ?hy6_bq7⟩) (by assumption) ?rest6_bq7; (case hy6_bq7 => ((intro w hSw); (try dsimp only at hSw); go_simp; first | done | (with_reducible rfl))))
                                    (try simp only [Act.put, List.setIfInBounds_toArray, List.set_cons_zero, List.set_cons_succ])
                                    (refine wpAnyH_take (i := 7) (oi := ⟨some 154, _, _, _, _, _⟩) (v := ?v7_bq8) rfl (by kernel_rfl) (by kernel_rfl) (by kernel_rfl) (fun _ _ _ h => h) (Or.inl ⟨by rfl, ?hy7_bq8⟩) (by assumption) ?rest7_bq8; (case hy7_bq8 => ((intro w hSw); (try dsimp only at hSw); go_simp; first | done | (with_reducible rfl))))
                                    (try simp only [Act.put, List.setIfInBounds_toArray, List.set_cons_zero, List.set_cons_succ])
                                    (refine wpAnyH_take (i := 8) (oi := ⟨some 155, _, _, _, _, _⟩) (v := ?v8_bq9) rfl (by kernel_rfl) (by kernel_rfl) (by kernel_rfl) (fun _ _ _ h => h) (Or.inl ⟨by rfl, ?hy8_bq9⟩) (by assumption) ?rest8_bq9; (case hy8_bq9 => ((intro w hSw); (try dsimp only at hSw); go_simp; first | done | (with_reducible rfl))))
                                    (try simp only [Act.put, List.setIfInBounds_toArray, List.set_cons_zero, List.set_cons_succ])
                                    (refine wpAnyH_take (i := 9) (oi := ⟨some 156, _, _, _, _, _⟩) (v := ?v9_bq10) rfl (by kernel_rfl) (by kernel_rfl) (by kernel_rfl) (fun _ _ _ h => h) (Or.inl ⟨by rfl, ?hy9_bq10⟩) (by assumption) ?rest9_bq10; (case hy9_bq10 => ((intro w hSw); (try dsimp only at hSw); go_simp; first | done | (with_reducible rfl))))
                                    (try simp only [Act.put, List.setIfInBounds_toArray, List.set_cons_zero, List.set_cons_succ])
                                    (refine wpAnyH_take (i := 10) (oi := ⟨some 157, _, _, _, _, _⟩) (v := ?v10_bq11) rfl (by kernel_rfl) (by kernel_rfl) (by kernel_rfl) (fun _ _ _ h => h) (Or.inl ⟨by rfl, ?hy10_bq11⟩) (by assumption) ?rest10_bq11; (case hy10_bq11 => ((intro w hSw); (try dsimp only at hSw); go_simp; first | done | (with_reducible rfl))))
                                    (try simp only [Act.put, List.setIfInBounds_toArray, List.set_cons_zero, List.set_cons_succ])
                                    (refine wpAnyH_take (i := 11) (oi := ⟨some 158, _, _, _, _, _⟩) (v := ?v11_bq12) rfl (by kernel_rfl) (by kernel_rfl) (by kernel_rfl) (fun _ _ _ h => h) (Or.inl ⟨by rfl, ?hy11_bq12⟩) (by assumption) ?rest11_bq12; (case hy11_bq12 => ((intro w hSw); (try dsimp only at hSw); go_simp; first | done | (with_reducible rfl))))
                                    (try simp only [Act.put, List.setIfInBounds_toArray, List.set_cons_zero, List.set_cons_succ])
                                    (refine wpAnyH_take (i := 12) (oi := ⟨some 159, _, _, _, _, _⟩) (v := ?v12_bq13) rfl (by kernel_rfl) (by kernel_rfl) (by kernel_rfl) (fun _ _ _ h => h) (Or.inl ⟨by rfl, ?hy12_bq13⟩) (by assumption) ?rest12_bq13; (case hy12_bq13 => ((intro w hSw); (try dsimp only at hSw); go_simp; first | done | (with_reducible rfl))))
                                    (try simp only [Act.put, List.setIfInBounds_toArray, List.set_cons_zero, List.set_cons_succ])
                                    (refine wpAnyH_take (i := 13) (oi := ⟨some 160, _, _, _, _, _⟩) (v := ?v13_bq14) rfl (by kernel_rfl) (by kernel_rfl) (by kernel_rfl) (fun _ _ _ h => h) (Or.inl ⟨by rfl, ?hy13_bq14⟩) (by assumption) ?rest13_bq14; (case hy13_bq14 => ((intro w hSw); (try dsimp only at hSw); go_simp; first | done | (with_reducible rfl))))
                                    (try simp only [Act.put, List.setIfInBounds_toArray, List.set_cons_zero, List.set_cons_succ])
                                    (refine wpAnyH_take (i := 14) (oi := ⟨some 161, _, _, _, _, _⟩) (v := ?v14_bq15) rfl (by kernel_rfl) (by kernel_rfl) (by kernel_rfl) (fun _ _ _ h => h) (Or.inl ⟨by rfl, ?hy14_bq15⟩) (by assumption) ?rest14_bq15; (case hy14_bq15 => ((intro w hSw); (try dsimp only at hSw); go_simp; first | done | (with_reducible rfl))))
                                    (try simp only [Act.put, List.setIfInBounds_toArray, List.set_cons_zero, List.set_cons_succ])
                                    (refine wpAnyH_take (i := 15) (oi := ⟨some 162, _, _, _, _, _⟩) (v := ?v15_bq16) rfl (by kernel_rfl) (by kernel_rfl) (by kernel_rfl) (fun _ _ _ h => h) (Or.inl ⟨by rfl, ?hy15_bq16⟩) (by assumption) ?rest15_bq16; (case hy15_bq16 => ((intro w hSw); (try dsimp only at hSw); go_simp; first | done | (with_reducible rfl))))
                                    (try simp only [Act.put, List.setIfInBounds_toArray, List.set_cons_zero, List.set_cons_succ])
                                    refine wpAnyH_ready (rs := [16]) (by kernel_rfl) (by simp) ?_
                                    refine AllReadyH.cons (o := ⟨none, _, _, _, _, _⟩) rfl (fun K hK => ?_) (AllReadyH.nil)
                                    go_simp
                                    refine hK.out _ _ ?_ (fun hHeld => ?_)
                                    · (try dsimp only)
                                      exact KS.out _ (P2n.out _ _ G2.out YS.out)
                                    clear hK K
                                    (try simp only [Act.put, List.setIfInBounds_toArray, List.set_cons_zero, List.set_cons_succ])
                                    refine wpAnyH_done (by kernel_rfl) ?_ _
                                    go_wp2
                                    go_meet
                                    exact ⟨YS, Lib.hid ((Z5.out.set_ 0 _).set_ 1 _)⟩
                                  case rest =>
                                    as_aux_lemma =>
                                    obtain ⟨Y6, Z6⟩ := hcut
                                    obtain ⟨v5, hv5⟩ : ∃ v, v = wc := ⟨_, rfl⟩
                                    rw [← hv5] at Y6 Z6 ⊢
                                    have GM := Lib.hid (P2n.out _ _ G2.out Y6.out)
                                    have LX := Lib.hid (ld_part (HLW.out _ (P1f.out _ (P2f.out _ GM.out))).2.2.2 (lo := lo3) (N := nb) HKB2.out)
                                    have LS := Lib.hid (HLB.out _ (P1f.out _ (P2f.out _ GM.out)))
                                    clear hv5 KS rp1 rp2 Y4 Z4 Y6
                                    obtain ⟨P3, hP⟩ : ∃ P : World → Prop, P = fun W => P2 W ∧ Blk W TB 26 #[.slice (some ⟨gB, fB + 1, none⟩) 2 (cB - 1), .slice (some ⟨gY, fY + lo3, none⟩) nb (cY - lo3)] ∧ Ld W (.slice (some ⟨gB, fB + 1, none⟩) 2 (cB - 1)) ([(n : Int), (c : Int)]) ∧ Ld W (.slice (some ⟨gY, fY + lo3, none⟩) nb (cY - lo3)) ((db.drop lo3).take nb) := ⟨_, rfl⟩
                                    have G3 : Hid (P3 v5) := Lib.hid (by rw [hP]; exact ⟨GM.out, Z6.out, LS.out, LX.out⟩)
                                    have P3f : Hid (∀ W, P3 W → P2 W) := Lib.hid (fun W h => by rw [hP] at h; exact h.1)
                                    have P3n : Hid (∀ W W', P3 W → Below W.heap.size W W' → P3 W') := Lib.hid (fun W W' h hb => by rw [hP] at h ⊢; exact ⟨P2n.out _ _ h.1 hb, h.2.1.below hb h.2.1.lt, h.2.2.1.below hb, h.2.2.2.below hb⟩)
                                    have P3t : Hid (∀ W, P3 W → (W.cell? ⟨TB, 0, none⟩ = some (.slice (some ⟨gB, fB + 1, none⟩) 2 (cB - 1)) ∧ W.cell? ⟨TB, 1, none⟩ = some (.slice (some ⟨gY, fY + lo3, none⟩) nb (cY - lo3))) ∧ Ld W (.slice (some ⟨gB, fB + 1, none⟩) 2 (cB - 1)) ([(n : Int), (c : Int)]) ∧ Ld W (.slice (some ⟨gY, fY + lo3, none⟩) nb (cY - lo3)) ((db.drop lo3).take nb)) := Lib.hid (fun W h => by rw [hP] at h; exact ⟨⟨(blk2 h.2.1).1, (blk2 h.2.1).2.1⟩, h.2.2⟩)
                                    clear hP
                                    clear Z6 LX LS GM
                                    skip
                                    obtain ⟨⟨y2_0, y2_1⟩, _⟩ := P2t.out _ (P3f.out _ G3.out)
                                    obtain ⟨⟨y3_0, y3_1⟩, _⟩ := P3t.out _ G3.out
                                    go_upto_region 25 with (go_at_call 18; (with_reducible refine (HKM.out _ _ _ _ _ (P2t.out _ (P3f.out _ G3.out)).2.1 (P2t.out _ (P3f.out _ G3.out)).2.2 (P3t.out _ G3.out).2.1 (P3t.out _ G3.out).2.2).mono ?_); rintro e wz4 ⟨os4, cs4, od4, cd4, rfl, h1, h2, hb⟩; have U4 := Lib.hid (And.intro (P3n.out _ _ G3.out hb) (And.intro h1 h2)); clear h1 h2 hb)
                                    obtain ⟨v4', hv⟩ : ∃ v, v = wz4.alloc (.cells #[.slice os4 2 cs4, .slice od4 nt cd4] 26) := ⟨_, rfl⟩
                                    obtain ⟨T4, hT⟩ : ∃ T, T = wz4.heap.size := ⟨_, rfl⟩
                                    rw [← hv, ← hT]
                                    obtain ⟨P4, hP⟩ : ∃ P : World → Prop, P = fun W => P3 W ∧ Blk W T4 26 #[.slice os4 2 cs4, .slice od4 nt cd4] ∧ Ld W (.slice os4 2 cs4) ([(r : Int), (c : Int)]) ∧ Ld W (.slice od4 nt cd4) ((LQ.drop lo2).take nt) := ⟨_, rfl⟩
                                    have G4 : Hid (P4 v4') := Lib.hid (by rw [hP]; exact ⟨by rw [hv]; exact P3n.out _ _ U4.out.1 (al_below _), by rw [hv, hT]; exact Blk.new _ _ _, by rw [hv]; exact U4.out.2.1.below (al_below _), by rw [hv]; exact U4.out.2.2.below (al_below _)⟩)
                                    have P4f : Hid (∀ W, P4 W → P3 W) := Lib.hid (fun W h => by rw [hP] at h; exact h.1)
                                    have P4n : Hid (∀ W W', P4 W → Below W.heap.size W W' → P4 W') := Lib.hid (fun W W' h hb => by rw [hP] at h ⊢; exact ⟨P3n.out _ _ h.1 hb, h.2.1.below hb h.2.1.lt, h.2.2.1.below hb, h.2.2.2.below hb⟩)
                                    have P4t : Hid (∀ W, P4 W → (W.cell? ⟨T4, 0, none⟩ = some (.slice os4 2 cs4) ∧ W.cell? ⟨T4, 1, none⟩ = some (.slice od4 nt cd4)) ∧ Ld W (.slice os4 2 cs4) ([(r : Int), (c : Int)]) ∧ Ld W (.slice od4 nt cd4) ((LQ.drop lo2).take nt)) := Lib.hid (fun W h => by rw [hP] at h; exact ⟨⟨(blk2 h.2.1).1, (blk2 h.2.1).2.1⟩, h.2.2⟩)
                                    clear hP
                                    clear hv hT U4 y2_0 y2_1 y3_0 y3_1
                                    have _yy := P1t.out _ (P2f.out _ (P3f.out _ (P4f.out _ G4.out)))
                                    clear _yy
                                    obtain ⟨g1, f1, ho1, _⟩ := ld_at (HP1L.out _ (P2f.out _ (P3f.out _ (P4f.out _ G4.out)))) (k := lo2) (by rw [hlqH.out]; have := HHL.out; have := HNA.out; omega)
                                    subst ho1
                                    go_upto_region 25 with fail
                                    have KS : Hid (∀ W, P4 W → W.cell? ⟨T4, 1, none⟩ = some (.slice od4 nt cd4) ∧ W.cell? ⟨T1, 1, none⟩ = some (.slice (some ⟨g1, f1, none⟩) mL cd1)) := Lib.hid (fun W h => ⟨(P4t.out _ h).1.2, (P1t.out _ (P2f.out _ (P3f.out _ (P4f.out _ h)))).1.2⟩)
                                    have rp := fun (W : World) => run_part Try.underlying24 info64.1 info64.2 g1 f1 mL cd1 lo2 hi2 nt HHL.out.2.1 (by have := HHL.out; have := ld_cap (HP1L.out _ (P2f.out _ (P3f.out _ (P4f.out _ G4.out)))); have := hlqH.out; omega) HNA.out.2 W
                                    go_cut [188] (fun s188 wx => s188 = .bool false ∧ Hid (P4 wx))
                                    case first =>
                                      as_aux_lemma =>
                                      obtain ⟨_, _, ⟨e1, e2⟩, ⟨e3, e4⟩, e5, e6⟩ := HWR.out
                                      have B_0 : Hid (P4 v4'.drew) := Lib.hid (P4n.out _ _ G4.out (below_drw (Below.refl _ _) 1))
                                      refine wp_region_held_drew (S := fun W => W.cell? ⟨T4, 1, none⟩ = some (.slice od4 nt cd4) ∧ W.cell? ⟨T1, 1, none⟩ = some (.slice (some ⟨g1, f1, none⟩) mL cd1)) (by kernel_rfl) ?_ (fun hHeld => ?_)
                                      · exact KS.out _ B_0.out
                                      have hHd := hHeld
                                      generalize v4'.drew = w_0 at *
                                      (refine wpAnyH_take (i := 0) (oi := ⟨some 170, _, _, _, _, _⟩) (v := ?v0_cq1) rfl (by kernel_rfl) (by kernel_rfl) (by kernel_rfl) (fun _ _ _ h => h) (Or.inl ⟨by rfl, ?hy0_cq1⟩) (by assumption) ?rest0_cq1; (case hy0_cq1 => ((intro w hSw); (try dsimp only at hSw); go_simp; first | done | (with_reducible rfl))))
                                      (try simp only [Act.put, List.setIfInBounds_toArray, List.set_cons_zero, List.set_cons_succ])
                                      refine wpAnyH_ready (rs := [1]) (by kernel_rfl) (by simp) ?_
                                      refine AllReadyH.cons (o := ⟨some 171, _, _, _, _, _⟩) rfl (fun K hK => ?_) (AllReadyH.nil)
                                      go_simp
                                      (go_at_call 15; (with_reducible refine (num10_any _ _).mono ?_); rintro e w' ⟨rfl, rfl⟩)
                                      refine hK.out _ _ ?_ (fun hHeld => ?_)
                                      · (try dsimp only)
                                        exact KS.out _ B_0.out
                                      clear hK K
                                      (try simp only [Act.put, List.setIfInBounds_toArray, List.set_cons_zero, List.set_cons_succ])
                                      (refine wpAnyH_take (i := 2) (oi := ⟨some 172, _, _, _, _, _⟩) (v := ?v2_cq2) rfl (by kernel_rfl) (by kernel_rfl) (by kernel_rfl) (fun _ _ _ h => h) (Or.inl ⟨by rfl, ?hy2_cq2⟩) (by assumption) ?rest2_cq2; (case hy2_cq2 => ((intro w hSw); (try dsimp only at hSw); go_simp; first | done | (with_reducible rfl))))
                                      (try simp only [Act.put, List.setIfInBounds_toArray, List.set_cons_zero, List.set_cons_succ])
                                      (refine wpAnyH_take (i := 3) (oi := ⟨some 173, _, _, _, _, _⟩) (v := .bool false) rfl (by kernel_rfl) (by kernel_rfl) (by kernel_rfl) (fun _ _ _ h => h) (Or.inl ⟨by rfl, ?hy3_cq3⟩) (by assumption) ?rest3_cq3; (case hy3_cq3 => ((intro w hSw); (try dsimp only at hSw); go_simp; first | done | (with_reducible rfl))))
                                      (try simp only [Act.put, List.setIfInBounds_toArray, List.set_cons_zero, List.set_cons_succ])
                                      (refine wpAnyH_take (i := 4) (oi := ⟨some 174, _, _, _, _, _⟩) (v := ?v4_cq4) rfl (by kernel_rfl) (by kernel_rfl) (by kernel_rfl) (fun _ _ _ h => h) (Or.inl ⟨by rfl, ?hy4_cq4⟩) (by assumption) ?rest4_cq4; (case hy4_cq4 => ((intro w hSw); (try dsimp only at hSw); go_simp; first | done | (with_reducible rfl))))
                                      (try simp only [Act.put, List.setIfInBounds_toArray, List.set_cons_zero, List.set_cons_succ])
                                      (refine wpAnyH_take (i := 5) (oi := ⟨some 175, _, _, _, _, _⟩) (v := ?v5_cq5) rfl (by kernel_rfl) (by kernel_rfl) (by kernel_rfl) (fun _ _ _ h => h) (Or.inl ⟨by rfl, ?hy5_cq5⟩) (by assumption) ?rest5_cq5; (case hy5_cq5 => ((intro w hSw); (try dsimp only at hSw); go_simp; first | done | (with_reducible rfl))))
                                      (try simp only [Act.put, List.setIfInBounds_toArray, List.set_cons_zero, List.set_cons_succ])
                                      (refine wpAnyH_take (i := 6) (oi := ⟨some 176, _, _, _, _, _⟩) (v := ?v6_cq6) rfl (by kernel_rfl) (by kernel_rfl) (by kernel_rfl) (fun _ _ _ h => h) (Or.inl ⟨by rfl, ?hy6_cq6⟩) (by assumption) ?rest6_cq6; (case hy6_cq6 => ((intro w hSw); (try dsimp only at hSw); go_simp; first | done | (with_reducible rfl))))
                                      (try simp only [Act.put, List.setIfInBounds_toArray, List.set_cons_zero, List.set_cons_succ])
                                      (refine wpAnyH_take (i := 7) (oi := ⟨some 177, _, _, _, _, _⟩) (v := ?v7_cq7) rfl (by kernel_rfl) (by kernel_rfl) (by kernel_rfl) (fun _ _ _ h => h) (Or.inl ⟨by rfl, ?hy7_cq7⟩) (by assumption) ?rest7_cq7; (case hy7_cq7 => ((intro w hSw); (try dsimp only at hSw); go_simp; first | done | (with_reducible rfl))))
                                      (try simp only [Act.put, List.setIfInBounds_toArray, List.set_cons_zero, List.set_cons_succ])
                                      (refine wpAnyH_take (i := 8) (oi := ⟨some 178, _, _, _, _, _⟩) (v := ?v8_cq8) rfl (by kernel_rfl) (by kernel_rfl) (by kernel_rfl) (fun _ _ _ h => h) (Or.inl ⟨by rfl, ?hy8_cq8⟩) (by assumption) ?rest8_cq8; (case hy8_cq8 => ((intro w hSw); (try dsimp only at hSw); go_simp; first | done | (with_reducible rfl))))
                                      (try simp only [Act.put, List.setIfInBounds_toArray, List.set_cons_zero, List.set_cons_succ])
                                      (refine wpAnyH_take (i := 9) (oi := ⟨some 179, _, _, _, _, _⟩) (v := ?v9_cq9) rfl (by kernel_rfl) (by kernel_rfl) (by kernel_rfl) (fun _ _ _ h => h) (Or.inl ⟨by rfl, ?hy9_cq9⟩) (by assumption) ?rest9_cq9; (case hy9_cq9 => ((intro w hSw); (try dsimp only at hSw); go_simp; first | done | (with_reducible rfl))))
                                      (try simp only [Act.put, List.setIfInBounds_toArray, List.set_cons_zero, List.set_cons_succ])
                                      (refine wpAnyH_take (i := 10) (oi := ⟨some 180, _, _, _, _, _⟩) (v := ?v10_cq10) rfl (by kernel_rfl) (by kernel_rfl) (by kernel_rfl) (fun _ _ _ h => h) (Or.inl ⟨by rfl, ?hy10_cq10⟩) (by assumption) ?rest10_cq10; (case hy10_cq10 => ((intro w hSw); (try dsimp only at hSw); go_simp; first | done | (with_reducible rfl))))
                                      (try simp only [Act.put, List.setIfInBounds_toArray, List.set_cons_zero, List.set_cons_succ])
                                      (refine wpAnyH_take (i := 11) (oi := ⟨some 181, _, _, _, _, _⟩) (v := ?v11_cq11) rfl (by kernel_rfl) (by kernel_rfl) (by kernel_rfl) (fun _ _ _ h => h) (Or.inl ⟨by rfl, ?hy11_cq11⟩) (by assumption) ?rest11_cq11; (case hy11_cq11 => ((intro w hSw); (try dsimp only at hSw); go_simp; first | done | (with_reducible rfl))))
                                      (try simp only [Act.put, List.setIfInBounds_toArray, List.set_cons_zero, List.set_cons_succ])
                                      (refine wpAnyH_take (i := 12) (oi := ⟨some 182, _, _, _, _, _⟩) (v := ?v12_cq12) rfl (by kernel_rfl) (by kernel_rfl) (by kernel_rfl) (fun _ _ _ h => h) (Or.inl ⟨by rfl, ?hy12_cq12⟩) (by assumption) ?rest12_cq12; (case hy12_cq12 => ((intro w hSw); (try dsimp only at hSw); go_simp; first | done | (with_reducible rfl))))
                                      (try simp only [Act.put, List.setIfInBounds_toArray, List.set_cons_zero, List.set_cons_succ])
                                      (refine wpAnyH_take (i := 13) (oi := ⟨some 183, _, _, _, _, _⟩) (v := ?v13_cq13) rfl (by kernel_rfl) (by kernel_rfl) (by kernel_rfl) (fun _ _ _ h => h) (Or.inl ⟨by rfl, ?hy13_cq13⟩) (by assumption) ?rest13_cq13; (case hy13_cq13 => ((intro w hSw); (try dsimp only at hSw); go_simp; first | done | (with_reducible rfl))))
                                      (try simp only [Act.put, List.setIfInBounds_toArray, List.set_cons_zero, List.set_cons_succ])
                                      (refine wpAnyH_take (i := 14) (oi := ⟨some 184, _, _, _, _, _⟩) (v := ?v14_cq14) rfl (by kernel_rfl) (by kernel_rfl) (by kernel_rfl) (fun _ _ _ h => h) (Or.inl ⟨by rfl, ?hy14_cq14⟩) (by assumption) ?rest14_cq14; (case hy14_cq14 => ((intro w hSw); (try dsimp only at hSw); go_simp; first | done | (with_reducible rfl))))
                                      (try simp only [Act.put, List.setIfInBounds_toArray, List.set_cons_zero, List.set_cons_succ])
                                      (refine wpAnyH_take (i := 15) (oi := ⟨some 185, _, _, _, _, _⟩) (v := ?v15_cq15) rfl (by kernel_rfl) (by kernel_rfl) (by kernel_rfl) (fun _ _ _ h => h) (Or.inl ⟨by rfl, ?hy15_cq15⟩) (by assumption) ?rest15_cq15; (case hy15_cq15 => ((intro w hSw); (try dsimp only at hSw); go_simp; first | done | (with_reducible rfl))))
                                      (try simp only [Act.put, List.setIfInBounds_toArray, List.set_cons_zero, List.set_cons_succ])
                                      refine wpAnyH_ready (rs := [16]) (by kernel_rfl) (by simp) ?_
                                      refine AllReadyH.cons (o := ⟨some 186, _, _, _, _, _⟩) rfl (fun K hK => ?_) (AllReadyH.nil)
                                      go_simp
                                      (go_at_call 21; (with_reducible refine (KEW.out _ _ _ _ HHL.out.2.2.2 (P4t.out _ B_0.out).2.2 (ld_part (HP1L.out _ (P2f.out _ (P3f.out _ (P4f.out _ B_0.out)))) (lo := lo2) (N := nt) (by rw [hlqH.out]; exact HHL.out.2.2.2))).mono ?_); rintro e w_e2 ⟨rfl, hb⟩; have B_e2 := Lib.hid (P4n.out _ _ B_0.out hb); clear hb)
                                      refine hK.out _ _ ?_ (fun hHeld => ?_)
                                      · (try dsimp only)
                                        exact KS.out _ B_e2.out
                                      clear hK K
                                      (try simp only [Act.put, List.setIfInBounds_toArray, List.set_cons_zero, List.set_cons_succ])
                                      (refine wpAnyH_take (i := 17) (oi := ⟨some 187, _, _, _, _, _⟩) (v := ?v17_cq16) rfl (by kernel_rfl) (by kernel_rfl) (by kernel_rfl) (fun _ _ _ h => h) (Or.inl ⟨by rfl, ?hy17_cq16⟩) (by assumption) ?rest17_cq16; (case hy17_cq16 => ((intro w hSw); (try dsimp only at hSw); go_simp; first | done | (with_reducible rfl))))
                                      (try simp only [Act.put, List.setIfInBounds_toArray, List.set_cons_zero, List.set_cons_succ])
                                      (refine wpAnyH_take (i := 18) (oi := ⟨some 188, _, _, _, _, _⟩) (v := ?v18_cq17) rfl (by kernel_rfl) (by kernel_rfl) (by kernel_rfl) (fun _ _ _ h => h) (Or.inl ⟨by rfl, ?hy18_cq17⟩) (by assumption) ?rest18_cq17; (case hy18_cq17 => ((intro w hSw); (try dsimp only at hSw); go_simp; first | done | (with_reducible rfl))))
                                      (try simp only [Act.put, List.setIfInBounds_toArray, List.set_cons_zero, List.set_cons_succ])
                                      refine wpAnyH_done (by kernel_rfl) ?_ _
                                      go_wp2
                                      go_meet
                                      exact ⟨rfl, B_e2⟩
                                    case rest =>
                                      as_aux_lemma =>
                                      obtain ⟨rfl, GW⟩ := hcut
                                      clear rp KS
                                      go_wp2
                                      exact ⟨⟨j + 1, by omega, by go_num, Lib.hid (P2f.out _ (P3f.out _ (P4f.out _ GW.out)))⟩, by simp [intOf]; omega⟩
                            · as_aux_lemma =>
                              obtain ⟨⟨ta, tb, hfb⟩, hrn, hr, hfl, hS2, hS, hLQ, hmu, hc, hmay3⟩ := HTT.out
                              obtain ⟨hna, hnt, hdl, hlq, hmLq⟩ := HNN.out
                              have hbig0 := HBIG.out
                              have h2 : sb.length = 2 := by have := hfl.2.2.1; omega
                              obtain ⟨x, c', hsb⟩ := two_of h2 (tnb_parts tb).1
                              have hcc : c = c' := by
                                have h := hc.1
                                rw [hsb] at h
                                have h' : (c' : Int) = (c : Int) := h
                                omega
                              have hxn : n = x := by
                                have h := hfl.2.2.2.2
                                rw [hrn, hsb] at h
                                have h' : (n : Int) = (x : Int) := h
                                omega
                              subst hcc hxn
                              have b3 : ((sb.length : Int) == 3) = false := by rw [beq_eq_false_iff_ne]; omega
                              have HPAR : Hid (∀ j, j < K → j * na + na ≤ da.length ∧ j * nt + nt ≤ mL ∧ ∀ (W : World) (vs vd vt ve : Value), Ld W vs [(r : Int), (n : Int)] → Ld W vd ((da.drop (j * na)).take na) → Ld W vt sb → Ld W ve db → Calls Try.prog 18 #[.agg #[vs, vd], .agg #[vt, ve], .int .i64 (fN : Int)] W (TyL W 0 [(r : Int), (c : Int)] 2 ((LQ.drop (j * nt)).take nt) nt)) := Lib.hid (fun j hj => by
                                have q1 : j * na + na ≤ K * na := by
                                  have := Nat.mul_le_mul_right na (show j + 1 ≤ K from hj)
                                  rwa [Nat.add_mul, Nat.one_mul] at this
                                have q2 : j * nt + nt ≤ K * nt := by
                                  have := Nat.mul_le_mul_right nt (show j + 1 ≤ K from hj)
                                  rwa [Nat.add_mul, Nat.one_mul] at this
                                refine ⟨by rw [hdl]; exact q1, by rw [hmLq]; exact q2, ?_⟩
                                intro W vs vd vt ve h1 h2 h3 h4
                                have q := batch2 (K := K) (r := r) (n := n) (c := c) (x := j) (by rw [← hrn, ← hsb]; exact hmu) hj
                                have pt := part_tnb (A := K) (B := r) (C := n) (x := j) (ds := da) (by rw [← hrn]; exact ta) hj
                                rw [← hna] at q pt
                                rw [← hrn, ← hsb, ← hLQ, ← hnt] at q
                                have u := mul_all vs vd vt ve _ _ sb db fN W h1 h2 h3 h4 pt.1 tb hfb
                                rw [q.1, q.2, show msh [(r : Int), (n : Int)] sb = [(r : Int), (c : Int)] by rw [hsb]; rfl] at u
                                exact u.mono (fun _ _ hh => tyL_of (S := [(r : Int), (c : Int)]) (D := (LQ.drop (j * nt)).take nt) rfl (drop_take_len (by rw [hlq]; exact q2)).symm hh))
                              have HRF := Lib.hid (And.intro rpA trivial)
                              have HBIG2 := HBIG
                              clear ta tb hfb hrn hr hfl hS2 hS hLQ hmu hc hmay3 hna hnt hdl hlq hmLq h2 hsb hb3 rpA hbig0
                              obtain ⟨lo, hlo⟩ : ∃ m, m = j * na := ⟨_, rfl⟩
                              obtain ⟨j1, hj1⟩ : ∃ m, m = j + 1 := ⟨_, rfl⟩
                              obtain ⟨hi, hhi⟩ : ∃ m, m = j1 * na := ⟨_, rfl⟩
                              obtain ⟨lo2, hlo2⟩ : ∃ m, m = j * nt := ⟨_, rfl⟩
                              obtain ⟨hi2, hhi2⟩ : ∃ m, m = j1 * nt := ⟨_, rfl⟩
                              have HPA := HPAR.out j hlt
                              have hhl : lo + na = hi := by rw [hhi, hlo, hj1, Nat.add_mul, Nat.one_mul]
                              have hhl2 : lo2 + nt = hi2 := by rw [hhi2, hlo2, hj1, Nat.add_mul, Nat.one_mul]
                              rw [← hlo, ← hlo2] at HPA
                              have hj1K : j1 ≤ K := by omega
                              have hbig := HBIG.out j1 hj1K
                              have hbig2 := HBIG.out j (by omega)
                              rw [← hhi, ← hhi2] at hbig
                              rw [← hlo, ← hlo2] at hbig2
                              have HWR := Lib.hid (And.intro (nat_wrap hlo (by omega)) (And.intro (nat_wrap hhi (by omega)) (And.intro (nat_wrap hlo2 (by omega)) (And.intro (nat_wrap hhi2 (by omega)) (nat_wrap_one hj1 (by omega))))))
                              have HHL := Lib.hid (And.intro hhl (And.intro hhl2 (And.intro HPA.1 HPA.2.1)))
                              have HKM := Lib.hid HPA.2.2
                              skip
                              clear hlo hhi hlo2 hhi2 hhl hhl2 HPA hbig hbig2 hj1K hj1
                              have rp1 := HRF.out.1
                              have rp2 := fun (W : World) => run_part Try.underlying24 info64.1 info64.2 gX fX da.length cX lo hi na HHL.out.1 (by have := HHL.out; have := HCC.out; omega) HNA.out.1 W
                              obtain ⟨a0, a1, a2⟩ := HSA.out _ (P1f.out _ HG.out)
                              go_upto_region 19 with fail
                              have KS : Hid (∀ W, P1 W → W.cell? ⟨w1.heap.size, 0, none⟩ = some (.slice (some ⟨gA, fA, none⟩) sa.length cA) ∧ W.cell? ⟨w1.heap.size, 1, none⟩ = some (.slice (some ⟨gX, fX, none⟩) da.length cX)) := Lib.hid (fun W h => ⟨(FRk.out _ (P1f.out _ h)).1, (FRk.out _ (P1f.out _ h)).2.1⟩)
                              obtain ⟨vr, hvr⟩ : ∃ v, v = wr := ⟨_, rfl⟩
                              rw [← hvr] at HG ⊢
                              clear hvr x0 x1 x2 x3 x4 a0 a1 a2
                              go_cut [13] (fun s13 wx => ∃ TA : Nat, s13 = .pointer (some ⟨TA, 0, none⟩) ∧ Blk wx TA 26 #[.slice (some ⟨gA, fA + 1, none⟩) 2 (cA - 1), .slice (some ⟨gX, fX + lo, none⟩) na (cX - lo)] ∧ Hid (P1 wx))
                              case first =>
                                as_aux_lemma =>
                                obtain ⟨⟨e1, e2⟩, ⟨e3, e4⟩, _, _, e5, e6⟩ := HWR.out
                                have B_0 : Hid (P1 vr.drew) := Lib.hid (P1n.out _ _ HG.out (below_drw (Below.refl _ _) 1))
                                refine wp_region_held_drew (S := fun W => W.cell? ⟨w1.heap.size, 0, none⟩ = some (.slice (some ⟨gA, fA, none⟩) sa.length cA) ∧ W.cell? ⟨w1.heap.size, 1, none⟩ = some (.slice (some ⟨gX, fX, none⟩) da.length cX)) (by kernel_rfl) ?_ (fun hHeld => ?_)
                                · exact KS.out _ B_0.out
                                have hHd := hHeld
                                generalize vr.drew = w_0 at *
                                (refine wpAnyH_take (i := 0) (oi := ⟨some 113, _, _, _, _, _⟩) (v := ?v0_ap1) rfl (by kernel_rfl) (by kernel_rfl) (by kernel_rfl) (fun _ _ _ h => h) (Or.inl ⟨by rfl, ?hy0_ap1⟩) (by assumption) ?rest0_ap1; (case hy0_ap1 => ((intro w hSw); (try dsimp only at hSw); go_simp; first | done | (with_reducible rfl))))
                                (try simp only [Act.put, List.setIfInBounds_toArray, List.set_cons_zero, List.set_cons_succ])
                                (refine wpAnyH_take (i := 1) (oi := ⟨some 114, _, _, _, _, _⟩) (v := ?v1_ap2) rfl (by kernel_rfl) (by kernel_rfl) (by kernel_rfl) (fun _ _ _ h => h) (Or.inl ⟨by rfl, ?hy1_ap2⟩) (by assumption) ?rest1_ap2; (case hy1_ap2 => ((intro w hSw); (try dsimp only at hSw); go_simp; first | done | (with_reducible rfl))))
                                (try simp only [Act.put, List.setIfInBounds_toArray, List.set_cons_zero, List.set_cons_succ])
                                (refine wpAnyH_take (i := 2) (oi := ⟨some 115, _, _, _, _, _⟩) (v := ?v2_ap3) rfl (by kernel_rfl) (by kernel_rfl) (by kernel_rfl) (fun _ _ _ h => h) (Or.inl ⟨by rfl, ?hy2_ap3⟩) (by assumption) ?rest2_ap3; (case hy2_ap3 => ((intro w hSw); (try dsimp only at hSw); go_simp; first | done | (with_reducible rfl))))
                                (try simp only [Act.put, List.setIfInBounds_toArray, List.set_cons_zero, List.set_cons_succ])
                                (refine wpAnyH_take (i := 3) (oi := ⟨some 116, _, _, _, _, _⟩) (v := ?v3_ap4) rfl (by kernel_rfl) (by kernel_rfl) (by kernel_rfl) (fun _ _ _ h => h) (Or.inl ⟨by rfl, ?hy3_ap4⟩) (by assumption) ?rest3_ap4; (case hy3_ap4 => ((intro w hSw); (try dsimp only at hSw); go_simp; first | done | (with_reducible rfl))))
                                (try simp only [Act.put, List.setIfInBounds_toArray, List.set_cons_zero, List.set_cons_succ])
                                (refine wpAnyH_take (i := 4) (oi := ⟨some 117, _, _, _, _, _⟩) (v := ?v4_ap5) rfl (by kernel_rfl) (by kernel_rfl) (by kernel_rfl) (fun _ _ _ h => h) (Or.inl ⟨by rfl, ?hy4_ap5⟩) (by assumption) ?rest4_ap5; (case hy4_ap5 => ((intro w hSw); (try dsimp only at hSw); go_simp; first | done | (with_reducible rfl))))
                                (try simp only [Act.put, List.setIfInBounds_toArray, List.set_cons_zero, List.set_cons_succ])
                                (refine wpAnyH_take (i := 5) (oi := ⟨some 118, _, _, _, _, _⟩) (v := ?v5_ap6) rfl (by kernel_rfl) (by kernel_rfl) (by kernel_rfl) (fun _ _ _ h => h) (Or.inl ⟨by rfl, ?hy5_ap6⟩) (by assumption) ?rest5_ap6; (case hy5_ap6 => ((intro w hSw); (try dsimp only at hSw); go_simp; first | done | (with_reducible rfl))))
                                (try simp only [Act.put, List.setIfInBounds_toArray, List.set_cons_zero, List.set_cons_succ])
                                (refine wpAnyH_take (i := 6) (oi := ⟨some 119, _, _, _, _, _⟩) (v := ?v6_ap7) rfl (by kernel_rfl) (by kernel_rfl) (by kernel_rfl) (fun _ _ _ h => h) (Or.inl ⟨by rfl, ?hy6_ap7⟩) (by assumption) ?rest6_ap7; (case hy6_ap7 => ((intro w hSw); (try dsimp only at hSw); go_simp; first | done | (with_reducible rfl))))
                                (try simp only [Act.put, List.setIfInBounds_toArray, List.set_cons_zero, List.set_cons_succ])
                                (refine wpAnyH_take (i := 7) (oi := ⟨some 120, _, _, _, _, _⟩) (v := ?v7_ap8) rfl (by kernel_rfl) (by kernel_rfl) (by kernel_rfl) (fun _ _ _ h => h) (Or.inl ⟨by rfl, ?hy7_ap8⟩) (by assumption) ?rest7_ap8; (case hy7_ap8 => ((intro w hSw); (try dsimp only at hSw); go_simp; first | done | (with_reducible rfl))))
                                (try simp only [Act.put, List.setIfInBounds_toArray, List.set_cons_zero, List.set_cons_succ])
                                (refine wpAnyH_take (i := 8) (oi := ⟨some 121, _, _, _, _, _⟩) (v := ?v8_ap9) rfl (by kernel_rfl) (by kernel_rfl) (by kernel_rfl) (fun _ _ _ h => h) (Or.inl ⟨by rfl, ?hy8_ap9⟩) (by assumption) ?rest8_ap9; (case hy8_ap9 => ((intro w hSw); (try dsimp only at hSw); go_simp; first | done | (with_reducible rfl))))
                                (try simp only [Act.put, List.setIfInBounds_toArray, List.set_cons_zero, List.set_cons_succ])
                                (refine wpAnyH_take (i := 9) (oi := ⟨some 122, _, _, _, _, _⟩) (v := ?v9_ap10) rfl (by kernel_rfl) (by kernel_rfl) (by kernel_rfl) (fun _ _ _ h => h) (Or.inl ⟨by rfl, ?hy9_ap10⟩) (by assumption) ?rest9_ap10; (case hy9_ap10 => ((intro w hSw); (try dsimp only at hSw); go_simp; first | done | (with_reducible rfl))))
                                (try simp only [Act.put, List.setIfInBounds_toArray, List.set_cons_zero, List.set_cons_succ])
                                (refine wpAnyH_take (i := 10) (oi := ⟨some 123, _, _, _, _, _⟩) (v := ?v10_ap11) rfl (by kernel_rfl) (by kernel_rfl) (by kernel_rfl) (fun _ _ _ h => h) (Or.inl ⟨by rfl, ?hy10_ap11⟩) (by assumption) ?rest10_ap11; (case hy10_ap11 => ((intro w hSw); (try dsimp only at hSw); go_simp; first | done | (with_reducible rfl))))
                                (try simp only [Act.put, List.setIfInBounds_toArray, List.set_cons_zero, List.set_cons_succ])
                                (refine wpAnyH_take (i := 11) (oi := ⟨some 124, _, _, _, _, _⟩) (v := ?v11_ap12) rfl (by kernel_rfl) (by kernel_rfl) (by kernel_rfl) (fun _ _ _ h => h) (Or.inl ⟨by rfl, ?hy11_ap12⟩) (by assumption) ?rest11_ap12; (case hy11_ap12 => ((intro w hSw); (try dsimp only at hSw); go_simp; first | done | (with_reducible rfl))))
                                (try simp only [Act.put, List.setIfInBounds_toArray, List.set_cons_zero, List.set_cons_succ])
                                (refine wpAnyH_take (i := 12) (oi := ⟨some 125, _, _, _, _, _⟩) (v := ?v12_ap13) rfl (by kernel_rfl) (by kernel_rfl) (by kernel_rfl) (fun _ _ _ h => h) (Or.inl ⟨by rfl, ?hy12_ap13⟩) (by assumption) ?rest12_ap13; (case hy12_ap13 => ((intro w hSw); (try dsimp only at hSw); go_simp; first | done | (with_reducible rfl))))
                                (try simp only [Act.put, List.setIfInBounds_toArray, List.set_cons_zero, List.set_cons_succ])
                                (refine wpAnyH_take (i := 13) (oi := ⟨some 126, _, _, _, _, _⟩) (v := ?v13_ap14) rfl (by kernel_rfl) (by kernel_rfl) (by kernel_rfl) (fun _ _ _ h => h) (Or.inl ⟨by rfl, ?hy13_ap14⟩) (by assumption) ?rest13_ap14; (case hy13_ap14 => ((intro w hSw); (try dsimp only at hSw); go_simp; first | done | (with_reducible rfl))))
                                (try simp only [Act.put, List.setIfInBounds_toArray, List.set_cons_zero, List.set_cons_succ])
                                (refine wpAnyH_take (i := 14) (oi := ⟨some 127, _, _, _, _, _⟩) (v := ?v14_ap15) rfl (by kernel_rfl) (by kernel_rfl) (by kernel_rfl) (fun _ _ _ h => h) (Or.inl ⟨by rfl, ?hy14_ap15⟩) (by assumption) ?rest14_ap15; (case hy14_ap15 => ((intro w hSw); (try dsimp only at hSw); go_simp; first | done | (with_reducible rfl))))
                                (try simp only [Act.put, List.setIfInBounds_toArray, List.set_cons_zero, List.set_cons_succ])
                                (refine wpAnyH_take (i := 15) (oi := ⟨some 128, _, _, _, _, _⟩) (v := ?v15_ap16) rfl (by kernel_rfl) (by kernel_rfl) (by kernel_rfl) (fun _ _ _ h => h) (Or.inl ⟨by rfl, ?hy15_ap16⟩) (by assumption) ?rest15_ap16; (case hy15_ap16 => ((intro w hSw); (try dsimp only at hSw); go_simp; first | done | (with_reducible rfl))))
                                (try simp only [Act.put, List.setIfInBounds_toArray, List.set_cons_zero, List.set_cons_succ])
                                refine wpAnyH_ready (rs := [16]) (by kernel_rfl) (by simp) ?_
                                refine AllReadyH.cons (o := ⟨some 13, _, _, _, _, _⟩) rfl (fun K hK => ?_) (AllReadyH.nil)
                                go_simp
                                have Z_1 := Lib.hid (Blk.new w_0 26 #[.slice none 0 0, .slice none 0 0])
                                have Y_1 := Lib.hid (al_below (W := w_0) (.cells #[.slice none 0 0, .slice none 0 0] 26))
                                have ZS := Lib.hid (Nat.le_refl w_0.heap.size)
                                refine hK.out _ _ ?_ (fun hHeld => ?_)
                                · (try dsimp only)
                                  exact KS.out _ (P1n.out _ _ B_0.out Y_1.out)
                                clear hK K
                                generalize w_0.alloc (.cells #[.slice none 0 0, .slice none 0 0] 26) = w_1 at *
                                (try simp only [Act.put, List.setIfInBounds_toArray, List.set_cons_zero, List.set_cons_succ])
                                refine wpAnyH_ready (rs := [17]) (by kernel_rfl) (by simp) ?_
                                refine AllReadyH.cons (o := ⟨none, _, _, _, _, _⟩) rfl (fun K hK => ?_) (AllReadyH.nil)
                                obtain ⟨p0, p1, pf0, pf1⟩ := blk2 Z_1.out
                                go_simp
                                refine hK.out _ _ ?_ (fun hHeld => ?_)
                                · (try dsimp only)
                                  exact KS.out _ (P1n.out _ _ B_0.out ((Y_1.out.setCell (p := ⟨_, 0, none⟩) ZS.out _).setCell (p := ⟨_, 1, none⟩) ZS.out _))
                                clear hK K
                                (try simp only [Act.put, List.setIfInBounds_toArray, List.set_cons_zero, List.set_cons_succ])
                                refine wpAnyH_done (by kernel_rfl) ?_ _
                                go_wp2
                                go_meet
                                exact ⟨_, rfl, (Z_1.out.set_ 0 _).set_ 1 _, Lib.hid (P1n.out _ _ B_0.out ((Y_1.out.setCell (p := ⟨_, 0, none⟩) ZS.out _).setCell (p := ⟨_, 1, none⟩) ZS.out _))⟩
                              case rest =>
                                as_aux_lemma =>
                                obtain ⟨TA, rfl, hba, HG1⟩ := hcut
                                obtain ⟨v2, hv2⟩ : ∃ v, v = wc := ⟨_, rfl⟩
                                rw [← hv2] at hba HG1 ⊢
                                have LX := Lib.hid (ld_part (HLW.out _ (P1f.out _ HG1.out)).2.1 (lo := lo) (N := na) (by have := HHL.out; omega))
                                have LS := Lib.hid (HLA.out _ (P1f.out _ HG1.out))
                                clear hv2 KS rp1 rp2
                                obtain ⟨P2, hP⟩ : ∃ P : World → Prop, P = fun W => P1 W ∧ Blk W TA 26 #[.slice (some ⟨gA, fA + 1, none⟩) 2 (cA - 1), .slice (some ⟨gX, fX + lo, none⟩) na (cX - lo)] ∧ Ld W (.slice (some ⟨gA, fA + 1, none⟩) 2 (cA - 1)) ([(r : Int), (n : Int)]) ∧ Ld W (.slice (some ⟨gX, fX + lo, none⟩) na (cX - lo)) ((da.drop lo).take na) := ⟨_, rfl⟩
                                have G2 : Hid (P2 v2) := Lib.hid (by rw [hP]; exact ⟨HG1.out, hba, LS.out, LX.out⟩)
                                have P2f : Hid (∀ W, P2 W → P1 W) := Lib.hid (fun W h => by rw [hP] at h; exact h.1)
                                have P2n : Hid (∀ W W', P2 W → Below W.heap.size W W' → P2 W') := Lib.hid (fun W W' h hb => by rw [hP] at h ⊢; exact ⟨P1n.out _ _ h.1 hb, h.2.1.below hb h.2.1.lt, h.2.2.1.below hb, h.2.2.2.below hb⟩)
                                have P2t : Hid (∀ W, P2 W → (W.cell? ⟨TA, 0, none⟩ = some (.slice (some ⟨gA, fA + 1, none⟩) 2 (cA - 1)) ∧ W.cell? ⟨TA, 1, none⟩ = some (.slice (some ⟨gX, fX + lo, none⟩) na (cX - lo))) ∧ Ld W (.slice (some ⟨gA, fA + 1, none⟩) 2 (cA - 1)) ([(r : Int), (n : Int)]) ∧ Ld W (.slice (some ⟨gX, fX + lo, none⟩) na (cX - lo)) ((da.drop lo).take na)) := Lib.hid (fun W h => by rw [hP] at h; exact ⟨⟨(blk2 h.2.1).1, (blk2 h.2.1).2.1⟩, h.2.2⟩)
                                clear hP
                                clear hba LX LS HG1
                                obtain ⟨x0, x1, x2, x3, x4⟩ := FRk.out _ (P1f.out _ (P2f.out _ G2.out))
                                go_upto_region 21 with fail
                                clear x0 x1 x2 x3 x4
                                obtain ⟨v3, hv3⟩ : ∃ v, v = v2.alloc (.cells #[.slice (some ⟨gB, fB, none⟩) sb.length cB, .slice (some ⟨gY, fY, none⟩) db.length cY] 26) := ⟨_, rfl⟩
                                obtain ⟨TB, hTB⟩ : ∃ T, T = v2.heap.size := ⟨_, rfl⟩
                                rw [← hv3, ← hTB]
                                obtain ⟨P3, hP⟩ : ∃ P : World → Prop, P = fun W => P2 W ∧ Blk W TB 26 #[.slice (some ⟨gB, fB, none⟩) sb.length cB, .slice (some ⟨gY, fY, none⟩) db.length cY] ∧ Ld W (.slice (some ⟨gB, fB, none⟩) sb.length cB) (sb) ∧ Ld W (.slice (some ⟨gY, fY, none⟩) db.length cY) (db) := ⟨_, rfl⟩
                                have G3 : Hid (P3 v3) := Lib.hid (by rw [hP]; exact ⟨by rw [hv3]; exact P2n.out _ _ G2.out (al_below _), by rw [hv3, hTB]; exact Blk.new _ _ _, by rw [hv3]; exact (HLW.out _ (P1f.out _ (P2f.out _ (P2n.out _ _ G2.out (al_below _))))).2.2.1, by rw [hv3]; exact (HLW.out _ (P1f.out _ (P2f.out _ (P2n.out _ _ G2.out (al_below _))))).2.2.2⟩)
                                have P3f : Hid (∀ W, P3 W → P2 W) := Lib.hid (fun W h => by rw [hP] at h; exact h.1)
                                have P3n : Hid (∀ W W', P3 W → Below W.heap.size W W' → P3 W') := Lib.hid (fun W W' h hb => by rw [hP] at h ⊢; exact ⟨P2n.out _ _ h.1 hb, h.2.1.below hb h.2.1.lt, h.2.2.1.below hb, h.2.2.2.below hb⟩)
                                have P3t : Hid (∀ W, P3 W → (W.cell? ⟨TB, 0, none⟩ = some (.slice (some ⟨gB, fB, none⟩) sb.length cB) ∧ W.cell? ⟨TB, 1, none⟩ = some (.slice (some ⟨gY, fY, none⟩) db.length cY)) ∧ Ld W (.slice (some ⟨gB, fB, none⟩) sb.length cB) (sb) ∧ Ld W (.slice (some ⟨gY, fY, none⟩) db.length cY) (db)) := Lib.hid (fun W h => by rw [hP] at h; exact ⟨⟨(blk2 h.2.1).1, (blk2 h.2.1).2.1⟩, h.2.2⟩)
                                clear hP
                                clear hv3 hTB
                                obtain ⟨x0, x1, x2, x3, x4⟩ := FRk.out _ (P1f.out _ (P2f.out _ (P3f.out _ G3.out)))
                                obtain ⟨⟨y2_0, y2_1⟩, _⟩ := P2t.out _ (P3f.out _ G3.out)
                                obtain ⟨⟨y3_0, y3_1⟩, _⟩ := P3t.out _ G3.out
                                go_upto_region 25 with (go_at_call 18; (with_reducible refine (HKM.out _ _ _ _ _ (P2t.out _ (P3f.out _ G3.out)).2.1 (P2t.out _ (P3f.out _ G3.out)).2.2 (P3t.out _ G3.out).2.1 (P3t.out _ G3.out).2.2).mono ?_); rintro e wz4 ⟨os4, cs4, od4, cd4, rfl, h1, h2, hb⟩; have U4 := Lib.hid (And.intro (P3n.out _ _ G3.out hb) (And.intro h1 h2)); clear h1 h2 hb)
                                obtain ⟨v4', hv⟩ : ∃ v, v = wz4.alloc (.cells #[.slice os4 2 cs4, .slice od4 nt cd4] 26) := ⟨_, rfl⟩
                                obtain ⟨T4, hT⟩ : ∃ T, T = wz4.heap.size := ⟨_, rfl⟩
                                rw [← hv, ← hT]
                                obtain ⟨P4, hP⟩ : ∃ P : World → Prop, P = fun W => P3 W ∧ Blk W T4 26 #[.slice os4 2 cs4, .slice od4 nt cd4] ∧ Ld W (.slice os4 2 cs4) ([(r : Int), (c : Int)]) ∧ Ld W (.slice od4 nt cd4) ((LQ.drop lo2).take nt) := ⟨_, rfl⟩
                                have G4 : Hid (P4 v4') := Lib.hid (by rw [hP]; exact ⟨by rw [hv]; exact P3n.out _ _ U4.out.1 (al_below _), by rw [hv, hT]; exact Blk.new _ _ _, by rw [hv]; exact U4.out.2.1.below (al_below _), by rw [hv]; exact U4.out.2.2.below (al_below _)⟩)
                                have P4f : Hid (∀ W, P4 W → P3 W) := Lib.hid (fun W h => by rw [hP] at h; exact h.1)
                                have P4n : Hid (∀ W W', P4 W → Below W.heap.size W W' → P4 W') := Lib.hid (fun W W' h hb => by rw [hP] at h ⊢; exact ⟨P3n.out _ _ h.1 hb, h.2.1.below hb h.2.1.lt, h.2.2.1.below hb, h.2.2.2.below hb⟩)
                                have P4t : Hid (∀ W, P4 W → (W.cell? ⟨T4, 0, none⟩ = some (.slice os4 2 cs4) ∧ W.cell? ⟨T4, 1, none⟩ = some (.slice od4 nt cd4)) ∧ Ld W (.slice os4 2 cs4) ([(r : Int), (c : Int)]) ∧ Ld W (.slice od4 nt cd4) ((LQ.drop lo2).take nt)) := Lib.hid (fun W h => by rw [hP] at h; exact ⟨⟨(blk2 h.2.1).1, (blk2 h.2.1).2.1⟩, h.2.2⟩)
                                clear hP
                                clear hv hT U4 x0 x1 x2 x3 x4 y2_0 y2_1 y3_0 y3_1
                                have _yy := P1t.out _ (P2f.out _ (P3f.out _ (P4f.out _ G4.out)))
                                clear _yy
                                obtain ⟨g1, f1, ho1, _⟩ := ld_at (HP1L.out _ (P2f.out _ (P3f.out _ (P4f.out _ G4.out)))) (k := lo2) (by rw [hlqH.out]; have := HHL.out; have := HNA.out; omega)
                                subst ho1
                                go_upto_region 25 with fail
                                have KS : Hid (∀ W, P4 W → W.cell? ⟨T4, 1, none⟩ = some (.slice od4 nt cd4) ∧ W.cell? ⟨T1, 1, none⟩ = some (.slice (some ⟨g1, f1, none⟩) mL cd1)) := Lib.hid (fun W h => ⟨(P4t.out _ h).1.2, (P1t.out _ (P2f.out _ (P3f.out _ (P4f.out _ h)))).1.2⟩)
                                have rp := fun (W : World) => run_part Try.underlying24 info64.1 info64.2 g1 f1 mL cd1 lo2 hi2 nt HHL.out.2.1 (by have := HHL.out; have := ld_cap (HP1L.out _ (P2f.out _ (P3f.out _ (P4f.out _ G4.out)))); have := hlqH.out; omega) HNA.out.2 W
                                go_cut [188] (fun s188 wx => s188 = .bool false ∧ Hid (P4 wx))
                                case first =>
                                  as_aux_lemma =>
                                  obtain ⟨_, _, ⟨e1, e2⟩, ⟨e3, e4⟩, e5, e6⟩ := HWR.out
                                  have B_0 : Hid (P4 v4'.drew) := Lib.hid (P4n.out _ _ G4.out (below_drw (Below.refl _ _) 1))
                                  refine wp_region_held_drew (S := fun W => W.cell? ⟨T4, 1, none⟩ = some (.slice od4 nt cd4) ∧ W.cell? ⟨T1, 1, none⟩ = some (.slice (some ⟨g1, f1, none⟩) mL cd1)) (by kernel_rfl) ?_ (fun hHeld => ?_)
                                  · exact KS.out _ B_0.out
                                  have hHd := hHeld
                                  generalize v4'.drew = w_0 at *
                                  (refine wpAnyH_take (i := 0) (oi := ⟨some 170, _, _, _, _, _⟩) (v := ?v0_cp1) rfl (by kernel_rfl) (by kernel_rfl) (by kernel_rfl) (fun _ _ _ h => h) (Or.inl ⟨by rfl, ?hy0_cp1⟩) (by assumption) ?rest0_cp1; (case hy0_cp1 => ((intro w hSw); (try dsimp only at hSw); go_simp; first | done | (with_reducible rfl))))
                                  (try simp only [Act.put, List.setIfInBounds_toArray, List.set_cons_zero, List.set_cons_succ])
                                  refine wpAnyH_ready (rs := [1]) (by kernel_rfl) (by simp) ?_
                                  refine AllReadyH.cons (o := ⟨some 171, _, _, _, _, _⟩) rfl (fun K hK => ?_) (AllReadyH.nil)
                                  go_simp
                                  (go_at_call 15; (with_reducible refine (num10_any _ _).mono ?_); rintro e w' ⟨rfl, rfl⟩)
                                  refine hK.out _ _ ?_ (fun hHeld => ?_)
                                  · (try dsimp only)
                                    exact KS.out _ B_0.out
                                  clear hK K
                                  (try simp only [Act.put, List.setIfInBounds_toArray, List.set_cons_zero, List.set_cons_succ])
                                  (refine wpAnyH_take (i := 2) (oi := ⟨some 172, _, _, _, _, _⟩) (v := ?v2_cp2) rfl (by kernel_rfl) (by kernel_rfl) (by kernel_rfl) (fun _ _ _ h => h) (Or.inl ⟨by rfl, ?hy2_cp2⟩) (by assumption) ?rest2_cp2; (case hy2_cp2 => ((intro w hSw); (try dsimp only at hSw); go_simp; first | done | (with_reducible rfl))))
                                  (try simp only [Act.put, List.setIfInBounds_toArray, List.set_cons_zero, List.set_cons_succ])
                                  (refine wpAnyH_take (i := 3) (oi := ⟨some 173, _, _, _, _, _⟩) (v := .bool false) rfl (by kernel_rfl) (by kernel_rfl) (by kernel_rfl) (fun _ _ _ h => h) (Or.inl ⟨by rfl, ?hy3_cp3⟩) (by assumption) ?rest3_cp3; (case hy3_cp3 => ((intro w hSw); (try dsimp only at hSw); go_simp; first | done | (with_reducible rfl))))
                                  (try simp only [Act.put, List.setIfInBounds_toArray, List.set_cons_zero, List.set_cons_succ])
                                  (refine wpAnyH_take (i := 4) (oi := ⟨some 174, _, _, _, _, _⟩) (v := ?v4_cp4) rfl (by kernel_rfl) (by kernel_rfl) (by kernel_rfl) (fun _ _ _ h => h) (Or.inl ⟨by rfl, ?hy4_cp4⟩) (by assumption) ?rest4_cp4; (case hy4_cp4 => ((intro w hSw); (try dsimp only at hSw); go_simp; first | done | (with_reducible rfl))))
                                  (try simp only [Act.put, List.setIfInBounds_toArray, List.set_cons_zero, List.set_cons_succ])
                                  (refine wpAnyH_take (i := 5) (oi := ⟨some 175, _, _, _, _, _⟩) (v := ?v5_cp5) rfl (by kernel_rfl) (by kernel_rfl) (by kernel_rfl) (fun _ _ _ h => h) (Or.inl ⟨by rfl, ?hy5_cp5⟩) (by assumption) ?rest5_cp5; (case hy5_cp5 => ((intro w hSw); (try dsimp only at hSw); go_simp; first | done | (with_reducible rfl))))
                                  (try simp only [Act.put, List.setIfInBounds_toArray, List.set_cons_zero, List.set_cons_succ])
                                  (refine wpAnyH_take (i := 6) (oi := ⟨some 176, _, _, _, _, _⟩) (v := ?v6_cp6) rfl (by kernel_rfl) (by kernel_rfl) (by kernel_rfl) (fun _ _ _ h => h) (Or.inl ⟨by rfl, ?hy6_cp6⟩) (by assumption) ?rest6_cp6; (case hy6_cp6 => ((intro w hSw); (try dsimp only at hSw); go_simp; first | done | (with_reducible rfl))))
                                  (try simp only [Act.put, List.setIfInBounds_toArray, List.set_cons_zero, List.set_cons_succ])
                                  (refine wpAnyH_take (i := 7) (oi := ⟨some 177, _, _, _, _, _⟩) (v := ?v7_cp7) rfl (by kernel_rfl) (by kernel_rfl) (by kernel_rfl) (fun _ _ _ h => h) (Or.inl ⟨by rfl, ?hy7_cp7⟩) (by assumption) ?rest7_cp7; (case hy7_cp7 => ((intro w hSw); (try dsimp only at hSw); go_simp; first | done | (with_reducible rfl))))
                                  (try simp only [Act.put, List.setIfInBounds_toArray, List.set_cons_zero, List.set_cons_succ])
                                  (refine wpAnyH_take (i := 8) (oi := ⟨some 178, _, _, _, _, _⟩) (v := ?v8_cp8) rfl (by kernel_rfl) (by kernel_rfl) (by kernel_rfl) (fun _ _ _ h => h) (Or.inl ⟨by rfl, ?hy8_cp8⟩) (by assumption) ?rest8_cp8; (case hy8_cp8 => ((intro w hSw); (try dsimp only at hSw); go_simp; first | done | (with_reducible rfl))))
                                  (try simp only [Act.put, List.setIfInBounds_toArray, List.set_cons_zero, List.set_cons_succ])
                                  (refine wpAnyH_take (i := 9) (oi := ⟨some 179, _, _, _, _, _⟩) (v := ?v9_cp9) rfl (by kernel_rfl) (by kernel_rfl) (by kernel_rfl) (fun _ _ _ h => h) (Or.inl ⟨by rfl, ?hy9_cp9⟩) (by assumption) ?rest9_cp9; (case hy9_cp9 => ((intro w hSw); (try dsimp only at hSw); go_simp; first | done | (with_reducible rfl))))
                                  (try simp only [Act.put, List.setIfInBounds_toArray, List.set_cons_zero, List.set_cons_succ])
                                  (refine wpAnyH_take (i := 10) (oi := ⟨some 180, _, _, _, _, _⟩) (v := ?v10_cp10) rfl (by kernel_rfl) (by kernel_rfl) (by kernel_rfl) (fun _ _ _ h => h) (Or.inl ⟨by rfl, ?hy10_cp10⟩) (by assumption) ?rest10_cp10; (case hy10_cp10 => ((intro w hSw); (try dsimp only at hSw); go_simp; first | done | (with_reducible rfl))))
                                  (try simp only [Act.put, List.setIfInBounds_toArray, List.set_cons_zero, List.set_cons_succ])
                                  (refine wpAnyH_take (i := 11) (oi := ⟨some 181, _, _, _, _, _⟩) (v := ?v11_cp11) rfl (by kernel_rfl) (by kernel_rfl) (by kernel_rfl) (fun _ _ _ h => h) (Or.inl ⟨by rfl, ?hy11_cp11⟩) (by assumption) ?rest11_cp11; (case hy11_cp11 => ((intro w hSw); (try dsimp only at hSw); go_simp; first | done | (with_reducible rfl))))
                                  (try simp only [Act.put, List.setIfInBounds_toArray, List.set_cons_zero, List.set_cons_succ])
                                  (refine wpAnyH_take (i := 12) (oi := ⟨some 182, _, _, _, _, _⟩) (v := ?v12_cp12) rfl (by kernel_rfl) (by kernel_rfl) (by kernel_rfl) (fun _ _ _ h => h) (Or.inl ⟨by rfl, ?hy12_cp12⟩) (by assumption) ?rest12_cp12; (case hy12_cp12 => ((intro w hSw); (try dsimp only at hSw); go_simp; first | done | (with_reducible rfl))))
                                  (try simp only [Act.put, List.setIfInBounds_toArray, List.set_cons_zero, List.set_cons_succ])
                                  (refine wpAnyH_take (i := 13) (oi := ⟨some 183, _, _, _, _, _⟩) (v := ?v13_cp13) rfl (by kernel_rfl) (by kernel_rfl) (by kernel_rfl) (fun _ _ _ h => h) (Or.inl ⟨by rfl, ?hy13_cp13⟩) (by assumption) ?rest13_cp13; (case hy13_cp13 => ((intro w hSw); (try dsimp only at hSw); go_simp; first | done | (with_reducible rfl))))
                                  (try simp only [Act.put, List.setIfInBounds_toArray, List.set_cons_zero, List.set_cons_succ])
                                  (refine wpAnyH_take (i := 14) (oi := ⟨some 184, _, _, _, _, _⟩) (v := ?v14_cp14) rfl (by kernel_rfl) (by kernel_rfl) (by kernel_rfl) (fun _ _ _ h => h) (Or.inl ⟨by rfl, ?hy14_cp14⟩) (by assumption) ?rest14_cp14; (case hy14_cp14 => ((intro w hSw); (try dsimp only at hSw); go_simp; first | done | (with_reducible rfl))))
                                  (try simp only [Act.put, List.setIfInBounds_toArray, List.set_cons_zero, List.set_cons_succ])
                                  (refine wpAnyH_take (i := 15) (oi := ⟨some 185, _, _, _, _, _⟩) (v := ?v15_cp15) rfl (by kernel_rfl) (by kernel_rfl) (by kernel_rfl) (fun _ _ _ h => h) (Or.inl ⟨by rfl, ?hy15_cp15⟩) (by assumption) ?rest15_cp15; (case hy15_cp15 => ((intro w hSw); (try dsimp only at hSw); go_simp; first | done | (with_reducible rfl))))
                                  (try simp only [Act.put, List.setIfInBounds_toArray, List.set_cons_zero, List.set_cons_succ])
                                  refine wpAnyH_ready (rs := [16]) (by kernel_rfl) (by simp) ?_
                                  refine AllReadyH.cons (o := ⟨some 186, _, _, _, _, _⟩) rfl (fun K hK => ?_) (AllReadyH.nil)
                                  go_simp
                                  (go_at_call 21; (with_reducible refine (KEW.out _ _ _ _ HHL.out.2.2.2 (P4t.out _ B_0.out).2.2 (ld_part (HP1L.out _ (P2f.out _ (P3f.out _ (P4f.out _ B_0.out)))) (lo := lo2) (N := nt) (by rw [hlqH.out]; exact HHL.out.2.2.2))).mono ?_); rintro e w_e2 ⟨rfl, hb⟩; have B_e2 := Lib.hid (P4n.out _ _ B_0.out hb); clear hb)
                                  refine hK.out _ _ ?_ (fun hHeld => ?_)
                                  · (try dsimp only)
                                    exact KS.out _ B_e2.out
                                  clear hK K
                                  (try simp only [Act.put, List.setIfInBounds_toArray, List.set_cons_zero, List.set_cons_succ])
                                  (refine wpAnyH_take (i := 17) (oi := ⟨some 187, _, _, _, _, _⟩) (v := ?v17_cp16) rfl (by kernel_rfl) (by kernel_rfl) (by kernel_rfl) (fun _ _ _ h => h) (Or.inl ⟨by rfl, ?hy17_cp16⟩) (by assumption) ?rest17_cp16; (case hy17_cp16 => ((intro w hSw); (try dsimp only at hSw); go_simp; first | done | (with_reducible rfl))))
                                  (try simp only [Act.put, List.setIfInBounds_toArray, List.set_cons_zero, List.set_cons_succ])
                                  (refine wpAnyH_take (i := 18) (oi := ⟨some 188, _, _, _, _, _⟩) (v := ?v18_cp17) rfl (by kernel_rfl) (by kernel_rfl) (by kernel_rfl) (fun _ _ _ h => h) (Or.inl ⟨by rfl, ?hy18_cp17⟩) (by assumption) ?rest18_cp17; (case hy18_cp17 => ((intro w hSw); (try dsimp only at hSw); go_simp; first | done | (with_reducible rfl))))
                                  (try simp only [Act.put, List.setIfInBounds_toArray, List.set_cons_zero, List.set_cons_succ])
                                  refine wpAnyH_done (by kernel_rfl) ?_ _
                                  go_wp2
                                  go_meet
                                  exact ⟨rfl, B_e2⟩
                                case rest =>
                                  as_aux_lemma =>
                                  obtain ⟨rfl, GW⟩ := hcut
                                  clear rp KS
                                  go_wp2
                                  exact ⟨⟨j + 1, by omega, by go_num, Lib.hid (P2f.out _ (P3f.out _ (P4f.out _ GW.out)))⟩, by simp [intOf]; omega⟩
                          · as_aux_lemma =>
                            obtain rfl : j = K := by omega
                            obtain ⟨a0, a1, a2⟩ := HSA.out _ (P1f.out _ HG.out)
                            clear hlt
                            go_wp2
                            exact ⟨⟨k + 1, by omega, by go_num, hB.trans ((FRb.out _ (P1f.out _ HG.out)).mono hBs)⟩, by simp [intOf]; omega⟩
                · as_aux_lemma =>
                  have b1 : (M != 0) = false := by rw [hM0]; rfl
                  have b2 : (E != 0) = true := bne_iff_ne.2 hE0
                  clear hM0 hE0
                  go_wp2_with (go_at_call 15; (with_reducible refine (num10_any _ _).mono ?_); rintro e w' ⟨rfl, rfl⟩)
                  exact ⟨⟨k + 1, by omega, by go_num, hB.trans ((FRb.out _ (P1f.out _ GQ.out)).mono hBs)⟩, by simp [intOf]; omega⟩
              · as_aux_lemma =>
                have b1 : (M != 0) = true := bne_iff_ne.2 hM0
                clear hM0
                go_wp2_with (go_at_call 15; (with_reducible refine (num10_any _ _).mono ?_); rintro e w' ⟨rfl, rfl⟩)
                exact ⟨⟨k + 1, by omega, by go_num, hB.trans ((FRb.out _ (P1f.out _ GQ.out)).mono hBs)⟩, by simp [intOf]; omega⟩
            · as_aux_lemma =>
              have hr2 : ((sa.length : Int) != 3) = true := by rw [bne_iff_ne]; omega
              clear ta tb hr
              go_wp2_with (first | (go_at_call 11; (with_reducible refine (LG.out _ (K0.out _)).mono ?_); rintro e w2 ⟨rfl, hb2⟩; have F2 := Lib.hid (FRs.out _ hb2); obtain ⟨x0, x1, x2, x3, x4⟩ := FRk.out _ F2.out; clear hb2) | (go_at_call 12; (with_reducible refine (KMA.out _ (FRb.out _ F2.out)).mono ?_); rintro e w4 ⟨rfl, hb4⟩; have F4 := Lib.hid (FRn.out _ _ F2.out hb4); obtain ⟨x0, x1, x2, x3, x4⟩ := FRk.out _ F4.out; clear hb4) | (go_at_call 12; (with_reducible refine (KMB.out _ (FRb.out _ F4.out)).mono ?_); rintro e w5 ⟨rfl, hb5⟩; have F5 := Lib.hid (FRn.out _ _ F4.out hb5); obtain ⟨x0, x1, x2, x3, x4⟩ := FRk.out _ F5.out; clear hb5))
              exact ⟨⟨k + 1, by omega, by go_num, hB.trans ((FRb.out _ F5.out).mono hBs)⟩, by simp [intOf]; omega⟩

    · as_aux_lemma =>
      by_cases g1 : k < len
      · have g2 : 6 ≤ k := by omega
        clear g
        go_wp2_with (go_at_call 19; (with_reducible refine (wakes10_any _).mono ?_); rintro e w9 ⟨rfl, hb9⟩)
        go_ret
        exact ⟨rfl, hB.trans (hb9.mono hBs)⟩
      · have g2 : len ≤ k := by omega
        clear g g1
        go_wp2_with (go_at_call 19; (with_reducible refine (wakes10_any _).mono ?_); rintro e w9 ⟨rfl, hb9⟩)
        go_ret
        exact ⟨rfl, hB.trans (hb9.mono hBs)⟩
end Go.Proofs.Ytlidkeabadioeaa
