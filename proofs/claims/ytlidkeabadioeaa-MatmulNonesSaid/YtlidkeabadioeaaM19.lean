/-
  MatmulNones' loop.
-/
import Derived.BigQuiet
import Derived.Deep.RegionHeld3
import Derived.Test.YtlidkeabadioeaaM01
import Derived.Test.YtlidkeabadioeaaM10
import Derived.Test.YtlidkeabadioeaaM17
import Derived.Test.YtlidkeabadioeaaM18
namespace Go.Proofs.Ytlidkeabadioeaa
open Go.RowKit Go.Shelf

theorem Ld.of_own {W : World} {base c : Nat} {o : Option Addr} {e : TypeId} {ls : List Int} (h : W.ownsRow base e 1 (.slice o ls.length c) ls.length (ints ls)) : Ld W (.slice o ls.length c) ls := by
  obtain ⟨_, _, e1, h3⟩ := Ld.of_owns h
  simp only [Value.slice.injEq] at e1
  obtain ⟨rfl, _, rfl⟩ := e1
  exact h3
theorem Ld.of_own' {W : World} {base n c : Nat} {o : Option Addr} {e : TypeId} {ls : List Int} (h : W.ownsRow base e 1 (.slice o n c) n (ints ls)) (hn : ls.length = n) : Ld W (.slice o n c) ls := by
  subst hn; exact Ld.of_own h
/-- The n-th number's cell. -/
theorem ld_at {W : World} {o : Option Addr} {n c k : Nat} {ls : List Int} (h : Ld W (.slice o n c) ls) (hk : k < ls.length) : ∃ g f, o = some ⟨g, f, none⟩ ∧ W.cell? ⟨g, f + k, none⟩ = some (.int .i64 (ls.getD k 0)) := by
  obtain ⟨o2, c2, e, _, h2⟩ := h
  simp only [Value.slice.injEq] at e
  obtain ⟨rfl, _, rfl⟩ := e
  obtain ⟨g, f, e1, _, h4⟩ := h2 k hk
  exact ⟨g, f, e1, h4⟩
/-- A told tensor, its lists' lengths by name. -/
def TyL (W : World) (E : Int) (S : List Int) (ms : Nat) (D : List Int) (md : Nat) (e : Ending) (w' : World) : Prop := ∃ os cs od cd, e = .returned (.tuple #[.agg #[.slice os ms cs, .slice od md cd], .int .i64 E]) ∧ Ld w' (.slice os ms cs) S ∧ Ld w' (.slice od md cd) D ∧ Below W.heap.size W w'
theorem tyL_of {W w' : World} {E : Int} {S D : List Int} {ms md : Nat} {e : Ending} (hs : ms = S.length) (hd : md = D.length) (h : SomeT W E S D e w') : TyL W E S ms D md e w' := by
  subst hs hd
  obtain ⟨o, c, o2, c2, rfl, h1, h2, h3⟩ := ty_of h
  exact ⟨o, c, o2, c2, rfl, h1, h2, h3⟩
theorem ld_nod {W : World} {g n : Nat} (h : Blk W g 2 (ints (nod n)).toArray) : Ld W (.slice (some ⟨g, 0, none⟩) n n) (nod n) := by
  have q := Ld.of_blk (c := n) h (by simp [nod])
  rwa [show (nod n).length = n by simp [nod]] at q
theorem unl_muw_len (a da b db : List Int) (f : Nat) : (unl (mue a da b db f) (muw a da b db f)).length ≤ 65536 := by
  unfold unl
  split
  · next h => rw [muw_len]; exact (mun_msh (mue_ok h).2.1).2
  · exact Nat.zero_le _
theorem muw_wd (a da b db : List Int) (f m : Nat) : wd ((muw a da b db f).getD m 0) = true := by
  by_cases h : m < mun a b
  · rw [muw_at h]; exact wd_tw _
  · rw [getD_past (by rw [muw_len]; omega)]; decide

set_option maxRecDepth 100000 in
set_option maxHeartbeats 6000000 in
theorem matmulnones_any (bb oo len cap : Nat) (es : Nat → Mk) (w : World) (_hl : len ≤ 9223372036854775807) (hb : bb < w.heap.size) (hT : ∀ i, i < len → MkAt w bb (oo + i * 5) (es i)) (hok : ∀ i, i < len → (es i).ok w) :
    Calls Try.prog 3 #[.slice (some ⟨bb, oo, none⟩) len cap] w fun e w' => e = .returned (.bool true) ∧ Below w.heap.size w w' := by
  have HT := Lib.hid (And.intro hT hok)
  clear hT hok
  go_enter Try.func3, Try.ntmps3
  go_wp2
  go_loopw [3] (fun s3 wQ => ∃ k : Nat, k ≤ len ∧ s3 = .int .i64 k ∧ Below w.heap.size w wQ) (fun s3 _ => len - (intOf s3).toNat)
  case atStart => exact ⟨0, Nat.zero_le _, rfl, Below.refl _ _⟩
  case round =>
    obtain ⟨k, hk, rfl, hB⟩ := hrel
    have hBs := hB.size
    obtain ⟨w1, hw1⟩ : ∃ w1, w1 = wr := ⟨_, rfl⟩
    subst hw1
    by_cases g : k < len ∧ k < 6
    · obtain ⟨g1, g2⟩ := g
      obtain ⟨t0, t1, t2, t3, t4⟩ := (HT.out.1 k (by omega)).below hB hb
      obtain ⟨⟨hA, hX, hV, hY⟩, ⟨l0, l1, l2, l3⟩, ⟨a0, a1⟩⟩ := HT.out.2 k (by omega)
      replace hA := hA.below hB
      replace hX := hX.below hB
      replace hV := hV.below hB
      replace hY := hY.below hB
      generalize es k = p at *
      obtain ⟨vA, vX, vB, vY, sa, da, sb, db, f⟩ := p
      simp only at t0 t1 t2 t3 t4 hA hX hV hY l0 l1 l2 l3 a0 a1
      obtain ⟨oA, cA, rfl, _, _⟩ := id hA
      obtain ⟨oX, cX, rfl, _, hxX⟩ := id hX
      obtain ⟨oB, cB, rfl, _, _⟩ := id hV
      obtain ⟨oY, cY, rfl, _, hxY⟩ := id hY
      have HXX := Lib.hid (And.intro hxX hxY)
      clear hxX hxY
      have K0 := Lib.hid (fun o => (Below.refl w1.heap.size w1).alloc (Nat.le_refl _) o)
      have K4 := Lib.hid (Blk.new w1 28 #[.slice oA sa.length cA, .slice oX da.length cX, .slice oB sb.length cB, .slice oY db.length cY, .int .i64 f])
      obtain ⟨FR, hFR⟩ : ∃ FR : World → Prop, FR = fun W => Below w1.heap.size w1 W ∧ Blk W w1.heap.size 28 #[.slice oA sa.length cA, .slice oX da.length cX, .slice oB sb.length cB, .slice oY db.length cY, .int .i64 f] := ⟨_, rfl⟩
      have FRb : Hid (∀ W, FR W → Below w1.heap.size w1 W) := Lib.hid (fun W h => by rw [hFR] at h; exact h.1)
      have FRk := Lib.hid (fun (W : World) (h : FR W) => blk5m (by rw [hFR] at h; exact h.2 : Blk W w1.heap.size 28 #[.slice oA sa.length cA, .slice oX da.length cX, .slice oB sb.length cB, .slice oY db.length cY, .int .i64 f]))
      have FRn : Hid (∀ W W', FR W → Below W.heap.size W W' → FR W') := Lib.hid (fun W W' h hb => by rw [hFR] at h ⊢; exact ⟨h.1.trans (hb.mono h.1.size), h.2.below hb h.2.lt⟩)
      have FRl : Hid (∀ W, FR W → w1.heap.size < W.heap.size) := Lib.hid (fun W h => by rw [hFR] at h; exact h.2.lt)
      have FRs : Hid (∀ W, Below (w1.alloc (.cells #[.slice oA sa.length cA, .slice oX da.length cX, .slice oB sb.length cB, .slice oY db.length cY, .int .i64 f] 28)).heap.size (w1.alloc (.cells #[.slice oA sa.length cA, .slice oX da.length cX, .slice oB sb.length cB, .slice oY db.length cY, .int .i64 f] 28)) W → FR W) := Lib.hid (fun W h => by rw [hFR]; exact ⟨(K0.out _).trans (h.mono (by simp)), K4.out.below h K4.out.lt⟩)
      clear hFR
      have LG := Lib.hid (fun (W : World) (hW : Below w1.heap.size w1 W) => heavy10_any _ _ _ _ sa da sb db f W (hA.below hW) (hX.below hW) (hV.below hW) (hY.below hW) (by omega) (by omega) (by omega) (by omega))
      cases lg : (hv8 40 sa da || hv8 40 sb db) with
      | true =>
        as_aux_lemma =>
        rw [lg] at LG
        clear lg hA hX hV hY
        go_wp2_with (go_at_call 11; (with_reducible refine (LG.out _ (K0.out _)).mono ?_); rintro e w2 ⟨rfl, hb2⟩; have F2 := Lib.hid (FRs.out _ hb2); obtain ⟨x0, x1, x2, x3, x4⟩ := FRk.out _ F2.out; clear hb2)
        go_ret
        exact ⟨rfl, hB.trans ((FRb.out _ F2.out).mono hBs)⟩
      | false =>
        rw [lg] at LG
        have na := hv10_no lg
        have HL := Lib.hid (And.intro hA (And.intro hX (And.intro hV hY)))
        have KMA := Lib.hid (fun (W : World) (hW : Below w1.heap.size w1 W) => rmay8_any _ _ sa da W (hA.below hW) (hX.below hW) (by omega) (by omega))
        have KMB := Lib.hid (fun (W : World) (hW : Below w1.heap.size w1 W) => rmay8_any _ _ sb db W (hV.below hW) (hY.below hW) (by omega) (by omega))
        clear lg hA hX hV hY
        cases ta : tnb sa da with
        | false =>
          as_aux_lemma =>
          rw [ta] at KMA
          clear ta
          go_wp2_with (first | (go_at_call 11; (with_reducible refine (LG.out _ (K0.out _)).mono ?_); rintro e w2 ⟨rfl, hb2⟩; have F2 := Lib.hid (FRs.out _ hb2); obtain ⟨x0, x1, x2, x3, x4⟩ := FRk.out _ F2.out; clear hb2) | (go_at_call 12; (with_reducible refine (KMA.out _ (FRb.out _ F2.out)).mono ?_); rintro e w4 ⟨rfl, hb4⟩; have F4 := Lib.hid (FRn.out _ _ F2.out hb4); obtain ⟨x0, x1, x2, x3, x4⟩ := FRk.out _ F4.out; clear hb4))
          exact ⟨⟨k + 1, by omega, by go_num, hB.trans ((FRb.out _ F4.out).mono hBs)⟩, by simp [intOf]; omega⟩
        | true =>
          rw [ta] at KMA
          cases tb : tnb sb db with
          | false =>
            as_aux_lemma =>
            rw [tb] at KMB
            clear ta tb
            go_wp2_with (first | (go_at_call 11; (with_reducible refine (LG.out _ (K0.out _)).mono ?_); rintro e w2 ⟨rfl, hb2⟩; have F2 := Lib.hid (FRs.out _ hb2); obtain ⟨x0, x1, x2, x3, x4⟩ := FRk.out _ F2.out; clear hb2) | (go_at_call 12; (with_reducible refine (KMA.out _ (FRb.out _ F2.out)).mono ?_); rintro e w4 ⟨rfl, hb4⟩; have F4 := Lib.hid (FRn.out _ _ F2.out hb4); obtain ⟨x0, x1, x2, x3, x4⟩ := FRk.out _ F4.out; clear hb4) | (go_at_call 12; (with_reducible refine (KMB.out _ (FRb.out _ F4.out)).mono ?_); rintro e w5 ⟨rfl, hb5⟩; have F5 := Lib.hid (FRn.out _ _ F4.out hb5); obtain ⟨x0, x1, x2, x3, x4⟩ := FRk.out _ F5.out; clear hb5))
            exact ⟨⟨k + 1, by omega, by go_num, hB.trans ((FRb.out _ F5.out).mono hBs)⟩, by simp [intOf]; omega⟩
          | true =>
            rw [tb] at KMB
            by_cases hr : 2 ≤ sa.length
            · skip
              as_aux_lemma =>
              obtain ⟨p, A, B, K, hpa, hpK, hpp, hp1, hpN, hp6, hpl⟩ := turn_parts (tnb_parts ta).1 hr
              have la := (tnb_parts ta).2.1
              have lsa := may_len (tnb_parts ta).1
              have lsb := may_len (tnb_parts tb).1
              have hdl : da.length = K * (A * B) := by omega
              have HWD : Hid (∀ q, q < da.length → -140737488355328 < da.getD q 0 ∧ da.getD q 0 < 140737488355328) := Lib.hid (fun q hq => wds_at (tnb_parts ta).2.2 hq)
              obtain ⟨fN, hfN⟩ : ∃ fN : Nat, (fN : Int) = 8 + f % 18446744073709551616 % 25 := ⟨(8 + f % 18446744073709551616 % 25).toNat, by omega⟩
              have hfb : fb fN = true := fb_mk (by omega)
              have KFF : Hid (∀ W : World, Calls Try.prog 13 #[.int .i64 f] W fun e w' => e = .returned (.int .i64 (fN : Int)) ∧ W = w') := Lib.hid (fun W => by rw [hfN]; exact ff_any f W)
              have HLW : Hid (∀ W, FR W → Ld W (.slice oA sa.length cA) sa ∧ Ld W (.slice oX da.length cX) da ∧ Ld W (.slice oB sb.length cB) sb ∧ Ld W (.slice oY db.length cY) db) := Lib.hid (fun W h => ⟨HL.out.1.below (FRb.out _ h), HL.out.2.1.below (FRb.out _ h), HL.out.2.2.1.below (FRb.out _ h), HL.out.2.2.2.below (FRb.out _ h)⟩)
              obtain ⟨S1, hS1⟩ : ∃ S, S = p ++ [(B : Int), (A : Int)] := ⟨_, rfl⟩
              obtain ⟨D1, hD1⟩ : ∃ D, D = tnn K A B da := ⟨_, rfl⟩
              obtain ⟨m1, hm1⟩ : ∃ m, m = S1.length := ⟨_, rfl⟩
              obtain ⟨n1, hn1⟩ : ∃ m, m = D1.length := ⟨_, rfl⟩
              have K1 : Hid (∀ W, FR W → Calls Try.prog 14 #[.agg #[.slice oA sa.length cA, .slice oX da.length cX]] W (TyL W 0 S1 m1 D1 n1)) := Lib.hid (fun W h => by
                rw [hS1] at hm1; rw [hD1] at hn1; rw [hS1, hD1]
                exact (turn_ok _ _ sa da p A B K W (HLW.out _ h).1 (HLW.out _ h).2.1 ta hpa hpK hpp hp1 hpN hp6 hpl).mono (fun _ _ hh => tyL_of hm1 hn1 hh))
              have K2 : Hid (∀ W vs vd, Ld W vs S1 → Ld W vd D1 → Calls Try.prog 14 #[.agg #[vs, vd]] W (TyL W 0 sa sa.length da da.length)) := Lib.hid (fun W vs vd h1 h2 => by
                rw [hS1] at h1; rw [hD1] at h2
                have q := turn_ok vs vd _ _ p B A K W h1 h2 (tnn_tnb (by rw [← hpa]; exact ta) hpK) rfl hpK hpp ⟨hp1.2.1, hp1.1, hp1.2.2⟩ (prod_two p B A K hpK) (by rw [Nat.mul_comm B A]; exact hp6) hpl
                rw [tnn_twice hdl, ← hpa] at q
                exact q.mono (fun _ _ hh => tyL_of rfl rfl hh))
              have KE := Lib.hid (fun W va vb ua ub (ha : Ld W va sa) (hb : Ld W vb da) (hc : Ld W ua sa) (hd : Ld W ub da) => eqtensor_same va vb ua ub _ _ W ha hb hc hd (by omega) (by omega))
              have KCP : Hid (∀ W, FR W → Calls Try.prog 17 #[.agg #[.slice oA sa.length cA, .slice oX da.length cX]] W (SomeCT W sa da)) := Lib.hid (fun W h => copytens_any _ _ sa da W (HLW.out _ h).1 (HLW.out _ h).2.1 (by omega) (by omega))
              obtain ⟨E, hE⟩ : ∃ E, E = mue sa da sb db fN := ⟨_, rfl⟩
              obtain ⟨S, hS⟩ : ∃ S, S = msh sa sb := ⟨_, rfl⟩
              obtain ⟨LW, hL⟩ : ∃ L, L = muw sa da sb db fN := ⟨_, rfl⟩
              obtain ⟨mS, hmS⟩ : ∃ m, m = (unl E S).length := ⟨_, rfl⟩
              obtain ⟨mL, hmL⟩ : ∃ m, m = (unl E LW).length := ⟨_, rfl⟩
              have hmL2 : mL = (unl E (ngd LW)).length := by rw [hmL]; unfold unl; split <;> simp [ngd_len]
              have K4 : Hid (∀ W, FR W → Calls Try.prog 18 #[.agg #[.slice oA sa.length cA, .slice oX da.length cX], .agg #[.slice oB sb.length cB, .slice oY db.length cY], .int .i64 (fN : Int)] W (TyL W E (unl E S) mS (unl E LW) mL)) := Lib.hid (fun W h => by
                have q := mul_all _ _ _ _ sa da sb db fN W (HLW.out _ h).1 (HLW.out _ h).2.1 (HLW.out _ h).2.2.1 (HLW.out _ h).2.2.2 ta tb hfb
                rw [← hE, ← hS, ← hL] at q
                exact q.mono (fun _ _ hh => tyL_of hmS hmL hh))
              have K5 : Hid (∀ W vs vd, FR W → Ld W vs sa → Ld W vd (ngd da) → Calls Try.prog 18 #[.agg #[vs, vd], .agg #[.slice oB sb.length cB, .slice oY db.length cY], .int .i64 (fN : Int)] W (TyL W E (unl E S) mS (unl E (ngd LW)) mL)) := Lib.hid (fun W vs vd h h1 h2 => by
                have q := mul_all vs vd _ _ sa (ngd da) sb db fN W h1 h2 (HLW.out _ h).2.2.1 (HLW.out _ h).2.2.2 (ngd_tnb ta) tb hfb
                rw [mue_neg, muw_neg, ← hE, ← hS, ← hL] at q
                exact q.mono (fun _ _ hh => tyL_of hmS hmL2 hh))
              have HUL : Hid ((unl E LW).length = mL ∧ (unl E (ngd LW)).length = mL ∧ (∀ m, (unl E (ngd LW)).getD m 0 = -((unl E LW).getD m 0)) ∧ ∀ m, -140737488355328 < (unl E LW).getD m 0 ∧ (unl E LW).getD m 0 < 140737488355328) := Lib.hid (by
                refine ⟨hmL.symm, hmL2.symm, fun m => ?_, fun m => ?_⟩
                · unfold unl; split
                  · exact ngd_at LW m
                  · simp
                · unfold unl; split
                  · rw [hL]; exact wd_bd (muw_wd _ _ _ _ _ m)
                  · simp)
              obtain ⟨E3, hE3⟩ : ∃ E, E = mue sa (nod da.length) sb db fN := ⟨_, rfl⟩
              obtain ⟨L3, hL3⟩ : ∃ L, L = muw sa (nod da.length) sb db fN := ⟨_, rfl⟩
              obtain ⟨mS3, hmS3⟩ : ∃ m, m = (unl E3 S).length := ⟨_, rfl⟩
              obtain ⟨mL3, hmL3⟩ : ∃ m, m = (unl E3 L3).length := ⟨_, rfl⟩
              have K7 : Hid (∀ W vd, FR W → Ld W vd (nod da.length) → Calls Try.prog 18 #[.agg #[.slice oA sa.length cA, vd], .agg #[.slice oB sb.length cB, .slice oY db.length cY], .int .i64 (fN : Int)] W (TyL W E3 (unl E3 S) mS3 (unl E3 L3) mL3)) := Lib.hid (fun W vd h h2 => by
                have q := mul_all _ vd _ _ sa (nod da.length) sb db fN W (HLW.out _ h).1 h2 (HLW.out _ h).2.2.1 (HLW.out _ h).2.2.2 (nod_tnb ta) tb hfb
                rw [← hE3, ← hS, ← hL3] at q
                exact q.mono (fun _ _ hh => tyL_of hmS3 hmL3 hh))
              have HE3 : Hid (E = 0 → E3 = 0) := Lib.hid (fun h => by rw [hE3]; rw [hE] at h; exact (none_is sa da sb db fN da.length).1 h)
              have H3 : Hid ((unl E3 L3).length = mL3 ∧ ∀ m, (unl E3 L3).getD m 0 = 0) := Lib.hid ⟨hmL3.symm, fun m => by
                unfold unl; split
                · rw [hL3]; exact (none_is sa da sb db fN da.length).2 m
                · simp⟩
              have HLN := Lib.hid (And.intro na.1.1 na.2.1)
              have hmL6 : mL ≤ 65536 := by rw [hmL, hE, hL]; exact unl_muw_len _ _ _ _ _
              have hmL36 : mL3 ≤ 65536 := by rw [hmL3, hE3, hL3]; exact unl_muw_len _ _ _ _ _
              have hr2 : ¬ ((sa.length : Int) < 2) := by omega
              clear hr ta tb hpa hpK hpp hp1 hpN hp6 hpl la lsa lsb hdl hfb hfN hS1 hD1 hm1 hn1 hE hS hL hmS hmL hmL2 hE3 hL3 hmS3 hmL3 na
              go_upto_region 9 with (first | (go_at_call 11; (with_reducible refine (LG.out _ (K0.out _)).mono ?_); rintro e w2 ⟨rfl, hb2⟩; have F2 := Lib.hid (FRs.out _ hb2); obtain ⟨x0, x1, x2, x3, x4⟩ := FRk.out _ F2.out; clear hb2) | (go_at_call 12; (with_reducible refine (KMA.out _ (FRb.out _ F2.out)).mono ?_); rintro e w4 ⟨rfl, hb4⟩; have F4 := Lib.hid (FRn.out _ _ F2.out hb4); obtain ⟨x0, x1, x2, x3, x4⟩ := FRk.out _ F4.out; clear hb4) | (go_at_call 12; (with_reducible refine (KMB.out _ (FRb.out _ F4.out)).mono ?_); rintro e w5 ⟨rfl, hb5⟩; have F5 := Lib.hid (FRn.out _ _ F4.out hb5); obtain ⟨x0, x1, x2, x3, x4⟩ := FRk.out _ F5.out; clear hb5) | (go_at_call 13; (with_reducible refine (KFF.out _).mono ?_); rintro e w' ⟨rfl, rfl⟩))
              as_aux_lemma =>
              have P0n := FRn
              obtain ⟨P0, hP0⟩ : ∃ P : World → Prop, P = FR := ⟨_, rfl⟩
              subst hP0
              clear x0 x1 x2 x3 x4 LG KMA KMB K0 FRs F2 F4
              obtain ⟨x0, x1, x2, x3, x4⟩ := FRk.out _ F5.out
              go_upto_region 10 with (go_at_call 14; (with_reducible refine (K1.out _ F5.out).mono ?_); rintro e wz1 ⟨os1, cs1, od1, cd1, rfl, h1, h2, hb⟩; have U1 := Lib.hid (And.intro (P0n.out _ _ F5.out hb) (And.intro h1 h2)); clear h1 h2 hb)
              obtain ⟨v1, hv⟩ : ∃ v, v = wz1.alloc (.cells #[.slice os1 m1 cs1, .slice od1 n1 cd1] 26) := ⟨_, rfl⟩
              obtain ⟨T1, hT⟩ : ∃ T, T = wz1.heap.size := ⟨_, rfl⟩
              rw [← hv, ← hT]
              obtain ⟨P1, hP⟩ : ∃ P : World → Prop, P = fun W => P0 W ∧ Blk W T1 26 #[.slice os1 m1 cs1, .slice od1 n1 cd1] ∧ Ld W (.slice os1 m1 cs1) (S1) ∧ Ld W (.slice od1 n1 cd1) (D1) := ⟨_, rfl⟩
              have G1 : Hid (P1 v1) := Lib.hid (by rw [hP]; exact ⟨by rw [hv]; exact P0n.out _ _ U1.out.1 (al_below _), by rw [hv, hT]; exact Blk.new _ _ _, by rw [hv]; exact U1.out.2.1.below (al_below _), by rw [hv]; exact U1.out.2.2.below (al_below _)⟩)
              have P1f : Hid (∀ W, P1 W → P0 W) := Lib.hid (fun W h => by rw [hP] at h; exact h.1)
              have P1n : Hid (∀ W W', P1 W → Below W.heap.size W W' → P1 W') := Lib.hid (fun W W' h hb => by rw [hP] at h ⊢; exact ⟨P0n.out _ _ h.1 hb, h.2.1.below hb h.2.1.lt, h.2.2.1.below hb, h.2.2.2.below hb⟩)
              have P1t : Hid (∀ W, P1 W → (W.cell? ⟨T1, 0, none⟩ = some (.slice os1 m1 cs1) ∧ W.cell? ⟨T1, 1, none⟩ = some (.slice od1 n1 cd1)) ∧ Ld W (.slice os1 m1 cs1) (S1) ∧ Ld W (.slice od1 n1 cd1) (D1)) := Lib.hid (fun W h => by rw [hP] at h; exact ⟨⟨(blk2 h.2.1).1, (blk2 h.2.1).2.1⟩, h.2.2⟩)
              clear hP
              clear hv hT U1 x0 x1 x2 x3 x4
              obtain ⟨⟨y1_0, y1_1⟩, _⟩ := P1t.out _ G1.out
              go_upto_region 11 with (go_at_call 14; (with_reducible refine (K2.out _ _ _ (P1t.out _ G1.out).2.1 (P1t.out _ G1.out).2.2).mono ?_); rintro e wz2 ⟨os2, cs2, od2, cd2, rfl, h1, h2, hb⟩; have U2 := Lib.hid (And.intro (P1n.out _ _ G1.out hb) (And.intro h1 h2)); clear h1 h2 hb)
              obtain ⟨v2, hv⟩ : ∃ v, v = wz2.alloc (.cells #[.slice os2 sa.length cs2, .slice od2 da.length cd2] 26) := ⟨_, rfl⟩
              obtain ⟨T2, hT⟩ : ∃ T, T = wz2.heap.size := ⟨_, rfl⟩
              rw [← hv, ← hT]
              obtain ⟨P2, hP⟩ : ∃ P : World → Prop, P = fun W => P1 W ∧ Blk W T2 26 #[.slice os2 sa.length cs2, .slice od2 da.length cd2] ∧ Ld W (.slice os2 sa.length cs2) (sa) ∧ Ld W (.slice od2 da.length cd2) (da) := ⟨_, rfl⟩
              have G2 : Hid (P2 v2) := Lib.hid (by rw [hP]; exact ⟨by rw [hv]; exact P1n.out _ _ U2.out.1 (al_below _), by rw [hv, hT]; exact Blk.new _ _ _, by rw [hv]; exact U2.out.2.1.below (al_below _), by rw [hv]; exact U2.out.2.2.below (al_below _)⟩)
              have P2f : Hid (∀ W, P2 W → P1 W) := Lib.hid (fun W h => by rw [hP] at h; exact h.1)
              have P2n : Hid (∀ W W', P2 W → Below W.heap.size W W' → P2 W') := Lib.hid (fun W W' h hb => by rw [hP] at h ⊢; exact ⟨P1n.out _ _ h.1 hb, h.2.1.below hb h.2.1.lt, h.2.2.1.below hb, h.2.2.2.below hb⟩)
              have P2t : Hid (∀ W, P2 W → (W.cell? ⟨T2, 0, none⟩ = some (.slice os2 sa.length cs2) ∧ W.cell? ⟨T2, 1, none⟩ = some (.slice od2 da.length cd2)) ∧ Ld W (.slice os2 sa.length cs2) (sa) ∧ Ld W (.slice od2 da.length cd2) (da)) := Lib.hid (fun W h => by rw [hP] at h; exact ⟨⟨(blk2 h.2.1).1, (blk2 h.2.1).2.1⟩, h.2.2⟩)
              clear hP
              clear hv hT U2 y1_0 y1_1
              obtain ⟨x0, x1, x2, x3, x4⟩ := FRk.out _ (P1f.out _ (P2f.out _ G2.out))
              obtain ⟨⟨y2_0, y2_1⟩, _⟩ := P2t.out _ G2.out
              go_upto_region 14 with (first | (go_at_call 15; (with_reducible refine (num10_any _ _).mono ?_); rintro e w' ⟨rfl, rfl⟩) | (go_at_call 16; (with_reducible refine (KE.out _ _ _ _ _ (P2t.out _ G2.out).2.1 (P2t.out _ G2.out).2.2 (HLW.out _ (P1f.out _ (P2f.out _ G2.out))).1 (HLW.out _ (P1f.out _ (P2f.out _ G2.out))).2.1).mono ?_); rintro e q1 ⟨rfl, hb⟩; have GQ := Lib.hid (P2n.out _ _ G2.out hb); obtain ⟨x0, x1, x2, x3, x4⟩ := FRk.out _ (P1f.out _ (P2f.out _ GQ.out)); clear hb) | (go_at_call 17; (with_reducible refine (KCP.out _ (P1f.out _ (P2f.out _ GQ.out))).mono ?_); rintro e w34 ⟨oc, cc, od, cd, rfl, h1, h2, hb⟩; have O1 := Lib.hid h1; have O2 := Lib.hid h2; have Y5 := Lib.hid hb; clear h1 h2 hb))
              clear x0 x1 x2 x3 x4 y2_0 y2_1
              have sY := Y5.out.size
              have KB := Lib.hid (Blk.new w34 26 #[.slice oc sa.length cc, .slice od da.length cd])
              have PP1 := Lib.hid (O1.out.alloc (.cells #[.slice oc sa.length cc, .slice od da.length cd] 26))
              have PP2 := Lib.hid (O2.out.alloc (.cells #[.slice oc sa.length cc, .slice od da.length cd] 26))
              have Y6 := Lib.hid (Y5.out.alloc Y5.out.size (.cells #[.slice oc sa.length cc, .slice od da.length cd] 26))
              obtain ⟨T3, hT⟩ : ∃ T, T = w34.heap.size := ⟨_, rfl⟩
              rw [← hT] at KB sY
              rw [← hT]
              generalize w34.alloc (.cells #[.slice oc sa.length cc, .slice od da.length cd] 26) = wz at *
              clear hT O1 O2 Y5
              go_wp2
              go_loopw [11] (fun s11 wQ => ∃ (j : Nat) (L : List Int), j ≤ da.length ∧ s11 = .int .i64 j ∧ Hid (L.length = da.length ∧ (∀ i, i < j → L.getD i 0 = -(da.getD i 0)) ∧ ∀ i, j ≤ i → L.getD i 0 = da.getD i 0) ∧ Hid (wQ.ownsRow q1.heap.size 2 1 (.slice od da.length cd) da.length (ints L)) ∧ Hid (wQ.ownsRow q1.heap.size 3 1 (.slice oc sa.length cc) sa.length (ints sa)) ∧ Hid (Blk wQ T3 26 #[.slice oc sa.length cc, .slice od da.length cd]) ∧ Hid (Below q1.heap.size q1 wQ)) (fun s11 _ => da.length - (intOf s11).toNat)
              case atStart => exact ⟨0, da, Nat.zero_le _, rfl, Lib.hid ⟨rfl, fun i hi => absurd hi (Nat.not_lt_zero _), fun i _ => rfl⟩, PP2, PP1, KB, Y6⟩
              case round =>
                obtain ⟨j, L, hj, rfl, HLL, HO, HI, HK, HBB⟩ := hrel
                obtain ⟨t0, t1, _⟩ := blk2 HK.out
                by_cases hlt : j < da.length
                · as_aux_lemma =>
                  obtain ⟨g, rfl⟩ := own_some HO.out (by omega)
                  have gT : ¬ T3 = g := fun e => tens_not_row HO.out HK.out (by decide) (by rw [e]; rfl)
                  have gB : q1.heap.size ≤ g := (HO.out.lt g rfl).1
                  have kc : wr.cell? ⟨g, j, none⟩ = some (.int .i64 (L.getD j 0)) := by
                    have h1 := HO.out
                    rw [← HLL.out.1] at h1
                    exact own_cell h1 (by have := HLL.out.1; omega)
                  rw [HLL.out.2.2 j (Nat.le_refl _)] at kc
                  have kf := own_frozen HO.out j
                  have xb := HWD.out j hlt
                  obtain ⟨x, hx⟩ : ∃ x, x = da.getD j 0 := ⟨_, rfl⟩
                  rw [← hx] at kc xb
                  have xw : wrap64 (-x) = -x := IntWalk.wrap64_in _ (by omega)
                  have xw2 : IntKind.i64.wrap (-x) = -x := IntWalk.i64_in _ (by omega)
                  have R1 := Lib.hid (own_put2 HO.out HLL.out.1 hlt (-x))
                  have R2 := Lib.hid (HI.out.kept (grown_set wr ⟨g, j, none⟩ (.int .i64 (-x))) (.inr (own_off HI.out HO.out (by decide))))
                  have R3 := Lib.hid (HK.out.far (p := ⟨g, j, none⟩) gT (.int .i64 (-x)))
                  have t9 : (wr.setCell ⟨g, j, none⟩ (.int .i64 (-x))).drew.cell? ⟨T3, 1, none⟩ = some (.slice (some ⟨g, 0, none⟩) da.length cd) := R3.out.cell 1
                  have R4 := Lib.hid (HBB.out.setCell (p := ⟨g, j, none⟩) gB (.int .i64 (-x)))
                  have HL2 : Hid ((L.set j (-x)).length = da.length ∧ (∀ i, i < j + 1 → (L.set j (-x)).getD i 0 = -(da.getD i 0)) ∧ ∀ i, j + 1 ≤ i → (L.set j (-x)).getD i 0 = da.getD i 0) := Lib.hid ⟨by rw [List.length_set]; exact HLL.out.1, fun i hi => by
                    by_cases e : j = i
                    · subst e; rw [set_getD_self (by have := HLL.out.1; omega), hx]
                    · rw [set_getD_ne e]; exact HLL.out.2.1 i (by omega), fun i hi => by
                    rw [set_getD_ne (by omega)]; exact HLL.out.2.2 i (by omega)⟩
                  have i1 : (j : Int) < (da.length : Int) := by omega
                  clear hx xb
                  go_wp2
                  go_region
                  go_wp2
                  exact ⟨⟨j + 1, L.set j (-x), by omega, by go_num, HL2, R1, R2, R3, Lib.hid (below_drw R4.out 1)⟩, by simp [intOf]; omega⟩
                · as_aux_lemma =>
                  obtain rfl : j = da.length := by omega
                  have HQ : Hid (Ld wr (.slice oc sa.length cc) sa ∧ Ld wr (.slice od da.length cd) (ngd da)) := Lib.hid ⟨Ld.of_own HI.out, by
                    have e : L = ngd da := ext_getD (by rw [ngd_len]; exact HLL.out.1) (fun i hi => by rw [ngd_at]; exact HLL.out.2.1 i (by have := HLL.out.1; omega))
                    rw [← e]; exact Ld.of_own' HO.out HLL.out.1⟩
                  obtain ⟨v3, hv3⟩ : ∃ v, v = wr := ⟨_, rfl⟩
                  rw [← hv3] at HQ HK HBB t0 t1
                  rw [← hv3]
                  have GQ3 := Lib.hid (P2n.out _ _ GQ.out HBB.out)
                  clear hv3 HO HI HLL hlt
                  obtain ⟨P3, hP⟩ : ∃ P : World → Prop, P = fun W => P2 W ∧ Blk W T3 26 #[.slice oc sa.length cc, .slice od da.length cd] ∧ Ld W (.slice oc sa.length cc) (sa) ∧ Ld W (.slice od da.length cd) (ngd da) := ⟨_, rfl⟩
                  have G3 : Hid (P3 v3) := Lib.hid (by rw [hP]; exact ⟨GQ3.out, HK.out, HQ.out.1, HQ.out.2⟩)
                  have P3f : Hid (∀ W, P3 W → P2 W) := Lib.hid (fun W h => by rw [hP] at h; exact h.1)
                  have P3n : Hid (∀ W W', P3 W → Below W.heap.size W W' → P3 W') := Lib.hid (fun W W' h hb => by rw [hP] at h ⊢; exact ⟨P2n.out _ _ h.1 hb, h.2.1.below hb h.2.1.lt, h.2.2.1.below hb, h.2.2.2.below hb⟩)
                  have P3t : Hid (∀ W, P3 W → (W.cell? ⟨T3, 0, none⟩ = some (.slice oc sa.length cc) ∧ W.cell? ⟨T3, 1, none⟩ = some (.slice od da.length cd)) ∧ Ld W (.slice oc sa.length cc) (sa) ∧ Ld W (.slice od da.length cd) (ngd da)) := Lib.hid (fun W h => by rw [hP] at h; exact ⟨⟨(blk2 h.2.1).1, (blk2 h.2.1).2.1⟩, h.2.2⟩)
                  clear hP
                  clear GQ3 HK HQ HBB GQ
                  obtain ⟨x0, x1, x2, x3, x4⟩ := FRk.out _ (P1f.out _ (P2f.out _ (P3f.out _ G3.out)))
                  go_upto_region 19 with (go_at_call 18; (with_reducible refine (K4.out _ (P1f.out _ (P2f.out _ (P3f.out _ G3.out)))).mono ?_); rintro e wz4 ⟨os4, cs4, od4, cd4, rfl, h1, h2, hb⟩; have U4 := Lib.hid (And.intro (P3n.out _ _ G3.out hb) (And.intro h1 h2)); clear h1 h2 hb)
                  obtain ⟨v4, hv⟩ : ∃ v, v = wz4.alloc (.cells #[.slice os4 mS cs4, .slice od4 mL cd4] 26) := ⟨_, rfl⟩
                  obtain ⟨T4, hT⟩ : ∃ T, T = wz4.heap.size := ⟨_, rfl⟩
                  rw [← hv, ← hT]
                  obtain ⟨P4, hP⟩ : ∃ P : World → Prop, P = fun W => P3 W ∧ Blk W T4 26 #[.slice os4 mS cs4, .slice od4 mL cd4] ∧ Ld W (.slice os4 mS cs4) (unl E S) ∧ Ld W (.slice od4 mL cd4) (unl E LW) := ⟨_, rfl⟩
                  have G4 : Hid (P4 v4) := Lib.hid (by rw [hP]; exact ⟨by rw [hv]; exact P3n.out _ _ U4.out.1 (al_below _), by rw [hv, hT]; exact Blk.new _ _ _, by rw [hv]; exact U4.out.2.1.below (al_below _), by rw [hv]; exact U4.out.2.2.below (al_below _)⟩)
                  have P4f : Hid (∀ W, P4 W → P3 W) := Lib.hid (fun W h => by rw [hP] at h; exact h.1)
                  have P4n : Hid (∀ W W', P4 W → Below W.heap.size W W' → P4 W') := Lib.hid (fun W W' h hb => by rw [hP] at h ⊢; exact ⟨P3n.out _ _ h.1 hb, h.2.1.below hb h.2.1.lt, h.2.2.1.below hb, h.2.2.2.below hb⟩)
                  have P4t : Hid (∀ W, P4 W → (W.cell? ⟨T4, 0, none⟩ = some (.slice os4 mS cs4) ∧ W.cell? ⟨T4, 1, none⟩ = some (.slice od4 mL cd4)) ∧ Ld W (.slice os4 mS cs4) (unl E S) ∧ Ld W (.slice od4 mL cd4) (unl E LW)) := Lib.hid (fun W h => by rw [hP] at h; exact ⟨⟨(blk2 h.2.1).1, (blk2 h.2.1).2.1⟩, h.2.2⟩)
                  clear hP
                  clear hv hT U4 x0 x1 x2 x3 x4 t0 t1
                  obtain ⟨x0, x1, x2, x3, x4⟩ := FRk.out _ (P1f.out _ (P2f.out _ (P3f.out _ (P4f.out _ G4.out))))
                  obtain ⟨⟨y3_0, y3_1⟩, _⟩ := P3t.out _ (P4f.out _ G4.out)
                  go_upto_region 20 with (go_at_call 18; (with_reducible refine (K5.out _ _ _ (P1f.out _ (P2f.out _ (P3f.out _ (P4f.out _ G4.out)))) (P3t.out _ (P4f.out _ G4.out)).2.1 (P3t.out _ (P4f.out _ G4.out)).2.2).mono ?_); rintro e wz5 ⟨os5, cs5, od5, cd5, rfl, h1, h2, hb⟩; have U5 := Lib.hid (And.intro (P4n.out _ _ G4.out hb) (And.intro h1 h2)); clear h1 h2 hb)
                  obtain ⟨v5, hv⟩ : ∃ v, v = wz5.alloc (.cells #[.slice os5 mS cs5, .slice od5 mL cd5] 26) := ⟨_, rfl⟩
                  obtain ⟨T5, hT⟩ : ∃ T, T = wz5.heap.size := ⟨_, rfl⟩
                  rw [← hv, ← hT]
                  obtain ⟨P5, hP⟩ : ∃ P : World → Prop, P = fun W => P4 W ∧ Blk W T5 26 #[.slice os5 mS cs5, .slice od5 mL cd5] ∧ Ld W (.slice os5 mS cs5) (unl E S) ∧ Ld W (.slice od5 mL cd5) (unl E (ngd LW)) := ⟨_, rfl⟩
                  have G5 : Hid (P5 v5) := Lib.hid (by rw [hP]; exact ⟨by rw [hv]; exact P4n.out _ _ U5.out.1 (al_below _), by rw [hv, hT]; exact Blk.new _ _ _, by rw [hv]; exact U5.out.2.1.below (al_below _), by rw [hv]; exact U5.out.2.2.below (al_below _)⟩)
                  have P5f : Hid (∀ W, P5 W → P4 W) := Lib.hid (fun W h => by rw [hP] at h; exact h.1)
                  have P5n : Hid (∀ W W', P5 W → Below W.heap.size W W' → P5 W') := Lib.hid (fun W W' h hb => by rw [hP] at h ⊢; exact ⟨P4n.out _ _ h.1 hb, h.2.1.below hb h.2.1.lt, h.2.2.1.below hb, h.2.2.2.below hb⟩)
                  have P5t : Hid (∀ W, P5 W → (W.cell? ⟨T5, 0, none⟩ = some (.slice os5 mS cs5) ∧ W.cell? ⟨T5, 1, none⟩ = some (.slice od5 mL cd5)) ∧ Ld W (.slice os5 mS cs5) (unl E S) ∧ Ld W (.slice od5 mL cd5) (unl E (ngd LW))) := Lib.hid (fun W h => by rw [hP] at h; exact ⟨⟨(blk2 h.2.1).1, (blk2 h.2.1).2.1⟩, h.2.2⟩)
                  clear hP
                  clear hv hT U5 x0 x1 x2 x3 x4 y3_0 y3_1
                  obtain ⟨⟨y4_0, y4_1⟩, _⟩ := P4t.out _ (P5f.out _ G5.out)
                  obtain ⟨⟨y5_0, y5_1⟩, _⟩ := P5t.out _ G5.out
                  have bE : (E != E) = false := by simp
                  have bL : ((mL : Int) != (mL : Int)) = false := by simp
                  go_wp2_with (go_at_call 15; (with_reducible refine (num10_any _ _).mono ?_); rintro e w' ⟨rfl, rfl⟩)
                  go_loopw [16] (fun s16 wQ => ∃ m : Nat, m ≤ mL ∧ s16 = .int .i64 m ∧ Hid (P5 wQ)) (fun s16 _ => mL - (intOf s16).toNat)
                  case atStart => exact ⟨0, Nat.zero_le _, rfl, G5⟩
                  case round =>
                    obtain ⟨m, hm, rfl, HG⟩ := hrel
                    obtain ⟨⟨y4_0, y4_1⟩, _⟩ := P4t.out _ (P5f.out _ HG.out)
                    obtain ⟨⟨y5_0, y5_1⟩, _⟩ := P5t.out _ HG.out
                    by_cases hlt : m < mL
                    · as_aux_lemma =>
                      obtain ⟨g4, f4, rfl, z4⟩ := ld_at (P4t.out _ (P5f.out _ HG.out)).2.2 (by rw [HUL.out.1]; exact hlt)
                      obtain ⟨g5, f5, rfl, z5⟩ := ld_at (P5t.out _ HG.out).2.2 (by rw [HUL.out.2.1]; exact hlt)
                      rw [HUL.out.2.2.1 m] at z5
                      have xb := HUL.out.2.2.2 m
                      generalize (unl E LW).getD m 0 = x at *
                      have xw : wrap64 (- -x) = x := by rw [Int.neg_neg]; exact IntWalk.wrap64_in _ (by omega)
                      have xw2 : IntKind.i64.wrap (- -x) = x := by rw [Int.neg_neg]; exact IntWalk.i64_in _ (by omega)
                      have xw3 : wrap64 x = x := IntWalk.wrap64_in _ (by omega)
                      have xw4 : IntKind.i64.wrap x = x := IntWalk.i64_in _ (by omega)
                      have bx : (x != x) = false := by simp
                      have i1 : (m : Int) < (mL : Int) := by omega
                      clear xb
                      go_wp2
                      go_quiet (fail)
                      go_wp2
                      exact ⟨⟨m + 1, by omega, by go_num, Lib.hid (P5n.out _ _ HG.out (below_drw (Below.refl _ _) _))⟩, by simp [intOf]; omega⟩
                    · as_aux_lemma =>
                      obtain rfl : m = mL := by omega
                      clear hlt
                      obtain ⟨v5', hv5⟩ : ∃ v, v = wr := ⟨_, rfl⟩
                      rw [← hv5] at HG y4_0 y4_1 y5_0 y5_1 ⊢
                      clear hv5
                      obtain ⟨x0, x1, x2, x3, x4⟩ := FRk.out _ (P1f.out _ (P2f.out _ (P3f.out _ (P4f.out _ (P5f.out _ HG.out)))))
                      go_upto_region 27 with fail
                      clear y4_0 y4_1 y5_0 y5_1
                      have mk : ∀ W : World, (Instr.makeSlice 24 (.int .i64 (da.length : Int)) (.int .i64 (da.length : Int))).run Try.prog W = .ok (.slice (some ⟨W.heap.size, 0, none⟩) da.length da.length) (W.alloc (.cells (ints (nod da.length)).toArray 2)) := fun W => by
                        obtain ⟨i1, hi1, hy0, hy1, hy2⟩ := info_parts infoW
                        have hl := HLN.out.1
                        have := run_make (w := W) 24 2 i1 (.int .i64 0) Try.underlying24 hi1 hy0 .i64 .i64 da.length da.length (by omega) (by omega) (by rw [hy2]; omega) (by omega)
                        rw [this, hy1, nod, ← made_ints]; simp [Value.cells]
                      have KS : Hid (∀ W, P5 W → W.cell? ⟨w1.heap.size, 0, none⟩ = some (.slice oA sa.length cA) ∧ W.cell? ⟨w1.heap.size, 1, none⟩ = some (.slice oX da.length cX)) := Lib.hid (fun W h => ⟨(FRk.out _ (P1f.out _ (P2f.out _ (P3f.out _ (P4f.out _ (P5f.out _ h)))))).1, (FRk.out _ (P1f.out _ (P2f.out _ (P3f.out _ (P4f.out _ (P5f.out _ h)))))).2.1⟩)
                      go_cut [17] (fun s17 wx => ∃ (T6 g6 : Nat), s17 = .pointer (some ⟨T6, 0, none⟩) ∧ Blk wx T6 26 #[.slice oA sa.length cA, .slice (some ⟨g6, 0, none⟩) da.length da.length] ∧ Hid (Ld wx (.slice (some ⟨g6, 0, none⟩) da.length da.length) (nod da.length)) ∧ Hid (P5 wx))
                      case first =>
                        as_aux_lemma =>
                        have B_0 : Hid (P5 v5'.drew) := Lib.hid (P5n.out _ _ HG.out (below_drw (Below.refl _ _) 1))
                        refine wp_region_held_drew (S := fun W => W.cell? ⟨w1.heap.size, 0, none⟩ = some (.slice oA sa.length cA) ∧ W.cell? ⟨w1.heap.size, 1, none⟩ = some (.slice oX da.length cX)) (by kernel_rfl) ?_ (fun hHeld => ?_)
                        · exact KS.out _ B_0.out
                        have hHd := hHeld
                        generalize v5'.drew = w_0 at *
                        (refine wpAnyH_take (i := 0) (oi := ⟨some 153, _, _, _, _, _⟩) (v := ?v0_t1) rfl (by kernel_rfl) (by kernel_rfl) (by kernel_rfl) (fun _ _ _ h => h) (Or.inl ⟨by rfl, ?hy0_t1⟩) (by assumption) ?rest0_t1; (case hy0_t1 => ((intro w hSw); (try dsimp only at hSw); go_simp; first | done | (with_reducible rfl))))
                        (try simp only [Act.put, List.setIfInBounds_toArray, List.set_cons_zero, List.set_cons_succ])
                        (refine wpAnyH_take (i := 1) (oi := ⟨some 154, _, _, _, _, _⟩) (v := ?v1_t2) rfl (by kernel_rfl) (by kernel_rfl) (by kernel_rfl) (fun _ _ _ h => h) (Or.inl ⟨by rfl, ?hy1_t2⟩) (by assumption) ?rest1_t2; (case hy1_t2 => ((intro w hSw); (try dsimp only at hSw); go_simp; first | done | (with_reducible rfl))))
                        (try simp only [Act.put, List.setIfInBounds_toArray, List.set_cons_zero, List.set_cons_succ])
                        (refine wpAnyH_take (i := 2) (oi := ⟨some 155, _, _, _, _, _⟩) (v := ?v2_t3) rfl (by kernel_rfl) (by kernel_rfl) (by kernel_rfl) (fun _ _ _ h => h) (Or.inl ⟨by rfl, ?hy2_t3⟩) (by assumption) ?rest2_t3; (case hy2_t3 => ((intro w hSw); (try dsimp only at hSw); go_simp; first | done | (with_reducible rfl))))
                        (try simp only [Act.put, List.setIfInBounds_toArray, List.set_cons_zero, List.set_cons_succ])
                        (refine wpAnyH_take (i := 3) (oi := ⟨some 156, _, _, _, _, _⟩) (v := ?v3_t4) rfl (by kernel_rfl) (by kernel_rfl) (by kernel_rfl) (fun _ _ _ h => h) (Or.inl ⟨by rfl, ?hy3_t4⟩) (by assumption) ?rest3_t4; (case hy3_t4 => ((intro w hSw); (try dsimp only at hSw); go_simp; first | done | (with_reducible rfl))))
                        (try simp only [Act.put, List.setIfInBounds_toArray, List.set_cons_zero, List.set_cons_succ])
                        (refine wpAnyH_take (i := 4) (oi := ⟨some 157, _, _, _, _, _⟩) (v := ?v4_t5) rfl (by kernel_rfl) (by kernel_rfl) (by kernel_rfl) (fun _ _ _ h => h) (Or.inl ⟨by rfl, ?hy4_t5⟩) (by assumption) ?rest4_t5; (case hy4_t5 => ((intro w hSw); (try dsimp only at hSw); go_simp; first | done | (with_reducible rfl))))
                        (try simp only [Act.put, List.setIfInBounds_toArray, List.set_cons_zero, List.set_cons_succ])
                        (refine wpAnyH_take (i := 5) (oi := ⟨some 158, _, _, _, _, _⟩) (v := ?v5_t6) rfl (by kernel_rfl) (by kernel_rfl) (by kernel_rfl) (fun _ _ _ h => h) (Or.inl ⟨by rfl, ?hy5_t6⟩) (by assumption) ?rest5_t6; (case hy5_t6 => ((intro w hSw); (try dsimp only at hSw); go_simp; first | done | (with_reducible rfl))))
                        (try simp only [Act.put, List.setIfInBounds_toArray, List.set_cons_zero, List.set_cons_succ])
                        (refine wpAnyH_take (i := 6) (oi := ⟨some 159, _, _, _, _, _⟩) (v := ?v6_t7) rfl (by kernel_rfl) (by kernel_rfl) (by kernel_rfl) (fun _ _ _ h => h) (Or.inl ⟨by rfl, ?hy6_t7⟩) (by assumption) ?rest6_t7; (case hy6_t7 => ((intro w hSw); (try dsimp only at hSw); go_simp; first | done | (with_reducible rfl))))
                        (try simp only [Act.put, List.setIfInBounds_toArray, List.set_cons_zero, List.set_cons_succ])
                        refine wpAnyH_ready (rs := [7, 9]) (by kernel_rfl) (by simp) ?_
                        refine AllReadyH.cons (o := ⟨some 160, _, _, _, _, _⟩) rfl (fun K hK => ?_) (AllReadyH.cons (o := ⟨some 17, _, _, _, _, _⟩) rfl (fun K hK => ?_) (AllReadyH.nil))
                        · go_simp
                          have M_1 := Lib.hid (Blk.new w_0 2 (ints (nod da.length)).toArray)
                          have B_1 := Lib.hid (P5n.out _ _ B_0.out (al_below (.cells (ints (nod da.length)).toArray 2)))
                          refine hK.out _ _ ?_ (fun hHeld => ?_)
                          · (try dsimp only)
                            exact KS.out _ B_1.out
                          clear hK K
                          generalize w_0.alloc (.cells (ints (nod da.length)).toArray 2) = w_1 at *
                          (try simp only [Act.put, List.setIfInBounds_toArray, List.set_cons_zero, List.set_cons_succ])
                          (refine wpAnyH_take (i := 8) (oi := ⟨some 161, _, _, _, _, _⟩) (v := ?v8_t8) rfl (by kernel_rfl) (by kernel_rfl) (by kernel_rfl) (fun _ _ _ h => h) (Or.inl ⟨by rfl, ?hy8_t8⟩) (by assumption) ?rest8_t8; (case hy8_t8 => ((intro w hSw); (try dsimp only at hSw); go_simp; first | done | (with_reducible rfl))))
                          (try simp only [Act.put, List.setIfInBounds_toArray, List.set_cons_zero, List.set_cons_succ])
                          refine wpAnyH_ready (rs := [9]) (by kernel_rfl) (by simp) ?_
                          refine AllReadyH.cons (o := ⟨some 17, _, _, _, _, _⟩) rfl (fun K hK => ?_) (AllReadyH.nil)
                          go_simp
                          have Z_2 := Lib.hid (Blk.new w_1 26 #[.slice none 0 0, .slice none 0 0])
                          have Y_2 := Lib.hid (al_below (W := w_1) (.cells #[.slice none 0 0, .slice none 0 0] 26))
                          have ZS := Lib.hid (Nat.le_refl w_1.heap.size)
                          have NE := Lib.hid (Nat.ne_of_lt M_1.out.lt)
                          have M_2 := Lib.hid (M_1.out.alloc (.cells #[.slice none 0 0, .slice none 0 0] 26))
                          refine hK.out _ _ ?_ (fun hHeld => ?_)
                          · (try dsimp only)
                            exact KS.out _ (P5n.out _ _ B_1.out Y_2.out)
                          clear hK K
                          generalize w_1.alloc (.cells #[.slice none 0 0, .slice none 0 0] 26) = w_2 at *
                          (try simp only [Act.put, List.setIfInBounds_toArray, List.set_cons_zero, List.set_cons_succ])
                          refine wpAnyH_ready (rs := [10]) (by kernel_rfl) (by simp) ?_
                          refine AllReadyH.cons (o := ⟨none, _, _, _, _, _⟩) rfl (fun K hK => ?_) (AllReadyH.nil)
                          obtain ⟨p0, p1, pf0, pf1⟩ := blk2 Z_2.out
                          go_simp
                          refine hK.out _ _ ?_ (fun hHeld => ?_)
                          · (try dsimp only)
                            exact KS.out _ (P5n.out _ _ B_1.out ((Y_2.out.setCell (p := ⟨_, 0, none⟩) ZS.out _).setCell (p := ⟨_, 1, none⟩) ZS.out _))
                          clear hK K
                          (try simp only [Act.put, List.setIfInBounds_toArray, List.set_cons_zero, List.set_cons_succ])
                          refine wpAnyH_done (by kernel_rfl) ?_ _
                          go_wp2
                          go_meet
                          exact ⟨_, _, rfl, (Z_2.out.set_ 0 _).set_ 1 _, Lib.hid (ld_nod ((M_2.out.far (p := ⟨_, 0, none⟩) NE.out _).far (p := ⟨_, 1, none⟩) NE.out _)), Lib.hid (P5n.out _ _ B_1.out ((Y_2.out.setCell (p := ⟨_, 0, none⟩) ZS.out _).setCell (p := ⟨_, 1, none⟩) ZS.out _))⟩
                        · go_simp
                          have Z_3 := Lib.hid (Blk.new w_0 26 #[.slice none 0 0, .slice none 0 0])
                          have Y_3 := Lib.hid (al_below (W := w_0) (.cells #[.slice none 0 0, .slice none 0 0] 26))
                          have ZS := Lib.hid (Nat.le_refl w_0.heap.size)
                          refine hK.out _ _ ?_ (fun hHeld => ?_)
                          · (try dsimp only)
                            exact KS.out _ (P5n.out _ _ B_0.out Y_3.out)
                          clear hK K
                          generalize w_0.alloc (.cells #[.slice none 0 0, .slice none 0 0] 26) = w_3 at *
                          (try simp only [Act.put, List.setIfInBounds_toArray, List.set_cons_zero, List.set_cons_succ])
                          refine wpAnyH_ready (rs := [7]) (by kernel_rfl) (by simp) ?_
                          refine AllReadyH.cons (o := ⟨some 160, _, _, _, _, _⟩) rfl (fun K hK => ?_) (AllReadyH.nil)
                          go_simp
                          have M_4 := Lib.hid (Blk.new w_3 2 (ints (nod da.length)).toArray)
                          have NE := Lib.hid (Nat.ne_of_gt Z_3.out.lt)
                          have Z_4 := Lib.hid (Z_3.out.alloc (.cells (ints (nod da.length)).toArray 2))
                          have Y_4 := Lib.hid (Y_3.out.alloc Y_3.out.size (.cells (ints (nod da.length)).toArray 2))
                          refine hK.out _ _ ?_ (fun hHeld => ?_)
                          · (try dsimp only)
                            exact KS.out _ (P5n.out _ _ B_0.out Y_4.out)
                          clear hK K
                          generalize w_3.alloc (.cells (ints (nod da.length)).toArray 2) = w_4 at *
                          (try simp only [Act.put, List.setIfInBounds_toArray, List.set_cons_zero, List.set_cons_succ])
                          (refine wpAnyH_take (i := 8) (oi := ⟨some 161, _, _, _, _, _⟩) (v := ?v8_t9) rfl (by kernel_rfl) (by kernel_rfl) (by kernel_rfl) (fun _ _ _ h => h) (Or.inl ⟨by rfl, ?hy8_t9⟩) (by assumption) ?rest8_t9; (case hy8_t9 => ((intro w hSw); (try dsimp only at hSw); go_simp; first | done | (with_reducible rfl))))
                          (try simp only [Act.put, List.setIfInBounds_toArray, List.set_cons_zero, List.set_cons_succ])
                          refine wpAnyH_ready (rs := [10]) (by kernel_rfl) (by simp) ?_
                          refine AllReadyH.cons (o := ⟨none, _, _, _, _, _⟩) rfl (fun K hK => ?_) (AllReadyH.nil)
                          obtain ⟨p0, p1, pf0, pf1⟩ := blk2 Z_4.out
                          go_simp
                          refine hK.out _ _ ?_ (fun hHeld => ?_)
                          · (try dsimp only)
                            exact KS.out _ (P5n.out _ _ B_0.out ((Y_4.out.setCell (p := ⟨_, 0, none⟩) ZS.out _).setCell (p := ⟨_, 1, none⟩) ZS.out _))
                          clear hK K
                          (try simp only [Act.put, List.setIfInBounds_toArray, List.set_cons_zero, List.set_cons_succ])
                          refine wpAnyH_done (by kernel_rfl) ?_ _
                          go_wp2
                          go_meet
                          exact ⟨_, _, rfl, (Z_4.out.set_ 0 _).set_ 1 _, Lib.hid (ld_nod ((M_4.out.far (p := ⟨_, 0, none⟩) NE.out _).far (p := ⟨_, 1, none⟩) NE.out _)), Lib.hid (P5n.out _ _ B_0.out ((Y_4.out.setCell (p := ⟨_, 0, none⟩) ZS.out _).setCell (p := ⟨_, 1, none⟩) ZS.out _))⟩
                      case rest =>
                        as_aux_lemma =>
                        obtain ⟨T6, g6, rfl, hb6, HL6, HG6⟩ := hcut
                        obtain ⟨v6, hv6⟩ : ∃ v, v = wc := ⟨_, rfl⟩
                        rw [← hv6] at hb6 HL6 HG6 ⊢
                        clear hv6 x0 x1 x2 x3 x4
                        obtain ⟨P6, hP⟩ : ∃ P : World → Prop, P = fun W => P5 W ∧ Blk W T6 26 #[.slice oA sa.length cA, .slice (some ⟨g6, 0, none⟩) da.length da.length] ∧ Ld W (.slice (some ⟨g6, 0, none⟩) da.length da.length) (nod da.length) := ⟨_, rfl⟩
                        have G6 : Hid (P6 v6) := Lib.hid (by rw [hP]; exact ⟨HG6.out, hb6, HL6.out⟩)
                        have P6f : Hid (∀ W, P6 W → P5 W) := Lib.hid (fun W h => by rw [hP] at h; exact h.1)
                        have P6n : Hid (∀ W W', P6 W → Below W.heap.size W W' → P6 W') := Lib.hid (fun W W' h hb => by rw [hP] at h ⊢; exact ⟨P5n.out _ _ h.1 hb, h.2.1.below hb h.2.1.lt, h.2.2.below hb⟩)
                        have P6t : Hid (∀ W, P6 W → (W.cell? ⟨T6, 0, none⟩ = some (.slice oA sa.length cA) ∧ W.cell? ⟨T6, 1, none⟩ = some (.slice (some ⟨g6, 0, none⟩) da.length da.length)) ∧ Ld W (.slice (some ⟨g6, 0, none⟩) da.length da.length) (nod da.length)) := Lib.hid (fun W h => by rw [hP] at h; exact ⟨⟨(blk2 h.2.1).1, (blk2 h.2.1).2.1⟩, h.2.2⟩)
                        clear hP
                        clear hb6 HL6 HG6
                        obtain ⟨x0, x1, x2, x3, x4⟩ := FRk.out _ (P1f.out _ (P2f.out _ (P3f.out _ (P4f.out _ (P5f.out _ (P6f.out _ G6.out))))))
                        obtain ⟨⟨y6_0, y6_1⟩, _⟩ := P6t.out _ G6.out
                        go_upto_region 29 with (go_at_call 18; (with_reducible refine (K7.out _ _ (P1f.out _ (P2f.out _ (P3f.out _ (P4f.out _ (P5f.out _ (P6f.out _ G6.out)))))) (P6t.out _ G6.out).2).mono ?_); rintro e wz7 ⟨os7, cs7, od7, cd7, rfl, h1, h2, hb⟩; have U7 := Lib.hid (And.intro (P6n.out _ _ G6.out hb) (And.intro h1 h2)); clear h1 h2 hb)
                        obtain ⟨v7, hv⟩ : ∃ v, v = wz7.alloc (.cells #[.slice os7 mS3 cs7, .slice od7 mL3 cd7] 26) := ⟨_, rfl⟩
                        obtain ⟨T7, hT⟩ : ∃ T, T = wz7.heap.size := ⟨_, rfl⟩
                        rw [← hv, ← hT]
                        obtain ⟨P7, hP⟩ : ∃ P : World → Prop, P = fun W => P6 W ∧ Blk W T7 26 #[.slice os7 mS3 cs7, .slice od7 mL3 cd7] ∧ Ld W (.slice os7 mS3 cs7) (unl E3 S) ∧ Ld W (.slice od7 mL3 cd7) (unl E3 L3) := ⟨_, rfl⟩
                        have G7 : Hid (P7 v7) := Lib.hid (by rw [hP]; exact ⟨by rw [hv]; exact P6n.out _ _ U7.out.1 (al_below _), by rw [hv, hT]; exact Blk.new _ _ _, by rw [hv]; exact U7.out.2.1.below (al_below _), by rw [hv]; exact U7.out.2.2.below (al_below _)⟩)
                        have P7f : Hid (∀ W, P7 W → P6 W) := Lib.hid (fun W h => by rw [hP] at h; exact h.1)
                        have P7n : Hid (∀ W W', P7 W → Below W.heap.size W W' → P7 W') := Lib.hid (fun W W' h hb => by rw [hP] at h ⊢; exact ⟨P6n.out _ _ h.1 hb, h.2.1.below hb h.2.1.lt, h.2.2.1.below hb, h.2.2.2.below hb⟩)
                        have P7t : Hid (∀ W, P7 W → (W.cell? ⟨T7, 0, none⟩ = some (.slice os7 mS3 cs7) ∧ W.cell? ⟨T7, 1, none⟩ = some (.slice od7 mL3 cd7)) ∧ Ld W (.slice os7 mS3 cs7) (unl E3 S) ∧ Ld W (.slice od7 mL3 cd7) (unl E3 L3)) := Lib.hid (fun W h => by rw [hP] at h; exact ⟨⟨(blk2 h.2.1).1, (blk2 h.2.1).2.1⟩, h.2.2⟩)
                        clear hP
                        clear hv hT U7 x0 x1 x2 x3 x4 y6_0 y6_1
                        by_cases hE : E = 0
                        · as_aux_lemma =>
                          have b0 : (E == 0) = true := beq_iff_eq.2 hE
                          have b3 : (E3 != 0) = false := by rw [HE3.out hE]; rfl
                          clear hE
                          go_wp2_with (go_at_call 15; (with_reducible refine (num10_any _ _).mono ?_); rintro e w' ⟨rfl, rfl⟩)
                          go_loopw [20] (fun s20 wQ => ∃ m : Nat, m ≤ mL3 ∧ s20 = .int .i64 m ∧ Hid (P7 wQ)) (fun s20 _ => mL3 - (intOf s20).toNat)
                          case atStart => exact ⟨0, Nat.zero_le _, rfl, G7⟩
                          case round =>
                            obtain ⟨m, hm, rfl, HG⟩ := hrel
                            obtain ⟨⟨y7_0, y7_1⟩, _⟩ := P7t.out _ HG.out
                            by_cases hlt : m < mL3
                            · as_aux_lemma =>
                              obtain ⟨g7, f7, rfl, z7⟩ := ld_at (P7t.out _ HG.out).2.2 (by rw [H3.out.1]; exact hlt)
                              rw [H3.out.2 m] at z7
                              have i1 : (m : Int) < (mL3 : Int) := by omega
                              go_wp2
                              exact ⟨⟨m + 1, by omega, by go_num, HG⟩, by simp [intOf]; omega⟩
                            · as_aux_lemma =>
                              obtain rfl : m = mL3 := by omega
                              clear hlt
                              go_wp2
                              exact ⟨⟨k + 1, by omega, by go_num, hB.trans ((FRb.out _ (P1f.out _ (P2f.out _ (P3f.out _ (P4f.out _ (P5f.out _ (P6f.out _ (P7f.out _ HG.out)))))))).mono hBs)⟩, by simp [intOf]; omega⟩
                        · as_aux_lemma =>
                          have b0 : (E == 0) = false := beq_eq_false_iff_ne.2 hE
                          clear hE
                          go_wp2_with (go_at_call 15; (with_reducible refine (num10_any _ _).mono ?_); rintro e w' ⟨rfl, rfl⟩)
                          go_loopw [20] (fun s20 wQ => ∃ m : Nat, m ≤ mL3 ∧ s20 = .int .i64 m ∧ Hid (P7 wQ)) (fun s20 _ => mL3 - (intOf s20).toNat)
                          case atStart => exact ⟨0, Nat.zero_le _, rfl, G7⟩
                          case round =>
                            obtain ⟨m, hm, rfl, HG⟩ := hrel
                            obtain ⟨⟨y7_0, y7_1⟩, _⟩ := P7t.out _ HG.out
                            by_cases hlt : m < mL3
                            · as_aux_lemma =>
                              obtain ⟨g7, f7, rfl, z7⟩ := ld_at (P7t.out _ HG.out).2.2 (by rw [H3.out.1]; exact hlt)
                              rw [H3.out.2 m] at z7
                              have i1 : (m : Int) < (mL3 : Int) := by omega
                              go_wp2
                              exact ⟨⟨m + 1, by omega, by go_num, HG⟩, by simp [intOf]; omega⟩
                            · as_aux_lemma =>
                              obtain rfl : m = mL3 := by omega
                              clear hlt
                              go_wp2
                              exact ⟨⟨k + 1, by omega, by go_num, hB.trans ((FRb.out _ (P1f.out _ (P2f.out _ (P3f.out _ (P4f.out _ (P5f.out _ (P6f.out _ (P7f.out _ HG.out)))))))).mono hBs)⟩, by simp [intOf]; omega⟩
            · as_aux_lemma =>
              have hr2 : (sa.length : Int) < 2 := by omega
              clear ta tb hr
              go_wp2_with (first | (go_at_call 11; (with_reducible refine (LG.out _ (K0.out _)).mono ?_); rintro e w2 ⟨rfl, hb2⟩; have F2 := Lib.hid (FRs.out _ hb2); obtain ⟨x0, x1, x2, x3, x4⟩ := FRk.out _ F2.out; clear hb2) | (go_at_call 12; (with_reducible refine (KMA.out _ (FRb.out _ F2.out)).mono ?_); rintro e w4 ⟨rfl, hb4⟩; have F4 := Lib.hid (FRn.out _ _ F2.out hb4); obtain ⟨x0, x1, x2, x3, x4⟩ := FRk.out _ F4.out; clear hb4) | (go_at_call 12; (with_reducible refine (KMB.out _ (FRb.out _ F4.out)).mono ?_); rintro e w5 ⟨rfl, hb5⟩; have F5 := Lib.hid (FRn.out _ _ F4.out hb5); obtain ⟨x0, x1, x2, x3, x4⟩ := FRk.out _ F5.out; clear hb5))
              exact ⟨⟨k + 1, by omega, by go_num, hB.trans ((FRb.out _ F5.out).mono hBs)⟩, by simp [intOf]; omega⟩

    · as_aux_lemma =>
      by_cases g1 : k < len
      · have g2 : 6 ≤ k := by omega
        clear g
        go_wp2_with (go_at_call 19; (with_reducible refine (wakes10_any _).mono ?_); rintro e w9 ⟨rfl, hb9⟩)
        go_ret
        exact ⟨rfl, hB.trans (hb9.mono hBs)⟩
      · have g2 : len ≤ k := by omega
        clear g g1
        go_wp2_with (go_at_call 19; (with_reducible refine (wakes10_any _).mono ?_); rintro e w9 ⟨rfl, hb9⟩)
        go_ret
        exact ⟨rfl, hB.trans (hb9.mono hBs)⟩
end Go.Proofs.Ytlidkeabadioeaa
