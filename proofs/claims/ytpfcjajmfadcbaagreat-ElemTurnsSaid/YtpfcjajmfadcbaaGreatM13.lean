/-
  ElemTurns' loop.
-/
import Derived.Deep.RegionHeld3
import Derived.Test.YtpfcjajmfadcbaaGreatM09
import Derived.Test.YtpfcjajmfadcbaaGreatM12
namespace Go.Proofs.YtpfcjajmfadcbaaGreat
open Go.RowKit Go.Shelf

theorem blk7 {W : World} {b : Nat} {v0 v1 v2 v3 v4 v5 v6 : Value} (h : Blk W b 28 #[v0, v1, v2, v3, v4, v5, v6]) : W.cell? ⟨b, 0, none⟩ = some v0 ∧ W.cell? ⟨b, 1, none⟩ = some v1 ∧ W.cell? ⟨b, 2, none⟩ = some v2 ∧ W.cell? ⟨b, 3, none⟩ = some v3 ∧ W.cell? ⟨b, 4, none⟩ = some v4 ∧ W.cell? ⟨b, 5, none⟩ = some v5 ∧ W.cell? ⟨b, 6, none⟩ = some v6 :=
  ⟨h.cell 0, h.cell 1, h.cell 2, h.cell 3, h.cell 4, h.cell 5, h.cell 6⟩
theorem nxt2 {W W' : World} {o : Obj} {v u : Value} {a b : List Int} (h : Ld W v a ∧ Ld W u b) (hb : Below (W.alloc o).heap.size (W.alloc o) W') : Ld W' v a ∧ Ld W' u b :=
  ⟨(h.1.below (al_below _)).below hb, (h.2.below (al_below _)).below hb⟩
theorem nxt3 {W W' : World} {o o2 : Obj} {v u : Value} {a b : List Int} (h : Ld W v a ∧ Ld W u b) (hb : Below ((W.alloc o).alloc o2).heap.size ((W.alloc o).alloc o2) W') : Ld W' v a ∧ Ld W' u b :=
  ⟨((h.1.below (al_below _)).below (al_below _)).below hb, ((h.2.below (al_below _)).below (al_below _)).below hb⟩
theorem blk_nxt {W W' : World} {o : Obj} {b : Nat} {t : TypeId} {cs : Array Value} (h : Blk W b t cs) (hb : Below (W.alloc o).heap.size (W.alloc o) W') : Blk W' b t cs := (h.alloc o).below hb (h.alloc o).lt
theorem unl_len_le (e : Int) {l : List Int} {n : Nat} (h : l.length ≤ n) : (unl e l).length ≤ n := by
  unfold unl; split
  · exact h
  · exact Nat.zero_le _
theorem owv_len (vf : Int → Int) (da : List Int) : (owv vf da).length = da.length := vls_len _ _
theorem tnb_word {c : Int} (h : wd c = true) : tnb [] [c] = true := by
  have hw : wds [c] = true := wds_yes fun k hk => by
    obtain rfl : k = 0 := by simpa using hk
    exact wd_bd h
  unfold tnb
  rw [hw]; rfl
theorem wrap_pow {f : Nat} (h : fb f = true) : wrap64 (2 ^ f) = 2 ^ f ∧ wrap64 (-2 ^ f) = -2 ^ f := by
  have := wd_bd (wd_pow h)
  exact ⟨IntWalk.wrap64_in _ ⟨by omega, by omega⟩, IntWalk.wrap64_in _ ⟨by omega, by omega⟩⟩

theorem wrap_pow2 {f : Nat} (h : fb f = true) : IntKind.i64.wrap (2 ^ f) = 2 ^ f := by
  have := wd_bd (wd_pow h)
  generalize (2 : Int) ^ f = x at *
  exact IntWalk.i64_in x ⟨by omega, by omega⟩
theorem Ld.of_own {W : World} {base c : Nat} {o : Option Addr} {e : TypeId} {ls : List Int} (h : W.ownsRow base e 1 (.slice o ls.length c) ls.length (ints ls)) : Ld W (.slice o ls.length c) ls := by
  obtain ⟨_, _, e1, h3⟩ := Ld.of_owns h
  simp only [Value.slice.injEq] at e1
  obtain ⟨rfl, _, rfl⟩ := e1
  exact h3
theorem Ld.of_own' {W : World} {base n c : Nat} {o : Option Addr} {e : TypeId} {ls : List Int} (h : W.ownsRow base e 1 (.slice o n c) n (ints ls)) (hn : ls.length = n) : Ld W (.slice o n c) ls := by
  subst hn; exact Ld.of_own h

set_option maxRecDepth 100000 in
set_option maxHeartbeats 100000000 in
theorem elemturns_any (bb oo len cap : Nat) (es : Nat → Ek) (w : World) (_hl : len ≤ 9223372036854775807) (hb : bb < w.heap.size) (hT : ∀ i, i < len → EkAt w bb (oo + i * 7) (es i)) (hok : ∀ i, i < len → (es i).ok w) :
    Calls Tryz.prog 3 #[.slice (some ⟨bb, oo, none⟩) len cap] w fun e w' => e = .returned (.bool true) ∧ Below w.heap.size w w' := by
  have HT := Lib.hid (And.intro hT hok)
  clear hT hok
  go_enter Tryz.func3, Tryz.ntmps3
  go_wp2
  go_loopw [3] (fun s3 wQ => ∃ k : Nat, k ≤ len ∧ s3 = .int .i64 k ∧ Below w.heap.size w wQ) (fun s3 _ => len - (intOf s3).toNat)
  case atStart => exact ⟨0, Nat.zero_le _, rfl, Below.refl _ _⟩
  case round =>
    obtain ⟨k, hk, rfl, hB⟩ := hrel
    have hBs := hB.size
    obtain ⟨w1, hw1⟩ : ∃ w1, w1 = wr := ⟨_, rfl⟩
    subst hw1
    by_cases g : k < len ∧ k < 4
    · obtain ⟨g1, g2⟩ := g
      obtain ⟨t0, t1, t2, t3, t4, t5, t6⟩ := (HT.out.1 k (by omega)).below hB hb
      obtain ⟨⟨hA, hX, hBB, hY⟩, ⟨l0, l1, l2, l3⟩, ⟨a0, a1⟩, ⟨b0, b1⟩, ⟨f0, f1⟩⟩ := HT.out.2 k (by omega)
      replace hA := hA.below hB
      replace hX := hX.below hB
      replace hBB := hBB.below hB
      replace hY := hY.below hB
      generalize es k = p at *
      obtain ⟨vA, vX, vB, vY, sa, da, sb, db, op, c, f⟩ := p
      simp only at t0 t1 t2 t3 t4 t5 t6 hA hX hBB hY l0 l1 l2 l3 a0 a1 b0 b1 f0 f1
      obtain ⟨oA, cA, rfl, _, _⟩ := id hA
      obtain ⟨oX, cX, rfl, _, _⟩ := id hX
      obtain ⟨oB, cB, rfl, _, _⟩ := id hBB
      obtain ⟨oY, cY, rfl, _, _⟩ := id hY
      have K0 := Lib.hid (fun o => (Below.refl w1.heap.size w1).alloc (Nat.le_refl _) o)
      have K4 := Lib.hid (Blk.new w1 28 #[.slice oA sa.length cA, .slice oX da.length cX, .slice oB sb.length cB, .slice oY db.length cY, .int .i64 op, .int .i64 c, .int .i64 f])
      obtain ⟨FR, hFR⟩ : ∃ FR : World → Prop, FR = fun W => Below w1.heap.size w1 W ∧ Blk W w1.heap.size 28 #[.slice oA sa.length cA, .slice oX da.length cX, .slice oB sb.length cB, .slice oY db.length cY, .int .i64 op, .int .i64 c, .int .i64 f] := ⟨_, rfl⟩
      have FRb : Hid (∀ W, FR W → Below w1.heap.size w1 W) := Lib.hid (fun W h => by rw [hFR] at h; exact h.1)
      have FRk := Lib.hid (fun (W : World) (h : FR W) => blk7 (by rw [hFR] at h; exact h.2 : Blk W w1.heap.size 28 #[.slice oA sa.length cA, .slice oX da.length cX, .slice oB sb.length cB, .slice oY db.length cY, .int .i64 op, .int .i64 c, .int .i64 f]))
      have FRn : Hid (∀ W W', FR W → Below W.heap.size W W' → FR W') := Lib.hid (fun W W' h hb => by rw [hFR] at h ⊢; exact ⟨h.1.trans (hb.mono h.1.size), h.2.below hb h.2.lt⟩)
      have FRa : Hid (∀ W o, FR W → FR (W.alloc o)) := Lib.hid (fun W o h => FRn.out _ _ h (al_below o))
      have FRs : Hid (∀ W', Below (w1.alloc (.cells #[.slice oA sa.length cA, .slice oX da.length cX, .slice oB sb.length cB, .slice oY db.length cY, .int .i64 op, .int .i64 c, .int .i64 f] 28)).heap.size (w1.alloc (.cells #[.slice oA sa.length cA, .slice oX da.length cX, .slice oB sb.length cB, .slice oY db.length cY, .int .i64 op, .int .i64 c, .int .i64 f] 28)) W' → FR W') := Lib.hid (fun W' hb => by rw [hFR]; exact ⟨(K0.out _).trans (hb.mono (by simp)), K4.out.below hb (by simp)⟩)
      clear hFR
      have LGA := Lib.hid (fun (W : World) (hW : Below w1.heap.size w1 W) => heavy8_any _ _ sa da 30 W (hA.below hW) (hX.below hW) (by omega) (by omega))
      have LGB := Lib.hid (fun (W : World) (hW : Below w1.heap.size w1 W) => heavy8_any _ _ sb db 30 W (hBB.below hW) (hY.below hW) (by omega) (by omega))
      cases lga : hv8 30 sa da with
      | true =>
        as_aux_lemma =>
        rw [lga] at LGA
        clear lga hA hX hBB hY
        go_wp2_with (go_at_call 7; (with_reducible refine (LGA.out _ (K0.out _)).mono ?_); rintro e w2 ⟨rfl, hb2⟩; have F2 := Lib.hid (FRs.out _ hb2); obtain ⟨x0, x1, x2, x3, x4, x5, x6⟩ := FRk.out _ F2.out; clear hb2)
        go_ret
        exact ⟨rfl, hB.trans ((FRb.out _ F2.out).mono hBs)⟩
      | false =>
        rw [lga] at LGA
        have na := hv8_no lga
        cases lgb : hv8 30 sb db with
        | true =>
          as_aux_lemma =>
          rw [lgb] at LGB
          clear lga lgb hA hX hBB hY
          go_wp2_with (first | (go_at_call 7; (with_reducible refine (LGA.out _ (K0.out _)).mono ?_); rintro e w2 ⟨rfl, hb2⟩; have F2 := Lib.hid (FRs.out _ hb2); obtain ⟨x0, x1, x2, x3, x4, x5, x6⟩ := FRk.out _ F2.out; clear hb2) | (go_at_call 7; (with_reducible refine (LGB.out _ (FRb.out _ F2.out)).mono ?_); rintro e w3 ⟨rfl, hb3⟩; have F3 := Lib.hid (FRn.out _ _ F2.out hb3); obtain ⟨x0, x1, x2, x3, x4, x5, x6⟩ := FRk.out _ F3.out; clear hb3))
          go_ret
          exact ⟨rfl, hB.trans ((FRb.out _ F3.out).mono hBs)⟩
        | false =>
          rw [lgb] at LGB
          have nb := hv8_no lgb
          have HL4 := Lib.hid (And.intro hA (And.intro hX (And.intro hBB hY)))
          have KMA := Lib.hid (fun (W : World) (hW : Below w1.heap.size w1 W) => rmay8_any _ _ sa da W (hA.below hW) (hX.below hW) (by omega) (by omega))
          have KMB := Lib.hid (fun (W : World) (hW : Below w1.heap.size w1 W) => rmay8_any _ _ sb db W (hBB.below hW) (hY.below hW) (by omega) (by omega))
          clear lga lgb hA hX hBB hY
          go_upto_region 7 with (first | (go_at_call 7; (with_reducible refine (LGA.out _ (K0.out _)).mono ?_); rintro e w2 ⟨rfl, hb2⟩; have F2 := Lib.hid (FRs.out _ hb2); obtain ⟨x0, x1, x2, x3, x4, x5, x6⟩ := FRk.out _ F2.out; clear hb2) | (go_at_call 7; (with_reducible refine (LGB.out _ (FRb.out _ F2.out)).mono ?_); rintro e w3 ⟨rfl, hb3⟩; have F3 := Lib.hid (FRn.out _ _ F2.out hb3); obtain ⟨x0, x1, x2, x3, x4, x5, x6⟩ := FRk.out _ F3.out; clear hb3))
          cases ta : tnb sa da with
          | false =>
            as_aux_lemma =>
            rw [ta] at KMA
            clear ta
            go_wp2_with (go_at_call 8; (with_reducible refine (KMA.out _ (FRb.out _ F3.out)).mono ?_); rintro e w4 ⟨rfl, hb4⟩; have F4 := Lib.hid (FRn.out _ _ F3.out hb4); obtain ⟨x0, x1, x2, x3, x4, x5, x6⟩ := FRk.out _ F4.out; clear hb4)
            exact ⟨⟨k + 1, by omega, by go_num, hB.trans ((FRb.out _ F4.out).mono hBs)⟩, by simp [intOf]; omega⟩
          | true =>
            rw [ta] at KMA
            cases tb : tnb sb db with
            | false =>
              as_aux_lemma =>
              rw [tb] at KMB
              clear ta tb
              go_wp2_with (first | (go_at_call 8; (with_reducible refine (KMA.out _ (FRb.out _ F3.out)).mono ?_); rintro e w4 ⟨rfl, hb4⟩; have F4 := Lib.hid (FRn.out _ _ F3.out hb4); obtain ⟨x0, x1, x2, x3, x4, x5, x6⟩ := FRk.out _ F4.out; clear hb4) | (go_at_call 8; (with_reducible refine (KMB.out _ (FRb.out _ F4.out)).mono ?_); rintro e w5 ⟨rfl, hb5⟩; have F5 := Lib.hid (FRn.out _ _ F4.out hb5); obtain ⟨x0, x1, x2, x3, x4, x5, x6⟩ := FRk.out _ F5.out; clear hb5))
              exact ⟨⟨k + 1, by omega, by go_num, hB.trans ((FRb.out _ F5.out).mono hBs)⟩, by simp [intOf]; omega⟩
            | true =>
              rw [tb] at KMB
              have na2 : (da.length : Int) ≤ 30 := na.1
              have nb2 : (db.length : Int) ≤ 30 := nb.1
              obtain ⟨M, hM⟩ : ∃ M : Int, M = (da.length : Int) * (db.length : Int) := ⟨_, rfl⟩
              have hM1 : 0 ≤ M ∧ M ≤ 900 := by
                rw [hM]
                have h1 := Int.mul_le_mul na2 nb2 (by omega) (by omega)
                have h2 := Int.mul_nonneg (show (0 : Int) ≤ da.length by omega) (show (0 : Int) ≤ db.length by omega)
                omega
              have eM : IntKind.i64.wrap ((da.length : Int) * (db.length : Int)) = M := by rw [hM]; exact IntWalk.i64_in _ (by rw [← hM]; omega)
              have HMM := Lib.hid hM
              by_cases h300 : 300 < M
              · as_aux_lemma =>
                clear ta tb hM
                go_wp2_with (first | (go_at_call 8; (with_reducible refine (KMA.out _ (FRb.out _ F3.out)).mono ?_); rintro e w4 ⟨rfl, hb4⟩; have F4 := Lib.hid (FRn.out _ _ F3.out hb4); obtain ⟨x0, x1, x2, x3, x4, x5, x6⟩ := FRk.out _ F4.out; clear hb4) | (go_at_call 8; (with_reducible refine (KMB.out _ (FRb.out _ F4.out)).mono ?_); rintro e w5 ⟨rfl, hb5⟩; have F5 := Lib.hid (FRn.out _ _ F4.out hb5); obtain ⟨x0, x1, x2, x3, x4, x5, x6⟩ := FRk.out _ F5.out; clear hb5))
                exact ⟨⟨k + 1, by omega, by go_num, hB.trans ((FRb.out _ F5.out).mono hBs)⟩, by simp [intOf]; omega⟩
              · as_aux_lemma =>
                have ma := (tnb_parts ta).1
                have mb := (tnb_parts tb).1
                have pa := may_prod ma
                have hla := (tnb_parts ta).2.1
                have lsa := may_len ma
                have lsb := may_len mb
                have lsv := spv_len lsa lsb
                obtain ⟨fN, hfN⟩ : ∃ fN : Nat, (fN : Int) = 8 + f % 18446744073709551616 % 25 := ⟨(8 + f % 18446744073709551616 % 25).toNat, by omega⟩
                have hfb : fb fN = true := fb_mk (by omega)
                have hf64 : fN < 64 := by omega
                have KFF : Hid (∀ W : World, Calls Tryz.prog 9 #[.int .i64 f] W fun e w' => e = .returned (.int .i64 (fN : Int)) ∧ W = w') := Lib.hid (fun W => by rw [hfN]; exact ff_any f W)
                obtain ⟨O, hO⟩ : ∃ O : Int, O = 2 ^ fN := ⟨_, rfl⟩
                have eo1 : wrap64 (2 ^ fN) = O := by rw [hO]; exact (wrap_pow hfb).1
                have eo2 : IntKind.i64.wrap (2 ^ fN) = O := by rw [hO]; exact wrap_pow2 hfb
                obtain ⟨E, hE⟩ : ∃ E, E = twe (e2 4 fN) sa da sb db := ⟨_, rfl⟩
                obtain ⟨S, hS⟩ : ∃ S, S = unl E (spv sa sb) := ⟨_, rfl⟩
                obtain ⟨D, hD⟩ : ∃ D, D = unl E (twv (v2 4 fN) sa da sb db) := ⟨_, rfl⟩
                obtain ⟨D2, hD2⟩ : ∃ D2, D2 = unl E (twv (v2 4 fN) sb db sa da) := ⟨_, rfl⟩
                obtain ⟨G, hG⟩ : ∃ G, G = ngl db := ⟨_, rfl⟩
                have hE0 : E = 0 → spe sa sb = 0 := fun h => by
                  rw [hE] at h
                  unfold twe at h
                  by_cases hs : spe sa sb = 0
                  · exact hs
                  · rwa [if_neg hs] at h
                have KS1 : Hid (∀ W, FR W → Calls Tryz.prog 10 #[.int .i64 4, .agg #[.slice oA sa.length cA, .slice oX da.length cX], .agg #[.slice oB sb.length cB, .slice oY db.length cY], .int .i64 fN] W (Tx W E S D)) := Lib.hid (fun W h => by
                  rw [hD, hS, hE]
                  exact (two_any 4 fN _ _ _ _ sa da sb db W (HL4.out.1.below (FRb.out _ h)) (HL4.out.2.1.below (FRb.out _ h)) (HL4.out.2.2.1.below (FRb.out _ h)) (HL4.out.2.2.2.below (FRb.out _ h)) ta tb hfb (by decide) (by decide)).mono (fun _ _ hh => tx_of hh))
                have KS2 : Hid (∀ W, FR W → Calls Tryz.prog 10 #[.int .i64 4, .agg #[.slice oB sb.length cB, .slice oY db.length cY], .agg #[.slice oA sa.length cA, .slice oX da.length cX], .int .i64 fN] W (Tx W E S D2)) := Lib.hid (fun W h => by
                  rw [hD2, hS, hE]
                  have := (two_any 4 fN _ _ _ _ sb db sa da W (HL4.out.2.2.1.below (FRb.out _ h)) (HL4.out.2.2.2.below (FRb.out _ h)) (HL4.out.1.below (FRb.out _ h)) (HL4.out.2.1.below (FRb.out _ h)) tb ta hfb (by decide) (by decide)).mono (fun _ _ hh => tx_of hh)
                  rwa [sub_sym fN sa da sb db, spv_sym sb sa] at this)
                have KN : Hid (∀ W, FR W → Calls Tryz.prog 11 #[.int .i64 7, .agg #[.slice oB sb.length cB, .slice oY db.length cY], .int .i64 0, .int .i64 fN] W (Tx W 0 sb G)) := Lib.hid (fun W h => by
                  rw [hG]
                  exact neg_any fN _ _ sb db W (HL4.out.2.2.1.below (FRb.out _ h)) (HL4.out.2.2.2.below (FRb.out _ h)) tb hfb)
                have KS3 : Hid (∀ W v u, FR W → Ld W v sb → Ld W u G → Calls Tryz.prog 10 #[.int .i64 3, .agg #[.slice oA sa.length cA, .slice oX da.length cX], .agg #[v, u], .int .i64 fN] W (Tx W E S D)) := Lib.hid (fun W v u h h1 h2 => by
                  rw [hG] at h2
                  have := (two_any 3 fN _ _ _ _ sa da sb (ngl db) W (HL4.out.1.below (FRb.out _ h)) (HL4.out.2.1.below (FRb.out _ h)) h1 h2 ta (ngl_tnb tb) hfb (by decide) (by decide)).mono (fun _ _ hh => tx_of hh)
                  rw [(add_neg fN tb).1, ← hE, ← hS] at this
                  have e : unl E (twv (v2 3 fN) sa da sb (ngl db)) = D := by
                    rw [hD]
                    by_cases h0 : E = 0
                    · rw [(add_neg fN tb).2 (hE0 h0)]
                    · unfold unl; rw [if_neg h0, if_neg h0]
                  rwa [e] at this)
                have KN2 : Hid (E = 0 → ∀ W v u, Ld W v S → Ld W u D2 → Calls Tryz.prog 11 #[.int .i64 7, .agg #[v, u], .int .i64 0, .int .i64 fN] W (Tx W 0 S D)) := Lib.hid (fun h0 W v u h1 h2 => by
                  have eS : S = spv sa sb := by rw [hS]; exact if_pos h0
                  have eD : D = twv (v2 4 fN) sa da sb db := by rw [hD]; exact if_pos h0
                  have eD2 : D2 = twv (v2 4 fN) sb db sa da := by rw [hD2]; exact if_pos h0
                  have := neg_any fN v u S D2 W h1 h2 (by rw [eS, eD2]; exact sub_tnb fN ma (hE0 h0)) hfb
                  rwa [eD2, sub_neg fN, ← eD] at this)
                have KCP : Hid (∀ W, FR W → Calls Tryz.prog 14 #[.agg #[.slice oA sa.length cA, .slice oX da.length cX]] W (SomeCT W sa da)) := Lib.hid (fun W h => copytens_any _ _ sa da W (HL4.out.1.below (FRb.out _ h)) (HL4.out.2.1.below (FRb.out _ h)) (by omega) (by omega))
                have KQ : Hid (∀ W v u L, FR W → Ld W v sa → Ld W u L → L.length = da.length → (∀ i, i < da.length → L.getD i 0 = O) → Calls Tryz.prog 10 #[.int .i64 6, .agg #[.slice oA sa.length cA, .slice oX da.length cX], .agg #[v, u], .int .i64 fN] W (Tx W 0 sa da)) := Lib.hid (fun W v u L h h1 h2 hl h3 => by
                  have tl : tnb sa L = true := tnb_of ma (by rw [hl]; exact hla) (fun k hk => by rw [h3 k (by omega), hO]; exact wd_pow hfb)
                  have := (two_any 6 fN _ _ _ _ sa da sa L W (HL4.out.1.below (FRb.out _ h)) (HL4.out.2.1.below (FRb.out _ h)) h1 h2 ta tl hfb (by decide) (by decide)).mono (fun _ _ hh => tx_of hh)
                  have ho := over_ones fN ta hl (fun k hk => by rw [h3 k (by omega), hO]) tl
                  rwa [ho.1, ho.2, (spe_self ma).2] at this)
                have hDl : (twv (v2 4 fN) sa da sb db).length ≤ 65536 := by
                  rw [show (twv (v2 4 fN) sa da sb db).length = (prod (spv sa sb)).toNat from vls_len _ _]
                  by_cases hs : spe sa sb = 0
                  · have := may_prod (goes_spv ma hs).1; omega
                  · rw [show spv sa sb = [] from if_neg hs]; decide
                have HLN := Lib.hid (And.intro (show S.length ≤ 17592186044416 by rw [hS]; exact unl_len_le _ (by omega)) (And.intro (show D.length ≤ 17592186044416 by rw [hD]; exact unl_len_le _ (by omega)) (And.intro (show sa.length ≤ 17592186044416 by omega) (show da.length ≤ 17592186044416 by omega))))
                clear ta tb ma mb pa hla lsa lsb lsv hfb hO hE hS hD hD2 hG hfN hE0 hDl hM na2 nb2
                go_upto_region 13 with (first | (go_at_call 8; (with_reducible refine (KMA.out _ (FRb.out _ F3.out)).mono ?_); rintro e w4 ⟨rfl, hb4⟩; have F4 := Lib.hid (FRn.out _ _ F3.out hb4); obtain ⟨x0, x1, x2, x3, x4, x5, x6⟩ := FRk.out _ F4.out; clear hb4) | (go_at_call 8; (with_reducible refine (KMB.out _ (FRb.out _ F4.out)).mono ?_); rintro e w5 ⟨rfl, hb5⟩; have F5 := Lib.hid (FRn.out _ _ F4.out hb5); obtain ⟨x0, x1, x2, x3, x4, x5, x6⟩ := FRk.out _ F5.out; clear hb5) | (go_at_call 9; (with_reducible refine (KFF.out _).mono ?_); rintro e w' ⟨rfl, rfl⟩) | (go_at_call 10; (with_reducible refine (KS1.out _ F5.out).mono ?_); rintro e w22 ⟨p1, a1, q1, b1, rfl, h1, h2, hb⟩; have V1 := Lib.hid (And.intro h1 h2); have F22 := Lib.hid (FRn.out _ _ F5.out hb); obtain ⟨x0, x1, x2, x3, x4, x5, x6⟩ := FRk.out _ (FRa.out _ (.cells #[.slice p1 S.length a1, .slice q1 D.length b1] 26) F22.out); clear h1 h2 hb) | (go_at_call 10; (with_reducible refine (KS2.out _ (FRa.out _ _ F22.out)).mono ?_); rintro e w23 ⟨p2, a2, q2, b2, rfl, h1, h2, hb⟩; have V2 := Lib.hid (And.intro h1 h2); have F23 := Lib.hid (FRn.out _ _ (FRa.out _ _ F22.out) hb); replace V1 := Lib.hid (nxt2 V1.out hb); have Q1 := Lib.hid ((Blk.new w22 26 #[.slice p1 S.length a1, .slice q1 D.length b1]).below hb (Blk.new w22 _ _).lt); obtain ⟨x0, x1, x2, x3, x4, x5, x6⟩ := FRk.out _ (FRa.out _ (.cells #[.slice p2 S.length a2, .slice q2 D2.length b2] 26) F23.out); clear h1 h2 hb) | (go_at_call 11; (with_reducible refine (KN.out _ (FRa.out _ _ F23.out)).mono ?_); rintro e w24 ⟨p3, a3, q3, b3, rfl, h1, h2, hb⟩; have V3 := Lib.hid (And.intro h1 h2); have F24 := Lib.hid (FRn.out _ _ (FRa.out _ _ F23.out) hb); replace V1 := Lib.hid (nxt2 V1.out hb); replace V2 := Lib.hid (nxt2 V2.out hb); replace Q1 := Lib.hid (blk_nxt Q1.out hb); have Q2 := Lib.hid ((Blk.new w23 26 #[.slice p2 S.length a2, .slice q2 D2.length b2]).below hb (Blk.new w23 _ _).lt); obtain ⟨x0, x1, x2, x3, x4, x5, x6⟩ := FRk.out _ (FRa.out _ (.cells #[.slice p3 sb.length a3, .slice q3 G.length b3] 26) F24.out); clear h1 h2 hb) | (go_at_call 10; (with_reducible refine (KS3.out _ _ _ (FRa.out _ _ F24.out) (V3.out.1.below (al_below _)) (V3.out.2.below (al_below _))).mono ?_); rintro e w25 ⟨p4, a4, q4, b4, rfl, h1, h2, hb⟩; have V4 := Lib.hid (And.intro h1 h2); have F25 := Lib.hid (FRn.out _ _ (FRa.out _ _ F24.out) hb); replace V1 := Lib.hid (nxt2 V1.out hb); replace V2 := Lib.hid (nxt2 V2.out hb); replace V3 := Lib.hid (nxt2 V3.out hb); replace Q1 := Lib.hid (blk_nxt Q1.out hb); replace Q2 := Lib.hid (blk_nxt Q2.out hb); have Q3 := Lib.hid ((Blk.new w24 26 #[.slice p3 sb.length a3, .slice q3 G.length b3]).below hb (Blk.new w24 _ _).lt); obtain ⟨x0, x1, x2, x3, x4, x5, x6⟩ := FRk.out _ (FRa.out _ (.cells #[.slice p4 S.length a4, .slice q4 D.length b4] 26) F25.out); clear h1 h2 hb))
                as_aux_lemma =>
                have Q4 := Lib.hid (Blk.new w25 26 #[.slice p4 S.length a4, .slice q4 D.length b4])
                replace Q1 := Lib.hid (Q1.out.alloc (.cells #[.slice p4 S.length a4, .slice q4 D.length b4] 26))
                replace Q2 := Lib.hid (Q2.out.alloc (.cells #[.slice p4 S.length a4, .slice q4 D.length b4] 26))
                have R1 := Lib.hid (And.intro (V1.out.1.below (al_below (.cells #[.slice p4 S.length a4, .slice q4 D.length b4] 26))) (V1.out.2.below (al_below (.cells #[.slice p4 S.length a4, .slice q4 D.length b4] 26))))
                have R2 := Lib.hid (And.intro (V2.out.1.below (al_below (.cells #[.slice p4 S.length a4, .slice q4 D.length b4] 26))) (V2.out.2.below (al_below (.cells #[.slice p4 S.length a4, .slice q4 D.length b4] 26))))
                have R4 := Lib.hid (And.intro (V4.out.1.below (al_below (.cells #[.slice p4 S.length a4, .slice q4 D.length b4] 26))) (V4.out.2.below (al_below (.cells #[.slice p4 S.length a4, .slice q4 D.length b4] 26))))
                replace F25 := Lib.hid (FRa.out _ (.cells #[.slice p4 S.length a4, .slice q4 D.length b4] 26) F25.out)
                clear V1 V2 V3 V4 Q3 KS1 KS2 KN KS3 F22 F23 F24 x0 x1 x2 x3 x4 x5 x6
                generalize w25.alloc (.cells #[.slice p4 S.length a4, .slice q4 D.length b4] 26) = wb at *
                have Y0 := Lib.hid (Below.refl wb.heap.size wb)
                obtain ⟨x0, x1, x2, x3, x4, x5, x6⟩ := FRk.out _ F25.out
                obtain ⟨u1, v1, _, _⟩ := blk2 (Q1.out.below Y0.out Q1.out.lt)
                obtain ⟨u2, v2, _, _⟩ := blk2 (Q2.out.below Y0.out Q2.out.lt)
                obtain ⟨u4, v4, _, _⟩ := blk2 (Q4.out.below Y0.out Q4.out.lt)
                go_upto_region 15 with (first | (go_at_call 13; (with_reducible refine (eqtensor_same _ _ _ _ S D _ (R1.out.1.below Y0.out) (R1.out.2.below Y0.out) (R4.out.1.below Y0.out) (R4.out.2.below Y0.out) HLN.out.1 HLN.out.2.1).mono ?_); rintro e w31 ⟨rfl, hb⟩; have Y1 := Lib.hid (Y0.out.trans (hb.mono Y0.out.size)); obtain ⟨u1, v1, _, _⟩ := blk2 (Q1.out.below Y1.out Q1.out.lt); obtain ⟨u2, v2, _, _⟩ := blk2 (Q2.out.below Y1.out Q2.out.lt); obtain ⟨u4, v4, _, _⟩ := blk2 (Q4.out.below Y1.out Q4.out.lt); obtain ⟨x0, x1, x2, x3, x4, x5, x6⟩ := FRk.out _ (FRn.out _ _ F25.out Y1.out); clear hb) | (go_at_call 12; (with_reducible refine (num8_any _ _).mono ?_); rintro e w' ⟨rfl, rfl⟩))
                by_cases hE0 : E = 0
                · as_aux_lemma =>
                  have b0 : (E == 0) = true := beq_iff_eq.2 hE0
                  replace KN2 := Lib.hid (KN2.out hE0)
                  clear hE0
                  go_upto_region 19 with (first | (go_at_call 11; (with_reducible refine (KN2.out _ _ _ (R2.out.1.below Y1.out) (R2.out.2.below Y1.out)).mono ?_); rintro e w32 ⟨p5, a5, q5, b5, rfl, h1, h2, hb⟩; have V5 := Lib.hid (And.intro h1 h2); have Y2 := Lib.hid (Y1.out.trans (hb.mono Y1.out.size)); have Y3 := Lib.hid (Y2.out.alloc Y2.out.size (.cells #[.slice p5 S.length a5, .slice q5 D.length b5] 26)); obtain ⟨u1, v1, _, _⟩ := blk2 (Q1.out.below Y3.out Q1.out.lt); obtain ⟨u2, v2, _, _⟩ := blk2 (Q2.out.below Y3.out Q2.out.lt); obtain ⟨u4, v4, _, _⟩ := blk2 (Q4.out.below Y3.out Q4.out.lt); obtain ⟨x0, x1, x2, x3, x4, x5, x6⟩ := FRk.out _ (FRn.out _ _ F25.out Y3.out); clear h1 h2 hb) | (go_at_call 13; (with_reducible refine (eqtensor_same _ _ _ _ S D _ (R1.out.1.below Y3.out) (R1.out.2.below Y3.out) (V5.out.1.below (al_below _)) (V5.out.2.below (al_below _)) HLN.out.1 HLN.out.2.1).mono ?_); rintro e w33 ⟨rfl, hb⟩; have Y4 := Lib.hid (Y3.out.trans (hb.mono Y3.out.size)); obtain ⟨x0, x1, x2, x3, x4, x5, x6⟩ := FRk.out _ (FRn.out _ _ F25.out Y4.out); clear hb) | (go_at_call 12; (with_reducible refine (num8_any _ _).mono ?_); rintro e w' ⟨rfl, rfl⟩))
                  have FY := Lib.hid (FRn.out _ _ F25.out Y4.out)
                  clear x0 x1 x2 x3 x4 x5 x6
                  obtain ⟨x0, x1, x2, x3, x4, x5, x6⟩ := FRk.out _ FY.out
                  obtain ⟨wy, hwy⟩ : ∃ wy, wy = w33 := ⟨_, rfl⟩
                  rw [← hwy] at FY x0 x1 x2 x3 x4 x5 x6
                  rw [← hwy]
                  clear hwy
                  go_upto_region 20 with (go_at_call 14; (with_reducible refine (KCP.out _ FY.out).mono ?_); rintro e w34 ⟨oc, cc, od, cd, rfl, h1, h2, hb⟩; have O1 := Lib.hid h1; have O2 := Lib.hid h2; have Y5 := Lib.hid hb; clear h1 h2 hb)
                  have sY := Y5.out.size
                  have KB := Lib.hid (Blk.new w34 26 #[.slice oc sa.length cc, .slice od da.length cd])
                  have P1 := Lib.hid (O1.out.alloc (.cells #[.slice oc sa.length cc, .slice od da.length cd] 26))
                  have P2 := Lib.hid (O2.out.alloc (.cells #[.slice oc sa.length cc, .slice od da.length cd] 26))
                  have Y6 := Lib.hid (Y5.out.alloc Y5.out.size (.cells #[.slice oc sa.length cc, .slice od da.length cd] 26))
                  obtain ⟨T, hT⟩ : ∃ T, T = w34.heap.size := ⟨_, rfl⟩
                  rw [← hT] at KB sY
                  rw [← hT]
                  generalize w34.alloc (.cells #[.slice oc sa.length cc, .slice od da.length cd] 26) = wz at *
                  clear hT x0 x1 x2 x3 x4 x5 x6
                  go_wp2
                  go_loopw [17] (fun s17 wQ => ∃ (j : Nat) (L : List Int), j ≤ da.length ∧ s17 = .int .i64 j ∧ Hid (L.length = da.length ∧ ∀ i, i < j → L.getD i 0 = O) ∧ Hid (wQ.ownsRow wy.heap.size 2 1 (.slice od da.length cd) da.length (ints L)) ∧ Hid (wQ.ownsRow wy.heap.size 3 1 (.slice oc sa.length cc) sa.length (ints sa)) ∧ Hid (Blk wQ T 26 #[.slice oc sa.length cc, .slice od da.length cd]) ∧ Hid (Below wy.heap.size wy wQ)) (fun s17 _ => da.length - (intOf s17).toNat)
                  case atStart => exact ⟨0, da, Nat.zero_le _, rfl, Lib.hid ⟨rfl, fun i hi => absurd hi (Nat.not_lt_zero _)⟩, P2, P1, KB, Y6⟩
                  case round =>
                    obtain ⟨j, L, hj, rfl, HL, HO, HI, HK, HB⟩ := hrel
                    obtain ⟨t0, t1, _⟩ := blk2 HK.out
                    obtain ⟨x0, x1, x2, x3, x4, x5, x6⟩ := FRk.out _ (FRn.out _ _ FY.out HB.out)
                    by_cases hlt : j < da.length
                    · as_aux_lemma =>
                      obtain ⟨g, rfl⟩ := own_some HO.out (by omega)
                      have gT : ¬ T = g := fun e => tens_not_row HO.out HK.out (by decide) (by rw [e]; rfl)
                      have gB : wy.heap.size ≤ g := (HO.out.lt g rfl).1
                      have kc : wr.cell? ⟨g, j, none⟩ = some (.int .i64 (L.getD j 0)) := by
                        have h1 := HO.out
                        rw [← HL.out.1] at h1
                        exact own_cell h1 (by have := HL.out.1; omega)
                      have kf := own_frozen HO.out j
                      have R1 := Lib.hid (own_put2 HO.out HL.out.1 hlt O)
                      have R2 := Lib.hid (HI.out.kept (grown_set wr ⟨g, j, none⟩ (.int .i64 O)) (.inr (own_off HI.out HO.out (by decide))))
                      have R3 := Lib.hid (HK.out.far (p := ⟨g, j, none⟩) gT (.int .i64 O))
                      have t9 : (wr.setCell ⟨g, j, none⟩ (.int .i64 O)).drew.cell? ⟨T, 1, none⟩ = some (.slice (some ⟨g, 0, none⟩) da.length cd) := R3.out.cell 1
                      have R4 := Lib.hid (HB.out.setCell (p := ⟨g, j, none⟩) gB (.int .i64 O))
                      have HL2 : Hid ((L.set j O).length = da.length ∧ ∀ i, i < j + 1 → (L.set j O).getD i 0 = O) := Lib.hid ⟨by rw [List.length_set]; exact HL.out.1, fun i hi => by
                        simp only [List.getD_eq_getElem?_getD, List.getElem?_set]
                        by_cases e : j = i
                        · rw [if_pos e, if_pos (by have := HL.out.1; omega)]; rfl
                        · rw [if_neg e]
                          have := HL.out.2 i (by omega)
                          rwa [List.getD_eq_getElem?_getD] at this⟩
                      generalize L.getD j 0 = l0 at kc
                      have i1 : (j : Int) < (da.length : Int) := by omega
                      go_wp2
                      go_region_held3 (fun W => W.cell? ⟨T, 1, none⟩ = some (.slice (some ⟨g, 0, none⟩) da.length cd)) (first | go_keep | exact t9 | exact t1) (fail)
                      go_wp2
                      exact ⟨⟨j + 1, L.set j O, by omega, by go_num, HL2, R1, R2, R3, Lib.hid (below_drw R4.out 1)⟩, by simp [intOf]; omega⟩
                    · as_aux_lemma =>
                      obtain rfl : j = da.length := by omega
                      have HQ := Lib.hid (And.intro (Ld.of_own HI.out) (And.intro (Ld.of_own' HO.out HL.out.1) (And.intro HL.out.1 HL.out.2)))
                      clear hlt
                      go_wp2_with (first | (go_at_call 10; (with_reducible refine (KQ.out _ _ _ L (FRn.out _ _ FY.out HB.out) HQ.out.1 HQ.out.2.1 HQ.out.2.2.1 HQ.out.2.2.2).mono ?_); rintro e w36 ⟨p6, a6, q6, b6, rfl, h1, h2, hb⟩; have V6 := Lib.hid (And.intro h1 h2); have Z1 := Lib.hid (HB.out.trans (hb.mono HB.out.size)); have C0 := fun (o : Obj) => (FRk.out _ (FRa.out _ o (FRn.out _ _ FY.out Z1.out))).1; have C1 := fun (o : Obj) => (FRk.out _ (FRa.out _ o (FRn.out _ _ FY.out Z1.out))).2.1; clear h1 h2 hb) | (go_at_call 13; (with_reducible refine (eqtensor_same _ _ _ _ sa da _ (V6.out.1.below (al_below _)) (V6.out.2.below (al_below _)) (HL4.out.1.below (FRb.out _ (FRa.out _ _ (FRn.out _ _ FY.out Z1.out)))) (HL4.out.2.1.below (FRb.out _ (FRa.out _ _ (FRn.out _ _ FY.out Z1.out)))) HLN.out.2.2.1 HLN.out.2.2.2).mono ?_); rintro e w37 ⟨rfl, hb⟩; have Z2 := Lib.hid ((Z1.out.alloc Z1.out.size _).trans (hb.mono (Z1.out.alloc Z1.out.size _).size)); clear hb) | (go_at_call 12; (with_reducible refine (num8_any _ _).mono ?_); rintro e w' ⟨rfl, rfl⟩))
                      exact ⟨⟨k + 1, by omega, by go_num, hB.trans ((FRb.out _ (FRn.out _ _ FY.out Z2.out)).mono hBs)⟩, by simp [intOf]; omega⟩
                · as_aux_lemma =>
                  have b0 : (E == 0) = false := beq_eq_false_iff_ne.2 hE0
                  clear hE0 KN2
                  go_upto_region 19 with (go_at_call 12; (with_reducible refine (num8_any _ _).mono ?_); rintro e w' ⟨rfl, rfl⟩)
                  have FY := Lib.hid (FRn.out _ _ F25.out Y1.out)
                  clear x0 x1 x2 x3 x4 x5 x6
                  obtain ⟨x0, x1, x2, x3, x4, x5, x6⟩ := FRk.out _ FY.out
                  obtain ⟨wy, hwy⟩ : ∃ wy, wy = w31 := ⟨_, rfl⟩
                  rw [← hwy] at FY x0 x1 x2 x3 x4 x5 x6
                  rw [← hwy]
                  clear hwy
                  go_upto_region 20 with (go_at_call 14; (with_reducible refine (KCP.out _ FY.out).mono ?_); rintro e w34 ⟨oc, cc, od, cd, rfl, h1, h2, hb⟩; have O1 := Lib.hid h1; have O2 := Lib.hid h2; have Y5 := Lib.hid hb; clear h1 h2 hb)
                  have sY := Y5.out.size
                  have KB := Lib.hid (Blk.new w34 26 #[.slice oc sa.length cc, .slice od da.length cd])
                  have P1 := Lib.hid (O1.out.alloc (.cells #[.slice oc sa.length cc, .slice od da.length cd] 26))
                  have P2 := Lib.hid (O2.out.alloc (.cells #[.slice oc sa.length cc, .slice od da.length cd] 26))
                  have Y6 := Lib.hid (Y5.out.alloc Y5.out.size (.cells #[.slice oc sa.length cc, .slice od da.length cd] 26))
                  obtain ⟨T, hT⟩ : ∃ T, T = w34.heap.size := ⟨_, rfl⟩
                  rw [← hT] at KB sY
                  rw [← hT]
                  generalize w34.alloc (.cells #[.slice oc sa.length cc, .slice od da.length cd] 26) = wz at *
                  clear hT x0 x1 x2 x3 x4 x5 x6
                  go_wp2
                  go_loopw [17] (fun s17 wQ => ∃ (j : Nat) (L : List Int), j ≤ da.length ∧ s17 = .int .i64 j ∧ Hid (L.length = da.length ∧ ∀ i, i < j → L.getD i 0 = O) ∧ Hid (wQ.ownsRow wy.heap.size 2 1 (.slice od da.length cd) da.length (ints L)) ∧ Hid (wQ.ownsRow wy.heap.size 3 1 (.slice oc sa.length cc) sa.length (ints sa)) ∧ Hid (Blk wQ T 26 #[.slice oc sa.length cc, .slice od da.length cd]) ∧ Hid (Below wy.heap.size wy wQ)) (fun s17 _ => da.length - (intOf s17).toNat)
                  case atStart => exact ⟨0, da, Nat.zero_le _, rfl, Lib.hid ⟨rfl, fun i hi => absurd hi (Nat.not_lt_zero _)⟩, P2, P1, KB, Y6⟩
                  case round =>
                    obtain ⟨j, L, hj, rfl, HL, HO, HI, HK, HB⟩ := hrel
                    obtain ⟨t0, t1, _⟩ := blk2 HK.out
                    obtain ⟨x0, x1, x2, x3, x4, x5, x6⟩ := FRk.out _ (FRn.out _ _ FY.out HB.out)
                    by_cases hlt : j < da.length
                    · as_aux_lemma =>
                      obtain ⟨g, rfl⟩ := own_some HO.out (by omega)
                      have gT : ¬ T = g := fun e => tens_not_row HO.out HK.out (by decide) (by rw [e]; rfl)
                      have gB : wy.heap.size ≤ g := (HO.out.lt g rfl).1
                      have kc : wr.cell? ⟨g, j, none⟩ = some (.int .i64 (L.getD j 0)) := by
                        have h1 := HO.out
                        rw [← HL.out.1] at h1
                        exact own_cell h1 (by have := HL.out.1; omega)
                      have kf := own_frozen HO.out j
                      have R1 := Lib.hid (own_put2 HO.out HL.out.1 hlt O)
                      have R2 := Lib.hid (HI.out.kept (grown_set wr ⟨g, j, none⟩ (.int .i64 O)) (.inr (own_off HI.out HO.out (by decide))))
                      have R3 := Lib.hid (HK.out.far (p := ⟨g, j, none⟩) gT (.int .i64 O))
                      have t9 : (wr.setCell ⟨g, j, none⟩ (.int .i64 O)).drew.cell? ⟨T, 1, none⟩ = some (.slice (some ⟨g, 0, none⟩) da.length cd) := R3.out.cell 1
                      have R4 := Lib.hid (HB.out.setCell (p := ⟨g, j, none⟩) gB (.int .i64 O))
                      have HL2 : Hid ((L.set j O).length = da.length ∧ ∀ i, i < j + 1 → (L.set j O).getD i 0 = O) := Lib.hid ⟨by rw [List.length_set]; exact HL.out.1, fun i hi => by
                        simp only [List.getD_eq_getElem?_getD, List.getElem?_set]
                        by_cases e : j = i
                        · rw [if_pos e, if_pos (by have := HL.out.1; omega)]; rfl
                        · rw [if_neg e]
                          have := HL.out.2 i (by omega)
                          rwa [List.getD_eq_getElem?_getD] at this⟩
                      generalize L.getD j 0 = l0 at kc
                      have i1 : (j : Int) < (da.length : Int) := by omega
                      go_wp2
                      go_region_held3 (fun W => W.cell? ⟨T, 1, none⟩ = some (.slice (some ⟨g, 0, none⟩) da.length cd)) (first | go_keep | exact t9 | exact t1) (fail)
                      go_wp2
                      exact ⟨⟨j + 1, L.set j O, by omega, by go_num, HL2, R1, R2, R3, Lib.hid (below_drw R4.out 1)⟩, by simp [intOf]; omega⟩
                    · as_aux_lemma =>
                      obtain rfl : j = da.length := by omega
                      have HQ := Lib.hid (And.intro (Ld.of_own HI.out) (And.intro (Ld.of_own' HO.out HL.out.1) (And.intro HL.out.1 HL.out.2)))
                      clear hlt
                      go_wp2_with (first | (go_at_call 10; (with_reducible refine (KQ.out _ _ _ L (FRn.out _ _ FY.out HB.out) HQ.out.1 HQ.out.2.1 HQ.out.2.2.1 HQ.out.2.2.2).mono ?_); rintro e w36 ⟨p6, a6, q6, b6, rfl, h1, h2, hb⟩; have V6 := Lib.hid (And.intro h1 h2); have Z1 := Lib.hid (HB.out.trans (hb.mono HB.out.size)); have C0 := fun (o : Obj) => (FRk.out _ (FRa.out _ o (FRn.out _ _ FY.out Z1.out))).1; have C1 := fun (o : Obj) => (FRk.out _ (FRa.out _ o (FRn.out _ _ FY.out Z1.out))).2.1; clear h1 h2 hb) | (go_at_call 13; (with_reducible refine (eqtensor_same _ _ _ _ sa da _ (V6.out.1.below (al_below _)) (V6.out.2.below (al_below _)) (HL4.out.1.below (FRb.out _ (FRa.out _ _ (FRn.out _ _ FY.out Z1.out)))) (HL4.out.2.1.below (FRb.out _ (FRa.out _ _ (FRn.out _ _ FY.out Z1.out)))) HLN.out.2.2.1 HLN.out.2.2.2).mono ?_); rintro e w37 ⟨rfl, hb⟩; have Z2 := Lib.hid ((Z1.out.alloc Z1.out.size _).trans (hb.mono (Z1.out.alloc Z1.out.size _).size)); clear hb) | (go_at_call 12; (with_reducible refine (num8_any _ _).mono ?_); rintro e w' ⟨rfl, rfl⟩))
                      exact ⟨⟨k + 1, by omega, by go_num, hB.trans ((FRb.out _ (FRn.out _ _ FY.out Z2.out)).mono hBs)⟩, by simp [intOf]; omega⟩
    · as_aux_lemma =>
      by_cases g1 : k < len
      · have g2 : 4 ≤ k := by omega
        clear g
        go_wp2_with (go_at_call 15; (with_reducible refine (wakes8_any _).mono ?_); rintro e w9 ⟨rfl, hb9⟩)
        go_ret
        exact ⟨rfl, hB.trans (hb9.mono hBs)⟩
      · have g2 : len ≤ k := by omega
        clear g g1
        go_wp2_with (go_at_call 15; (with_reducible refine (wakes8_any _).mono ?_); rintro e w9 ⟨rfl, hb9⟩)
        go_ret
        exact ⟨rfl, hB.trans (hb9.mono hBs)⟩
end Go.Proofs.YtpfcjajmfadcbaaGreat
