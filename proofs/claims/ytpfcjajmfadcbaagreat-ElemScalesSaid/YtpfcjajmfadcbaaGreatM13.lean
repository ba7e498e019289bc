/-
  ElemScales' loop.
-/
import Derived.Test.YtpfcjajmfadcbaaGreatM09
import Derived.Test.YtpfcjajmfadcbaaGreatM11
import Derived.Test.YtpfcjajmfadcbaaGreatM12
namespace Go.Proofs.YtpfcjajmfadcbaaGreat
open Go.RowKit Go.Shelf

theorem blk7 {W : World} {b : Nat} {v0 v1 v2 v3 v4 v5 v6 : Value} (h : Blk W b 28 #[v0, v1, v2, v3, v4, v5, v6]) : W.cell? ⟨b, 0, none⟩ = some v0 ∧ W.cell? ⟨b, 1, none⟩ = some v1 ∧ W.cell? ⟨b, 2, none⟩ = some v2 ∧ W.cell? ⟨b, 3, none⟩ = some v3 ∧ W.cell? ⟨b, 4, none⟩ = some v4 ∧ W.cell? ⟨b, 5, none⟩ = some v5 ∧ W.cell? ⟨b, 6, none⟩ = some v6 :=
  ⟨h.cell 0, h.cell 1, h.cell 2, h.cell 3, h.cell 4, h.cell 5, h.cell 6⟩
theorem nxt2 {W W' : World} {o : Obj} {v u : Value} {a b : List Int} (h : Ld W v a ∧ Ld W u b) (hb : Below (W.alloc o).heap.size (W.alloc o) W') : Ld W' v a ∧ Ld W' u b :=
  ⟨(h.1.below (al_below _)).below hb, (h.2.below (al_below _)).below hb⟩
theorem nxt3 {W W' : World} {o o2 : Obj} {v u : Value} {a b : List Int} (h : Ld W v a ∧ Ld W u b) (hb : Below ((W.alloc o).alloc o2).heap.size ((W.alloc o).alloc o2) W') : Ld W' v a ∧ Ld W' u b :=
  ⟨((h.1.below (al_below _)).below (al_below _)).below hb, ((h.2.below (al_below _)).below (al_below _)).below hb⟩
theorem blk_nxt {W W' : World} {o : Obj} {b : Nat} {t : TypeId} {cs : Array Value} (h : Blk W b t cs) (hb : Below (W.alloc o).heap.size (W.alloc o) W') : Blk W' b t cs := (h.alloc o).below hb (h.alloc o).lt
theorem unl_len_le (e : Int) {l : List Int} {n : Nat} (h : l.length ≤ n) : (unl e l).length ≤ n := by
  unfold unl; split
  · exact h
  · exact Nat.zero_le _
theorem owv_len (vf : Int → Int) (da : List Int) : (owv vf da).length = da.length := vls_len _ _
theorem tnb_word {c : Int} (h : wd c = true) : tnb [] [c] = true := by
  have hw : wds [c] = true := wds_yes fun k hk => by
    obtain rfl : k = 0 := by simpa using hk
    exact wd_bd h
  unfold tnb
  rw [hw]; rfl
theorem wrap_pow {f : Nat} (h : fb f = true) : wrap64 (2 ^ f) = 2 ^ f ∧ wrap64 (-2 ^ f) = -2 ^ f := by
  have := wd_bd (wd_pow h)
  exact ⟨IntWalk.wrap64_in _ ⟨by omega, by omega⟩, IntWalk.wrap64_in _ ⟨by omega, by omega⟩⟩

set_option maxRecDepth 100000 in
set_option maxHeartbeats 100000000 in
theorem elemscales_any (bb oo len cap : Nat) (es : Nat → Ek) (w : World) (_hl : len ≤ 9223372036854775807) (hb : bb < w.heap.size) (hT : ∀ i, i < len → EkAt w bb (oo + i * 7) (es i)) (hok : ∀ i, i < len → (es i).ok w) :
    Calls Tryz.prog 6 #[.slice (some ⟨bb, oo, none⟩) len cap] w fun e w' => e = .returned (.bool true) ∧ Below w.heap.size w w' := by
  have HT := Lib.hid (And.intro hT hok)
  clear hT hok
  go_enter Tryz.func6, Tryz.ntmps6
  go_wp2
  go_loopw [3] (fun s3 wQ => ∃ k : Nat, k ≤ len ∧ s3 = .int .i64 k ∧ Below w.heap.size w wQ) (fun s3 _ => len - (intOf s3).toNat)
  case atStart => exact ⟨0, Nat.zero_le _, rfl, Below.refl _ _⟩
  case round =>
    obtain ⟨k, hk, rfl, hB⟩ := hrel
    have hBs := hB.size
    obtain ⟨w1, hw1⟩ : ∃ w1, w1 = wr := ⟨_, rfl⟩
    subst hw1
    by_cases g : k < len ∧ k < 4
    · obtain ⟨g1, g2⟩ := g
      obtain ⟨t0, t1, t2, t3, t4, t5, t6⟩ := (HT.out.1 k (by omega)).below hB hb
      obtain ⟨⟨hA, hX, hBB, hY⟩, ⟨l0, l1, l2, l3⟩, ⟨a0, a1⟩, ⟨b0, b1⟩, ⟨f0, f1⟩⟩ := HT.out.2 k (by omega)
      replace hA := hA.below hB
      replace hX := hX.below hB
      replace hBB := hBB.below hB
      replace hY := hY.below hB
      generalize es k = p at *
      obtain ⟨vA, vX, vB, vY, sa, da, sb, db, op, c, f⟩ := p
      simp only at t0 t1 t2 t3 t4 t5 t6 hA hX hBB hY l0 l1 l2 l3 a0 a1 b0 b1 f0 f1
      obtain ⟨oA, cA, rfl, _, _⟩ := id hA
      obtain ⟨oX, cX, rfl, _, _⟩ := id hX
      obtain ⟨oB, cB, rfl, _, _⟩ := id hBB
      obtain ⟨oY, cY, rfl, _, _⟩ := id hY
      have K0 := Lib.hid (fun o => (Below.refl w1.heap.size w1).alloc (Nat.le_refl _) o)
      have K4 := Lib.hid (Blk.new w1 28 #[.slice oA sa.length cA, .slice oX da.length cX, .slice oB sb.length cB, .slice oY db.length cY, .int .i64 op, .int .i64 c, .int .i64 f])
      obtain ⟨FR, hFR⟩ : ∃ FR : World → Prop, FR = fun W => Below w1.heap.size w1 W ∧ Blk W w1.heap.size 28 #[.slice oA sa.length cA, .slice oX da.length cX, .slice oB sb.length cB, .slice oY db.length cY, .int .i64 op, .int .i64 c, .int .i64 f] := ⟨_, rfl⟩
      have FRb : Hid (∀ W, FR W → Below w1.heap.size w1 W) := Lib.hid (fun W h => by rw [hFR] at h; exact h.1)
      have FRk := Lib.hid (fun (W : World) (h : FR W) => blk7 (by rw [hFR] at h; exact h.2 : Blk W w1.heap.size 28 #[.slice oA sa.length cA, .slice oX da.length cX, .slice oB sb.length cB, .slice oY db.length cY, .int .i64 op, .int .i64 c, .int .i64 f]))
      have FRn : Hid (∀ W W', FR W → Below W.heap.size W W' → FR W') := Lib.hid (fun W W' h hb => by rw [hFR] at h ⊢; exact ⟨h.1.trans (hb.mono h.1.size), h.2.below hb h.2.lt⟩)
      have FRa : Hid (∀ W o, FR W → FR (W.alloc o)) := Lib.hid (fun W o h => FRn.out _ _ h (al_below o))
      have FRs : Hid (∀ W', Below (w1.alloc (.cells #[.slice oA sa.length cA, .slice oX da.length cX, .slice oB sb.length cB, .slice oY db.length cY, .int .i64 op, .int .i64 c, .int .i64 f] 28)).heap.size (w1.alloc (.cells #[.slice oA sa.length cA, .slice oX da.length cX, .slice oB sb.length cB, .slice oY db.length cY, .int .i64 op, .int .i64 c, .int .i64 f] 28)) W' → FR W') := Lib.hid (fun W' hb => by rw [hFR]; exact ⟨(K0.out _).trans (hb.mono (by simp)), K4.out.below hb (by simp)⟩)
      clear hFR
      have LGA := Lib.hid (fun (W : World) (hW : Below w1.heap.size w1 W) => heavy8_any _ _ sa da 30 W (hA.below hW) (hX.below hW) (by omega) (by omega))
      cases lga : hv8 30 sa da with
      | true =>
        rw [lga] at LGA
        clear lga hA hX hBB hY
        go_wp2_with (go_at_call 7; (with_reducible refine (LGA.out _ (K0.out _)).mono ?_); rintro e w2 ⟨rfl, hb2⟩; have F2 := Lib.hid (FRs.out _ hb2); obtain ⟨x0, x1, x2, x3, x4, x5, x6⟩ := FRk.out _ F2.out; clear hb2)
        go_ret
        exact ⟨rfl, hB.trans ((FRb.out _ F2.out).mono hBs)⟩
      | false =>
        rw [lga] at LGA
        have na := hv8_no lga
        have HL := Lib.hid (And.intro hA hX)
        have KMA := Lib.hid (fun (W : World) (hW : Below w1.heap.size w1 W) => rmay8_any _ _ sa da W (hA.below hW) (hX.below hW) (by omega) (by omega))
        have KMW := Lib.hid (fun (W : World) => may_any c W)
        clear lga hA hX hBB hY
        go_upto_region 7 with (go_at_call 7; (with_reducible refine (LGA.out _ (K0.out _)).mono ?_); rintro e w2 ⟨rfl, hb2⟩; have F2 := Lib.hid (FRs.out _ hb2); obtain ⟨x0, x1, x2, x3, x4, x5, x6⟩ := FRk.out _ F2.out; clear hb2)
        cases ta : tnb sa da with
        | false =>
          rw [ta] at KMA
          clear ta
          go_wp2_with (go_at_call 8; (with_reducible refine (KMA.out _ (FRb.out _ F2.out)).mono ?_); rintro e w4 ⟨rfl, hb4⟩; have F4 := Lib.hid (FRn.out _ _ F2.out hb4); obtain ⟨x0, x1, x2, x3, x4, x5, x6⟩ := FRk.out _ F4.out; clear hb4)
          exact ⟨⟨k + 1, by omega, by go_num, hB.trans ((FRb.out _ F4.out).mono hBs)⟩, by simp [intOf]; omega⟩
        | true =>
          rw [ta] at KMA
          cases gc : wd c with
          | false =>
            rw [gc] at KMW
            clear ta gc
            go_wp2_with (first | (go_at_call 8; (with_reducible refine (KMA.out _ (FRb.out _ F2.out)).mono ?_); rintro e w4 ⟨rfl, hb4⟩; have F4 := Lib.hid (FRn.out _ _ F2.out hb4); obtain ⟨x0, x1, x2, x3, x4, x5, x6⟩ := FRk.out _ F4.out; clear hb4) | (go_at_call 23; (with_reducible refine (KMW.out _).mono ?_); rintro e w' ⟨rfl, rfl⟩))
            exact ⟨⟨k + 1, by omega, by go_num, hB.trans ((FRb.out _ F4.out).mono hBs)⟩, by simp [intOf]; omega⟩
          | true =>
            rw [gc] at KMW
            have ma := (tnb_parts ta).1
            obtain ⟨fN, hfN⟩ : ∃ fN : Nat, (fN : Int) = 8 + f % 18446744073709551616 % 25 := ⟨(8 + f % 18446744073709551616 % 25).toNat, by omega⟩
            have hfb : fb fN = true := fb_mk (by omega)
            have hf64 : fN < 64 := by omega
            have KFF : Hid (∀ W : World, Calls Tryz.prog 9 #[.int .i64 f] W fun e w' => e = .returned (.int .i64 (fN : Int)) ∧ W = w') := Lib.hid (fun W => by rw [hfN]; exact ff_any f W)
            have hla := (tnb_parts ta).2.1
            have pa := may_prod ma
            have l4 := may_len ma
            obtain ⟨O, hO⟩ : ∃ O : Int, O = 2 ^ fN := ⟨_, rfl⟩
            have eo1 : wrap64 (2 ^ fN) = O := by rw [hO]; exact (wrap_pow hfb).1
            have eo2 : wrap64 (-O) = -O := by rw [hO]; exact (wrap_pow hfb).2
            have eG : (ngl da).length = da.length := owv_len _ _
            have KA : Hid (∀ W, FR W → Calls Tryz.prog 11 #[.int .i64 8, .agg #[.slice oA sa.length cA, .slice oX da.length cX], .int .i64 O, .int .i64 fN] W (Tx W 0 sa da)) := Lib.hid (fun W h => by rw [hO]; exact scale1_any fN _ _ sa da W (HL.out.1.below (FRb.out _ h)) (HL.out.2.below (FRb.out _ h)) ta hfb)
            have KB : Hid (∀ W, FR W → Calls Tryz.prog 11 #[.int .i64 8, .agg #[.slice oA sa.length cA, .slice oX da.length cX], .int .i64 (-O), .int .i64 fN] W (Tx W 0 sa (ngl da))) := Lib.hid (fun W h => by rw [hO]; exact scalen_any fN _ _ sa da W (HL.out.1.below (FRb.out _ h)) (HL.out.2.below (FRb.out _ h)) ta hfb)
            have KC : Hid (∀ W, FR W → Calls Tryz.prog 11 #[.int .i64 7, .agg #[.slice oA sa.length cA, .slice oX da.length cX], .int .i64 0, .int .i64 fN] W (Tx W 0 sa (ngl da))) := Lib.hid (fun W h => neg_any fN _ _ sa da W (HL.out.1.below (FRb.out _ h)) (HL.out.2.below (FRb.out _ h)) ta hfb)
            have KD : Hid (∀ W, FR W → Calls Tryz.prog 11 #[.int .i64 10, .agg #[.slice oA sa.length cA, .slice oX da.length cX], .int .i64 O, .int .i64 fN] W (Tx W 0 sa da)) := Lib.hid (fun W h => by rw [hO]; exact leaky1_any fN _ _ sa da W (HL.out.1.below (FRb.out _ h)) (HL.out.2.below (FRb.out _ h)) ta hfb)
            obtain ⟨E, hE⟩ : ∃ E, E = owe (fun a => e2 5 fN a c) da := ⟨_, rfl⟩
            obtain ⟨S, hS⟩ : ∃ S, S = unl E sa := ⟨_, rfl⟩
            obtain ⟨D, hD⟩ : ∃ D, D = unl E (owv (fun a => v2 5 fN a c) da) := ⟨_, rfl⟩
            have KO6 : Hid (∀ W, FR W → Calls Tryz.prog 11 #[.int .i64 8, .agg #[.slice oA sa.length cA, .slice oX da.length cX], .int .i64 c, .int .i64 fN] W (Tx W E S D)) := Lib.hid (fun W h => by rw [hD, hS, hE]; exact scale_any c fN _ _ sa da W (HL.out.1.below (FRb.out _ h)) (HL.out.2.below (FRb.out _ h)) ta gc hfb)
            have KT7 : Hid (∀ W v, FR W → Ld W v [c] → Calls Tryz.prog 10 #[.int .i64 5, .agg #[.slice oA sa.length cA, .slice oX da.length cX], .agg #[.slice none 0 0, v], .int .i64 fN] W (Tx W E S D)) := Lib.hid (fun W v h hv => (two_any 5 fN _ _ _ _ sa da [] [c] W (HL.out.1.below (FRb.out _ h)) (HL.out.2.below (FRb.out _ h)) (Ld.nil W) hv ta (tnb_word gc) hfb (by decide) (by decide)).mono (fun _ _ hh => by
              have := tx_of hh
              rw [(tw_word (e2 5 fN) c ta).1, (tw_word (v2 5 fN) c ta).2, (spe_nilr ma).2] at this
              rw [hD, hS, hE]; exact this))
            have HLN := Lib.hid (And.intro (show sa.length ≤ 17592186044416 by omega) (And.intro (show (ngl da).length ≤ 17592186044416 by omega) (show da.length ≤ 17592186044416 by omega)))
            have HSD := Lib.hid (And.intro (show S.length ≤ 17592186044416 by rw [hS]; exact unl_len_le _ (by omega)) (show D.length ≤ 17592186044416 by rw [hD]; exact unl_len_le _ (by rw [owv_len]; omega)))
            clear ta gc hla pa ma hfb hO hE hS hD eG hfN
            generalize ngl da = G at *
            go_upto_region 14 with (first | (go_at_call 8; (with_reducible refine (KMA.out _ (FRb.out _ F2.out)).mono ?_); rintro e w4 ⟨rfl, hb4⟩; have F4 := Lib.hid (FRn.out _ _ F2.out hb4); obtain ⟨x0, x1, x2, x3, x4, x5, x6⟩ := FRk.out _ F4.out; clear hb4) | (go_at_call 23; (with_reducible refine (KMW.out _).mono ?_); rintro e w' ⟨rfl, rfl⟩) | (go_at_call 9; (with_reducible refine (KFF.out _).mono ?_); rintro e w' ⟨rfl, rfl⟩) | (go_at_call 11; (with_reducible refine (KA.out _ F4.out).mono ?_); rintro e w22 ⟨p1, a1, q1, b1, rfl, h1, h2, hb⟩; have V1 := Lib.hid (And.intro h1 h2); have F22 := Lib.hid (FRn.out _ _ F4.out hb); obtain ⟨x0, x1, x2, x3, x4, x5, x6⟩ := FRk.out _ (FRa.out _ (.cells #[.slice p1 sa.length a1, .slice q1 da.length b1] 26) F22.out); clear h1 h2 hb) | (go_at_call 11; (with_reducible refine (KB.out _ (FRa.out _ _ F22.out)).mono ?_); rintro e w23 ⟨p2, a2, q2, b2, rfl, h1, h2, hb⟩; have V2 := Lib.hid (And.intro h1 h2); have F23 := Lib.hid (FRn.out _ _ (FRa.out _ _ F22.out) hb); replace V1 := Lib.hid (nxt2 V1.out hb); have Q1 := Lib.hid ((Blk.new w22 26 #[.slice p1 sa.length a1, .slice q1 da.length b1]).below hb (Blk.new w22 _ _).lt); obtain ⟨x0, x1, x2, x3, x4, x5, x6⟩ := FRk.out _ (FRa.out _ (.cells #[.slice p2 sa.length a2, .slice q2 G.length b2] 26) F23.out); clear h1 h2 hb) | (go_at_call 11; (with_reducible refine (KC.out _ (FRa.out _ _ F23.out)).mono ?_); rintro e w24 ⟨p3, a3, q3, b3, rfl, h1, h2, hb⟩; have V3 := Lib.hid (And.intro h1 h2); have F24 := Lib.hid (FRn.out _ _ (FRa.out _ _ F23.out) hb); replace V1 := Lib.hid (nxt2 V1.out hb); replace V2 := Lib.hid (nxt2 V2.out hb); replace Q1 := Lib.hid (blk_nxt Q1.out hb); have Q2 := Lib.hid ((Blk.new w23 26 #[.slice p2 sa.length a2, .slice q2 G.length b2]).below hb (Blk.new w23 _ _).lt); obtain ⟨x0, x1, x2, x3, x4, x5, x6⟩ := FRk.out _ (FRa.out _ (.cells #[.slice p3 sa.length a3, .slice q3 G.length b3] 26) F24.out); clear h1 h2 hb) | (go_at_call 11; (with_reducible refine (KD.out _ (FRa.out _ _ F24.out)).mono ?_); rintro e w25 ⟨p4, a4, q4, b4, rfl, h1, h2, hb⟩; have V4 := Lib.hid (And.intro h1 h2); have F25 := Lib.hid (FRn.out _ _ (FRa.out _ _ F24.out) hb); replace V1 := Lib.hid (nxt2 V1.out hb); replace V2 := Lib.hid (nxt2 V2.out hb); replace V3 := Lib.hid (nxt2 V3.out hb); replace Q1 := Lib.hid (blk_nxt Q1.out hb); replace Q2 := Lib.hid (blk_nxt Q2.out hb); have Q3 := Lib.hid ((Blk.new w24 26 #[.slice p3 sa.length a3, .slice q3 G.length b3]).below hb (Blk.new w24 _ _).lt); obtain ⟨x0, x1, x2, x3, x4, x5, x6⟩ := FRk.out _ (FRa.out _ (.cells #[.slice p4 sa.length a4, .slice q4 da.length b4] 26) F25.out); clear h1 h2 hb))
            have Q4 := Lib.hid (Blk.new w25 26 #[.slice p4 sa.length a4, .slice q4 da.length b4])
            replace Q1 := Lib.hid (Q1.out.alloc (.cells #[.slice p4 sa.length a4, .slice q4 da.length b4] 26))
            replace Q2 := Lib.hid (Q2.out.alloc (.cells #[.slice p4 sa.length a4, .slice q4 da.length b4] 26))
            replace Q3 := Lib.hid (Q3.out.alloc (.cells #[.slice p4 sa.length a4, .slice q4 da.length b4] 26))
            have R1 := Lib.hid (And.intro (V1.out.1.below (al_below (.cells #[.slice p4 sa.length a4, .slice q4 da.length b4] 26))) (V1.out.2.below (al_below (.cells #[.slice p4 sa.length a4, .slice q4 da.length b4] 26))))
            have R2 := Lib.hid (And.intro (V2.out.1.below (al_below (.cells #[.slice p4 sa.length a4, .slice q4 da.length b4] 26))) (V2.out.2.below (al_below (.cells #[.slice p4 sa.length a4, .slice q4 da.length b4] 26))))
            have R3 := Lib.hid (And.intro (V3.out.1.below (al_below (.cells #[.slice p4 sa.length a4, .slice q4 da.length b4] 26))) (V3.out.2.below (al_below (.cells #[.slice p4 sa.length a4, .slice q4 da.length b4] 26))))
            have R4 := Lib.hid (And.intro (V4.out.1.below (al_below (.cells #[.slice p4 sa.length a4, .slice q4 da.length b4] 26))) (V4.out.2.below (al_below (.cells #[.slice p4 sa.length a4, .slice q4 da.length b4] 26))))
            replace F25 := Lib.hid (FRa.out _ (.cells #[.slice p4 sa.length a4, .slice q4 da.length b4] 26) F25.out)
            clear V1 V2 V3 V4 KA KB KC KD F22 F23 F24 x0 x1 x2 x3 x4 x5 x6
            generalize w25.alloc (.cells #[.slice p4 sa.length a4, .slice q4 da.length b4] 26) = wb at *
            have Y0 := Lib.hid (Below.refl wb.heap.size wb)
            have R0 : Hid (Ld wb (.slice oA sa.length cA) sa ∧ Ld wb (.slice oX da.length cX) da) := Lib.hid (And.intro (HL.out.1.below (FRb.out _ F25.out)) (HL.out.2.below (FRb.out _ F25.out)))
            obtain ⟨x0, x1, x2, x3, x4, x5, x6⟩ := FRk.out _ F25.out
            obtain ⟨u1, v1, _, _⟩ := blk2 (Q1.out.below Y0.out Q1.out.lt)
            obtain ⟨u2, v2, _, _⟩ := blk2 (Q2.out.below Y0.out Q2.out.lt)
            obtain ⟨u3, v3, _, _⟩ := blk2 (Q3.out.below Y0.out Q3.out.lt)
            obtain ⟨u4, v4, _, _⟩ := blk2 (Q4.out.below Y0.out Q4.out.lt)
            go_upto_region 16 with (first | (go_at_call 13; (with_reducible refine (eqtensor_same _ _ _ _ sa da _ (And.intro (R1.out.1.below Y0.out) (R1.out.2.below Y0.out)).1 (And.intro (R1.out.1.below Y0.out) (R1.out.2.below Y0.out)).2 (And.intro (R0.out.1.below Y0.out) (R0.out.2.below Y0.out)).1 (And.intro (R0.out.1.below Y0.out) (R0.out.2.below Y0.out)).2 HLN.out.1 HLN.out.2.2).mono ?_); rintro e w31 ⟨rfl, hb⟩; have Y1 := Lib.hid (Y0.out.trans (hb.mono Y0.out.size)); obtain ⟨u1, v1, _, _⟩ := blk2 (Q1.out.below Y1.out Q1.out.lt); obtain ⟨u2, v2, _, _⟩ := blk2 (Q2.out.below Y1.out Q2.out.lt); obtain ⟨u3, v3, _, _⟩ := blk2 (Q3.out.below Y1.out Q3.out.lt); obtain ⟨u4, v4, _, _⟩ := blk2 (Q4.out.below Y1.out Q4.out.lt); obtain ⟨x0, x1, x2, x3, x4, x5, x6⟩ := FRk.out _ (FRn.out _ _ F25.out Y1.out); clear hb) | (go_at_call 13; (with_reducible refine (eqtensor_same _ _ _ _ sa G _ (And.intro (R2.out.1.below Y1.out) (R2.out.2.below Y1.out)).1 (And.intro (R2.out.1.below Y1.out) (R2.out.2.below Y1.out)).2 (And.intro (R3.out.1.below Y1.out) (R3.out.2.below Y1.out)).1 (And.intro (R3.out.1.below Y1.out) (R3.out.2.below Y1.out)).2 HLN.out.1 HLN.out.2.1).mono ?_); rintro e w32 ⟨rfl, hb⟩; have Y2 := Lib.hid (Y1.out.trans (hb.mono Y1.out.size)); obtain ⟨u1, v1, _, _⟩ := blk2 (Q1.out.below Y2.out Q1.out.lt); obtain ⟨u2, v2, _, _⟩ := blk2 (Q2.out.below Y2.out Q2.out.lt); obtain ⟨u3, v3, _, _⟩ := blk2 (Q3.out.below Y2.out Q3.out.lt); obtain ⟨u4, v4, _, _⟩ := blk2 (Q4.out.below Y2.out Q4.out.lt); obtain ⟨x0, x1, x2, x3, x4, x5, x6⟩ := FRk.out _ (FRn.out _ _ F25.out Y2.out); clear hb) | (go_at_call 13; (with_reducible refine (eqtensor_same _ _ _ _ sa da _ (And.intro (R4.out.1.below Y2.out) (R4.out.2.below Y2.out)).1 (And.intro (R4.out.1.below Y2.out) (R4.out.2.below Y2.out)).2 (And.intro (R0.out.1.below Y2.out) (R0.out.2.below Y2.out)).1 (And.intro (R0.out.1.below Y2.out) (R0.out.2.below Y2.out)).2 HLN.out.1 HLN.out.2.2).mono ?_); rintro e w33 ⟨rfl, hb⟩; have Y3 := Lib.hid (Y2.out.trans (hb.mono Y2.out.size)); obtain ⟨u1, v1, _, _⟩ := blk2 (Q1.out.below Y3.out Q1.out.lt); obtain ⟨u2, v2, _, _⟩ := blk2 (Q2.out.below Y3.out Q2.out.lt); obtain ⟨u3, v3, _, _⟩ := blk2 (Q3.out.below Y3.out Q3.out.lt); obtain ⟨u4, v4, _, _⟩ := blk2 (Q4.out.below Y3.out Q4.out.lt); obtain ⟨x0, x1, x2, x3, x4, x5, x6⟩ := FRk.out _ (FRn.out _ _ F25.out Y3.out); clear hb) | (go_at_call 12; (with_reducible refine (num8_any _ _).mono ?_); rintro e w' ⟨rfl, rfl⟩))
            go_wp2_with (first | (go_at_call 11; (with_reducible refine (KO6.out _ (FRn.out _ _ F25.out Y3.out)).mono ?_); rintro e w40 ⟨p6, a6, q6, b6, rfl, h1, h2, hb⟩; have V6 := Lib.hid (And.intro h1 h2); have Z1 := Lib.hid (Y3.out.trans (hb.mono Y3.out.size)); have Z2 := Lib.hid ((Z1.out.alloc Z1.out.size (.cells #[.slice p6 S.length a6, .slice q6 D.length b6] 26)).alloc (by have := Z1.out.size; simp; omega) (.cells #[.int .i64 c] 2)); have LC : Hid (∀ o, Ld (((w40.alloc o).alloc (.cells #[.int .i64 c] 2))) (.slice (some ⟨w40.heap.size + 1, 0, none⟩) 1 1) [c]) := Lib.hid (fun o => ld1 (World.size_alloc _ _)); obtain ⟨x0, x1, x2, x3, x4, x5, x6⟩ := FRk.out _ (FRa.out _ (.cells #[.slice p6 S.length a6, .slice q6 D.length b6] 26) (FRn.out _ _ F25.out Z1.out)); clear h1 h2 hb) | (go_at_call 10; (with_reducible refine (KT7.out _ _ (FRn.out _ _ F25.out Z2.out) (LC.out _)).mono ?_); rintro e w41 ⟨p7, a7, q7, b7, rfl, h1, h2, hb⟩; have V7 := Lib.hid (And.intro h1 h2); have Z3 := Lib.hid (Z2.out.trans (hb.mono Z2.out.size)); replace V6 := Lib.hid (nxt3 V6.out hb); have Q6 := Lib.hid (((Blk.new w40 26 #[.slice p6 S.length a6, .slice q6 D.length b6]).alloc _).below hb ((Blk.new w40 _ _).alloc _).lt); have C0 := fun (o : Obj) => (Q6.out.alloc o).cell 0; have C1 := fun (o : Obj) => (Q6.out.alloc o).cell 1; clear h1 h2 hb) | (go_at_call 13; (with_reducible refine (eqtensor_same _ _ _ _ S D _ (V6.out.1.below (al_below _)) (V6.out.2.below (al_below _)) (V7.out.1.below (al_below _)) (V7.out.2.below (al_below _)) HSD.out.1 HSD.out.2).mono ?_); rintro e w42 ⟨rfl, hb⟩; have Z4 := Lib.hid ((Z3.out.alloc Z3.out.size _).trans (hb.mono (Z3.out.alloc Z3.out.size _).size)); clear hb) | (go_at_call 12; (with_reducible refine (num8_any _ _).mono ?_); rintro e w' ⟨rfl, rfl⟩))
            exact ⟨⟨k + 1, by omega, by go_num, hB.trans ((FRb.out _ (FRn.out _ _ F25.out Z4.out)).mono hBs)⟩, by simp [intOf]; omega⟩
    · as_aux_lemma =>
      by_cases g1 : k < len
      · have g2 : 4 ≤ k := by omega
        clear g
        go_wp2_with (go_at_call 15; (with_reducible refine (wakes8_any _).mono ?_); rintro e w9 ⟨rfl, hb9⟩)
        go_ret
        exact ⟨rfl, hB.trans (hb9.mono hBs)⟩
      · have g2 : len ≤ k := by omega
        clear g g1
        go_wp2_with (go_at_call 15; (with_reducible refine (wakes8_any _).mono ?_); rintro e w9 ⟨rfl, hb9⟩)
        go_ret
        exact ⟨rfl, hB.trans (hb9.mono hBs)⟩
end Go.Proofs.YtpfcjajmfadcbaaGreat
