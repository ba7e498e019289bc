/-
  ViewExact's loop.
-/
import Derived.BigQuiet
import Derived.Deep.DeepBigQuietO
import Derived.Test.YtdefgmkkkeemoaaM09
namespace Go.Proofs.Ytdefgmkkkeemoaa
open Go.RowKit Go.Shelf

set_option maxRecDepth 100000 in
set_option maxHeartbeats 100000000 in
theorem viewexact_any (HWK : ∀ W : World, Calls Try.prog 29 #[] W fun e w' => e = .returned (.bool true) ∧ Below W.heap.size W w') (bb oo len cap : Nat) (es : Nat → Ak) (w : World) (_hl : len ≤ 9223372036854775807) (hb : bb < w.heap.size) (hT : ∀ i, i < len → AkAt w bb (oo + i * 11) (es i)) (hok : ∀ i, i < len → (es i).ok w) :
    Calls Try.prog 3 #[.slice (some ⟨bb, oo, none⟩) len cap] w fun e w' => e = .returned (.bool true) ∧ Below w.heap.size w w' := by
  have HT := Lib.hid (And.intro hT hok)
  have HK := Lib.hid HWK
  clear hT hok HWK
  go_enter Try.func3, Try.ntmps3
  go_wp2
  go_loopw [3] (fun s3 wr => ∃ k : Nat, k ≤ len ∧ s3 = .int .i64 k ∧ Below w.heap.size w wr) (fun s3 _ => len - (intOf s3).toNat)
  case atStart => exact ⟨0, Nat.zero_le _, rfl, Below.refl _ _⟩
  case round =>
    obtain ⟨k, hk, rfl, hB⟩ := hrel
    have hBs := hB.size
    by_cases g : k < len ∧ k < 15
    · obtain ⟨g1, g2⟩ := g
      obtain ⟨t0, t1, t2, t3, t4, t5, t6, t7, t8, t9, t10⟩ := (HT.out.1 k (by omega)).below hB hb
      obtain ⟨⟨hU, hT, hD, hX, hV, hP, hR⟩, ⟨l0, l1, l2, l3, l4, l5, l6⟩, ⟨a0, a1⟩, ⟨b0, b1⟩, ⟨c0, c1⟩, ⟨f0, f1⟩⟩ := HT.out.2 k (by omega)
      replace hU := hU.below hB
      replace hT := hT.below hB
      replace hD := hD.below hB
      replace hX := hX.below hB
      replace hV := hV.below hB
      replace hP := hP.below hB
      replace hR := hR.below hB
      generalize es k = p at *
      obtain ⟨U, T, D, X, V, P, R, sh, st, ds, ax, s, ts, tds, off, A, B, C⟩ := p
      simp only at t0 t1 t2 t3 t4 t5 t6 t7 t8 t9 t10 hU hT hD hX hV hP hR l0 l1 l2 l3 l4 l5 l6 a0 a1 b0 b1 c0 c1 f0 f1
      obtain ⟨oU, cU, rfl, _, _⟩ := id hU
      obtain ⟨oT, cT, rfl, _, _⟩ := id hT
      obtain ⟨oD, cD, rfl, _, _⟩ := id hD
      obtain ⟨oX, cX, rfl, _, _⟩ := id hX
      obtain ⟨oV, cV, rfl, _, _⟩ := id hV
      obtain ⟨oP, cP, rfl, _, _⟩ := id hP
      obtain ⟨oR, cR, rfl, _, _⟩ := id hR
      have K0 := Lib.hid (fun o => (Below.refl wr.heap.size wr).alloc (Nat.le_refl _) o)
      have LG := Lib.hid (fun (W : World) (hW : Below wr.heap.size wr W) => heavy_any oU cU sh (.slice oT st.length cT) off oD oX oV oP oR ds.length cD ax.length cX s.length cV ts.length cP tds.length cR A B C W (hU.below hW) l0 l2 l3 l4 l5 l6)
      have K4 := Lib.hid (Blk.new wr 30 #[.slice oU sh.length cU, .slice oT st.length cT, .int .i64 off, .slice oD ds.length cD, .slice oX ax.length cX, .slice oV s.length cV, .int .i64 A, .int .i64 B, .int .i64 C, .slice oP ts.length cP, .slice oR tds.length cR])
      cases lg : hvy sh ds.length ax.length s.length ts.length tds.length with
      | true =>
        rw [lg] at LG
        clear lg hU hT hD hX hV hP hR
        go_wp2_with (go_at_call 7; (with_reducible refine (LG.out _ (K0.out _)).mono ?_); rintro e w2 ⟨rfl, hb2⟩; have B2 := (K0.out _).trans (hb2.mono (by simp)); clear hb2)
        go_ret
        exact ⟨rfl, hB.trans (B2.mono hBs)⟩
      | false =>
        rw [lg] at LG
        obtain ⟨m0, m1, m2, m3, m4, m5, m6⟩ := hvy_no lg
        have HL := Lib.hid (And.intro hU (And.intro hT (And.intro hX hV)))
        have KC := Lib.hid (fun (W : World) (hW : Below wr.heap.size wr W) => copyview_any _ _ sh st off W (hU.below hW) (hT.below hW) (by omega) l1)
        have KM := Lib.hid (fun (n : Int) (W : World) (hW : Below wr.heap.size wr W) => rmayview_any _ _ sh st off n W (hU.below hW) (hT.below hW) (by omega) (by omega))
        have M6 := Lib.hid m6
        clear lg hU hT hD hX hV hP hR m6
        go_upto_if 43 with (first
          | (go_at_call 7; (with_reducible refine (LG.out _ (K0.out _)).mono ?_); rintro e w2 ⟨rfl, hb2⟩; have B2 := (K0.out _).trans (hb2.mono (by simp)); replace K4 := Lib.hid (K4.out.below hb2 (by simp)); obtain ⟨x0, x1, x2, x3, x4, x5, x6, x7, x8, x9, x10⟩ := blk11 K4.out; have z4 := K4.out.lt; clear hb2)
          | (go_at_call 8; (with_reducible refine (KC.out _ B2).mono ?_); rintro e w3 ⟨v1, v2, rfl, hv1, hv2, hb3⟩; have B3 := B2.trans (hb3.mono B2.size); replace K4 := Lib.hid (K4.out.below hb3 z4); obtain ⟨x0, x1, x2, x3, x4, x5, x6, x7, x8, x9, x10⟩ := blk11 K4.out; have z5 := Nat.lt_of_lt_of_le z4 hb3.size; have HV := Lib.hid (And.intro hv1 hv2); have K3 := K4; obtain ⟨o1, n1, rfl, _, _⟩ := hv1; obtain ⟨o2, n2, rfl, _, _⟩ := hv2; clear hb3)
          | (go_at_call 9; (with_reducible refine (KM.out _ _ (B3.alloc B3.size _)).mono ?_); rintro e w4 ⟨rfl, hb4⟩; have B4 := (Below.refl w3.heap.size w3).alloc (Nat.le_refl _) (.cells #[.slice o1 sh.length n1, .slice o2 st.length n2, .int .i64 off] 25) |>.trans (hb4.mono (by simp)); have K5 := Lib.hid ((Blk.new w3 25 #[.slice o1 sh.length n1, .slice o2 st.length n2, .int .i64 off]).below hb4 (by simp)); replace K4 := Lib.hid (K4.out.below B4 z5); obtain ⟨x0, x1, x2, x3, x4, x5, x6, x7, x8, x9, x10⟩ := blk11 K4.out; clear hb4))
        obtain ⟨F, hF⟩ : ∃ F, F = frm (vwb sh st off 65536) := ⟨_, rfl⟩
        have HF := Lib.hid hF
        clear hF
        have FW := Lib.hid (fun (W : World) (hW : Below w3.heap.size w3 W) => And.intro (B3.trans (hW.mono B3.size)) (K3.out.below hW z5))
        have FS := Lib.hid (Fr.start (p := ⟨sh, st, ax, s, off, A, B, C⟩) B4 K5.out)
        have k5l := K5.out.lt
        clear B4 K4 K5 K3 K0 LG KC B2
        go_cut [6] (fun s6 wx => s6 = .int .i64 F ∧ w4 = wx)
        case first => as_aux_lemma =>
          cases hv : vwb sh st off 65536 with
          | false => go_wp2; go_meet; exact ⟨by rw [HF.out, hv]; rfl, rfl⟩
          | true => go_wp2; go_meet; exact ⟨by rw [HF.out, hv]; rfl, rfl⟩
        case rest => as_aux_lemma =>
          obtain ⟨rfl, rfl⟩ := hcut
          obtain ⟨e1, he1⟩ : ∃ e, e = tre sh st off ax := ⟨_, rfl⟩
          obtain ⟨e2, he2⟩ : ∃ e, e = sle sh st off A B C := ⟨_, rfl⟩
          have E1 := Lib.hid he1
          have E2 := Lib.hid he2
          clear he1 he2
          go_upto_if 49 with fail
          go_cut [7, 8] (fun s7 s8 wx => s7 = .int .i64 e1 ∧ s8 = .int .i64 e2 ∧ Hid (Fr ⟨sh, st, ax, s, off, A, B, C⟩ w3 w4.heap.size (.slice o1 sh.length n1) (.slice o2 st.length n2) e1 e2 1 1 1 wx))
          case first => as_aux_lemma =>
            cases hv : vwb sh st off 65536 with
            | false =>
              obtain rfl : F = 1 := by rw [HF.out, hv]; rfl
              have q1 : e1 = 1 := by rw [E1.out, tre_f hv]
              have q2 : e2 = 1 := by rw [E2.out, sle_f hv]
              subst q1 q2
              go_wp2
              go_meet
              exact ⟨rfl, rfl, FS⟩
            | true =>
              obtain rfl : F = 0 := by rw [HF.out, hv]; rfl
              have Q1 : Hid (e1 = if axs ax sh.length then 0 else 2) := by rw [Hid, E1.out, tre_t hv]
              have Q2 : Hid (e2 = if slb sh A B C then 0 else 2) := by rw [Hid, E2.out, sle_t hv]
              have KA := Lib.hid (fun (W : World) (hW : Below wr.heap.size wr W) => raxes_any _ ax sh.length W (HL.out.2.2.1.below hW) (by omega) (by omega))
              have hVw := vwb_iff.1 hv
              have lsh := may_len hVw.1
              have KT := Lib.hid (fun (hax : axs ax sh.length = true) (W : World) (hW : Below wr.heap.size wr W) => rtranspose_any _ _ _ sh st ax off W (HL.out.1.below hW) (HL.out.2.1.below hW) (HL.out.2.2.1.below hW) hVw.2.1 lsh hax)
              have KS := Lib.hid (fun (hsl : slb sh A B C = true) (W : World) (hW : Below wr.heap.size wr W) => rslice_any _ _ sh st off A B C W (HL.out.1.below hW) (HL.out.2.1.below hW) hv hsl)
              have BW := Lib.hid ((FW.out _ FS.out.below).1)
              obtain ⟨y0, y1, y2, y3, y4, y5, y6, y7, y8, y9, y10⟩ := blk11 (FW.out _ FS.out.below).2
              clear hv hVw
              go_upto_if 56 with (go_at_call 10; (with_reducible refine (KA.out _ BW.out).mono ?_); rintro e w' ⟨rfl, rfl⟩)
              go_cut [7] (fun s7 wx => s7 = .int .i64 e1 ∧ Hid (Fr ⟨sh, st, ax, s, off, A, B, C⟩ w3 w4.heap.size (.slice o1 sh.length n1) (.slice o2 st.length n2) e1 1 1 1 1 wx))
              case first => as_aux_lemma =>
                cases hax : axs ax sh.length with
                | false =>
                  obtain rfl : e1 = 2 := by rw [Q1.out, hax]; rfl
                  go_wp2
                  go_meet
                  exact ⟨rfl, Lib.hid (FS.out.mono (fun h => absurd h (by decide)) (fun h => h) (fun h => h) (fun h => h) (fun h => h))⟩
                | true =>
                  obtain rfl : e1 = 0 := by rw [Q1.out, hax]; rfl
                  go_wp2_with (go_at_call 11; (with_reducible refine (KT.out hax _ BW.out).mono ?_); rintro e w6 ⟨os, cs, ot, ct, rfl, ho, hb6⟩; have F6 := Lib.hid (FS.out.next hb6); have O6 := Lib.hid (ho.base (base' := w4.heap.size) (by simp; omega)); obtain ⟨xa, xb, xc, hx6, _⟩ := F6.out.2.2.1; obtain ⟨i0, i1, i2, i3, i4, i5⟩ := blk3 hx6; clear ho hb6)
                  go_meet
                  exact ⟨rfl, Lib.hid (F6.out.put1 _ O6.out)⟩
              case rest => as_aux_lemma =>
                obtain ⟨rfl, FR1⟩ := hcut
                obtain ⟨y0, y1, y2, y3, y4, y5, y6, y7, y8, y9, y10⟩ := blk11 (FW.out _ FR1.out.below).2
                have BW1 := Lib.hid ((FW.out _ FR1.out.below).1)
                go_upto_region 19 with fail
                go_cut [97] (fun s97 wx => s97 = .bool (slb sh A B C) ∧ ∃ nq, wc.drewN nq = wx)
                case first => as_aux_lemma =>
                  by_cases q1 : 0 ≤ A
                  · have b1 : decide (0 ≤ A) = true := decide_eq_true q1
                    by_cases q2 : A < sh.length
                    · have b2 : decide (A < (sh.length : Int)) = true := decide_eq_true q2
                      by_cases q3 : 0 ≤ B
                      · have b3 : decide (0 ≤ B) = true := decide_eq_true q3
                        by_cases q4 : B < C
                        · have b4 : decide (B < C) = true := decide_eq_true q4
                          obtain ⟨oz, cz, ez, _, hz⟩ := HL.out.1
                          simp only [Value.slice.injEq] at ez
                          obtain ⟨rfl, _, rfl⟩ := ez
                          obtain ⟨a, rfl⟩ : ∃ a : Nat, A = (a : Int) := ⟨A.toNat, by omega⟩
                          have alt : a < sh.length := by omega
                          obtain ⟨bu, fu, rfl, hbu, hcu⟩ := hz a alt
                          have hcw := (BW1.out.cell (p := ⟨bu, fu + a, none⟩) hbu).trans hcu
                          have RD : Hid (slb sh (a : Int) B C = decide (C ≤ sh.getD a 0)) := by unfold slb; rw [b1, b2, b3, b4]; exact Lib.hid (by simp)
                          generalize sh.getD a 0 = d at *
                          by_cases q5 : C ≤ d
                          · have b5 : decide (C ≤ d) = true := decide_eq_true q5
                            have RS : Hid (slb sh (a : Int) B C = true) := by rw [Hid, RD.out]; exact b5
                            clear FS FR1 KT KS KA HL FW
                            go_big_quiet_o (fail)
                            go_wp2
                            go_meet
                            exact ⟨by rw [RS.out], _, rfl⟩
                          · have b5 : decide (C ≤ d) = false := decide_eq_false q5
                            have RS : Hid (slb sh (a : Int) B C = false) := by rw [Hid, RD.out]; exact b5
                            clear FS FR1 KT KS KA HL FW
                            go_big_quiet_o (fail)
                            go_wp2
                            go_meet
                            exact ⟨by rw [RS.out], _, rfl⟩
                        · have b4 : decide (B < C) = false := decide_eq_false q4
                          have RS : Hid (slb sh A B C = false) := by unfold slb; rw [b1, b2, b3, b4]; exact Lib.hid (by simp)
                          clear FS FR1 KT KS KA HL FW
                          go_big_quiet_o (fail)
                          go_wp2
                          go_meet
                          exact ⟨by rw [RS.out], _, rfl⟩
                      · have b3 : decide (0 ≤ B) = false := decide_eq_false q3
                        have RS : Hid (slb sh A B C = false) := by unfold slb; rw [b1, b2, b3]; exact Lib.hid (by simp)
                        clear FS FR1 KT KS KA HL FW
                        go_big_quiet_o (fail)
                        go_wp2
                        go_meet
                        exact ⟨by rw [RS.out], _, rfl⟩
                    · have b2 : decide (A < (sh.length : Int)) = false := decide_eq_false q2
                      have RS : Hid (slb sh A B C = false) := by unfold slb; rw [b1, b2]; exact Lib.hid (by simp)
                      clear FS FR1 KT KS KA HL FW
                      go_big_quiet_o (fail)
                      go_wp2
                      go_meet
                      exact ⟨by rw [RS.out], _, rfl⟩
                  · have b1 : decide (0 ≤ A) = false := decide_eq_false q1
                    have RS : Hid (slb sh A B C = false) := by unfold slb; rw [b1]; exact Lib.hid (by simp)
                    clear FS FR1 KT KS KA HL FW
                    go_big_quiet_o (fail)
                    go_wp2
                    go_meet
                    exact ⟨by rw [RS.out], _, rfl⟩
                case rest => as_aux_lemma =>
                  obtain ⟨rfl, nq, rfl⟩ := hcut
                  have FR2 := Lib.hid (FR1.out.next (below_drw (Below.refl _ _) nq))
                  have BW2 := Lib.hid ((FW.out _ FR2.out.below).1)
                  obtain ⟨z0, z1, z2, z3, z4, z5, z6, z7, z8, z9, z10⟩ := blk11 (FW.out _ FR2.out.below).2
                  clear y0 y1 y2 y3 y4 y5 y6 y7 y8 y9 y10 FR1 BW1
                  cases hsl : slb sh A B C with
                  | false =>
                    obtain rfl : e2 = 2 := by rw [Q2.out, hsl]; rfl
                    go_wp2
                    go_meet
                    exact ⟨rfl, rfl, Lib.hid (FR2.out.mono (fun h => h) (fun h => absurd h (by decide)) (fun h => h) (fun h => h) (fun h => h))⟩
                  | true =>
                    obtain rfl : e2 = 0 := by rw [Q2.out, hsl]; rfl
                    go_wp2_with (go_at_call 12; (with_reducible refine (KS.out hsl _ BW2.out).mono ?_); rintro e w6 ⟨os, cs, ot, ct, rfl, ho, hb6⟩; have F6 := Lib.hid (FR2.out.next hb6); have O6 := Lib.hid (ho.base (base' := w4.heap.size) (by have := FR2.out.2.2.2.2.2.2.2.1; omega)); obtain ⟨xa, xb, xc, hx6, _⟩ := F6.out.2.2.2.1; obtain ⟨i0, i1, i2, i3, i4, i5⟩ := blk3 hx6; clear ho hb6)
                    go_meet
                    exact ⟨rfl, rfl, Lib.hid (F6.out.put2 _ O6.out)⟩
          case rest => as_aux_lemma =>
            obtain ⟨rfl, rfl, FA⟩ := hcut
            have FK := Lib.hid (fun (W : World) (e1 e2 e3 e4 e5 : Int) (h : Fr ⟨sh, st, ax, s, off, A, B, C⟩ w3 w4.heap.size (.slice o1 sh.length n1) (.slice o2 st.length n2) e1 e2 e3 e4 e5 W) => FW.out _ h.below)
            obtain ⟨e3, he3⟩ : ∃ e, e = wie sh st off s := ⟨_, rfl⟩
            obtain ⟨e4, he4⟩ : ∃ e, e = ree sh st off s := ⟨_, rfl⟩
            obtain ⟨e5, he5⟩ : ∃ e, e = ofe s := ⟨_, rfl⟩
            obtain ⟨G, hG⟩ : ∃ e, e = frm (vwb sh st off 65536 && may s) := ⟨_, rfl⟩
            have E3 := Lib.hid he3
            have E4 := Lib.hid he4
            have E5 := Lib.hid he5
            have HG := Lib.hid hG
            have KMy := Lib.hid (fun (W : World) (hW : Below wr.heap.size wr W) => rmay_any _ s W (HL.out.2.2.2.below hW) (by omega))
            have KO := Lib.hid (fun (hms : may s = true) (W : World) (hW : Below wr.heap.size wr W) => rof_any _ s W (HL.out.2.2.2.below hW) hms)
            clear he3 he4 he5 hG FS
            obtain ⟨y0, y1, y2, y3, y4, y5, y6, y7, y8, y9, y10⟩ := blk11 (FK.out _ _ _ _ _ _ FA.out).2
            have BWA := Lib.hid (FK.out _ _ _ _ _ _ FA.out).1
            go_upto_if 110 with (go_at_call 13; (with_reducible refine (KMy.out _ BWA.out).mono ?_); rintro e w' ⟨rfl, rfl⟩)
            go_cut [9, 10, 11] (fun s9 s10 s11 wx => s9 = .int .i64 G ∧ s10 = .int .i64 G ∧ s11 = .int .i64 e5 ∧ Hid (Fr ⟨sh, st, ax, s, off, A, B, C⟩ w3 w4.heap.size (.slice o1 sh.length n1) (.slice o2 st.length n2) e1 e2 1 1 e5 wx))
            case first => as_aux_lemma =>
              cases hms : may s with
              | false =>
                obtain rfl : G = 1 := by rw [HG.out, hms, Bool.and_false]; rfl
                obtain rfl : e5 = 1 := by rw [E5.out]; unfold ofe; rw [hms]; rfl
                go_wp2
                go_meet
                exact ⟨rfl, rfl, rfl, FA⟩
              | true =>
                obtain rfl : e5 = 0 := by rw [E5.out]; unfold ofe; rw [hms]; rfl
                obtain rfl : G = F := by rw [HG.out, hms, Bool.and_true, HF.out]
                go_wp2_with (go_at_call 14; (with_reducible refine (KO.out hms _ BWA.out).mono ?_); rintro e w6 ⟨os, cs, ot, ct, rfl, ho, hb6⟩; have F6 := Lib.hid (FA.out.next hb6); have O6 := Lib.hid (ho.base (base' := w4.heap.size) (by have := FA.out.2.2.2.2.2.2.2.1; omega)); obtain ⟨xa, xb, xc, hx6, _⟩ := F6.out.2.2.2.2.2.2.1; obtain ⟨i0, i1, i2, i3, i4, i5⟩ := blk3 hx6; clear ho hb6)
                go_meet
                exact ⟨rfl, rfl, rfl, Lib.hid (F6.out.put5 _ O6.out)⟩
            case rest => as_aux_lemma =>
              obtain ⟨rfl, rfl, rfl, FB⟩ := hcut
              clear y0 y1 y2 y3 y4 y5 y6 y7 y8 y9 y10 BWA FA
              obtain ⟨y0, y1, y2, y3, y4, y5, y6, y7, y8, y9, y10⟩ := blk11 (FK.out _ _ _ _ _ _ FB.out).2
              have BWB := Lib.hid (FK.out _ _ _ _ _ _ FB.out).1
              go_upto_if 115 with fail
              go_cut [9, 10] (fun s9 s10 wx => s9 = .int .i64 e3 ∧ s10 = .int .i64 e4 ∧ Hid (Fr ⟨sh, st, ax, s, off, A, B, C⟩ w3 w4.heap.size (.slice o1 sh.length n1) (.slice o2 st.length n2) e1 e2 e3 e4 e5 wx))
              case first => as_aux_lemma =>
                cases hvm : (vwb sh st off 65536 && may s) with
                | false =>
                  obtain rfl : G = 1 := by rw [HG.out, hvm]; rfl
                  obtain rfl : e3 = 1 := by rw [E3.out]; unfold wie; rw [hvm]; rfl
                  obtain rfl : e4 = 1 := by rw [E4.out]; unfold ree; rw [hvm]; rfl
                  go_wp2
                  go_meet
                  exact ⟨rfl, rfl, FB⟩
                | true =>
                  obtain rfl : G = 0 := by rw [HG.out, hvm]; rfl
                  have Q3 : Hid (e3 = if goes sh s then 0 else 2) := by rw [Hid, E3.out]; unfold wie; rw [hvm]; rfl
                  have Q4 : Hid (e4 = if decide (prod sh = prod s) && pln sh st off then 0 else 2) := by rw [Hid, E4.out]; unfold ree; rw [hvm]; rfl
                  simp only [Bool.and_eq_true] at hvm
                  obtain ⟨hv, hms⟩ := hvm
                  have hVw := vwb_iff.1 hv
                  have hmh := hVw.1
                  have KG := Lib.hid (fun (W : World) (hW : Below wr.heap.size wr W) => rgoes_any _ _ sh s W (HL.out.1.below hW) (HL.out.2.2.2.below hW) hmh hms)
                  have KW := Lib.hid (fun (hg : goes sh s = true) (W : World) (hW : Below wr.heap.size wr W) => rwiden_any _ _ _ sh st s off W (HL.out.1.below hW) (HL.out.2.1.below hW) (HL.out.2.2.2.below hW) hVw.2.1 (may_len hmh) (may_len hms) (goes_len hmh hms hg))
                  have KN1 := Lib.hid (fun (W : World) (hW : Below wr.heap.size wr W) => (rct_may hms ▸ rcount_any _ s W (HL.out.2.2.2.below hW) (may_dms hms) (by omega) : Calls Try.prog 17 #[.slice oV s.length cV] W fun e w' => e = .returned (.int .i64 (prod s)) ∧ W = w'))
                  have KN2 := Lib.hid (fun (W : World) (hW : Below wr.heap.size wr W) => (rct_may hmh ▸ rcount_any _ sh W (HL.out.1.below hW) (may_dms hmh) (by omega) : Calls Try.prog 17 #[.slice oU sh.length cU] W fun e w' => e = .returned (.int .i64 (prod sh)) ∧ W = w'))
                  have KP := Lib.hid (fun (W : World) (hW : Below wr.heap.size wr W) => rplain_any _ _ sh st off W (HL.out.1.below hW) (HL.out.2.1.below hW) hmh (by omega))
                  have KO2 := Lib.hid (fun (W : World) (hW : Below wr.heap.size wr W) => rof_any _ s W (HL.out.2.2.2.below hW) hms)
                  clear hv hVw hmh hms
                  go_upto_if 121 with (go_at_call 15; (with_reducible refine (KG.out _ BWB.out).mono ?_); rintro e w5 ⟨rfl, hb5⟩; have FG := Lib.hid (FB.out.next hb5); have BWG := Lib.hid (FK.out _ _ _ _ _ _ FG.out).1; clear hb5)
                  go_cut [9] (fun s9 wx => s9 = .int .i64 e3 ∧ Hid (Fr ⟨sh, st, ax, s, off, A, B, C⟩ w3 w4.heap.size (.slice o1 sh.length n1) (.slice o2 st.length n2) e1 e2 e3 1 e5 wx))
                  case first => as_aux_lemma =>
                    obtain ⟨z0, z1, z2, z3, z4, z5, z6, z7, z8, z9, z10⟩ := blk11 (FK.out _ _ _ _ _ _ FG.out).2
                    cases hg : goes sh s with
                    | false =>
                      obtain rfl : e3 = 2 := by rw [Q3.out, hg]; rfl
                      go_wp2
                      go_meet
                      exact ⟨rfl, Lib.hid (FG.out.mono (fun h => h) (fun h => h) (fun h => absurd h (by decide)) (fun h => h) (fun h => h))⟩
                    | true =>
                      obtain rfl : e3 = 0 := by rw [Q3.out, hg]; rfl
                      go_wp2_with (go_at_call 16; (with_reducible refine (KW.out hg _ BWG.out).mono ?_); rintro e w6 ⟨os, cs, ot, ct, rfl, ho, hb6⟩; have F6 := Lib.hid (FG.out.next hb6); have O6 := Lib.hid (ho.base (base' := w4.heap.size) (by have := FG.out.2.2.2.2.2.2.2.1; omega)); obtain ⟨xa, xb, xc, hx6, _⟩ := F6.out.2.2.2.2.1; obtain ⟨i0, i1, i2, i3, i4, i5⟩ := blk3 hx6; clear ho hb6)
                      go_meet
                      exact ⟨rfl, Lib.hid (F6.out.put3 _ O6.out)⟩
                  case rest => as_aux_lemma =>
                    obtain ⟨rfl, FC⟩ := hcut
                    clear y0 y1 y2 y3 y4 y5 y6 y7 y8 y9 y10 BWB FB FG BWG
                    obtain ⟨y0, y1, y2, y3, y4, y5, y6, y7, y8, y9, y10⟩ := blk11 (FK.out _ _ _ _ _ _ FC.out).2
                    have BWC := Lib.hid (FK.out _ _ _ _ _ _ FC.out).1
                    go_upto_region 33 with fail
                    go_cut [139] (fun s139 wx => s139 = .bool (decide (prod sh = prod s) && pln sh st off) ∧ Hid (Fr ⟨sh, st, ax, s, off, A, B, C⟩ w3 w4.heap.size (.slice o1 sh.length n1) (.slice o2 st.length n2) e1 e2 e3 1 e5 wx))
                    case first => as_aux_lemma =>
                      by_cases hq : prod sh = prod s
                      · rw [hq] at KN2
                        have b1 : (prod s == prod s) = true := by simp
                        have RS : Hid ((decide (prod sh = prod s) && pln sh st off) = pln sh st off) := by rw [decide_eq_true hq]; exact Lib.hid (Bool.true_and _)
                        clear hq
                        have BWd : Hid (Below wr.heap.size wr wc.drew) := below_drw BWC.out 1
                        have FCd : Hid (Fr ⟨sh, st, ax, s, off, A, B, C⟩ w3 w4.heap.size (.slice o1 sh.length n1) (.slice o2 st.length n2) e1 e2 e3 1 e5 wc.drew) := FC.out.next (below_drw (Below.refl _ _) 1)
                        obtain ⟨z0, z1, z2, z3, z4, z5, z6, z7, z8, z9, z10⟩ := blk11 (FK.out _ _ _ _ _ _ FCd.out).2
                        go_region_held3 (fun W => W.cell? ⟨wr.heap.size, 0, none⟩ = some (.slice oU sh.length cU) ∧ W.cell? ⟨wr.heap.size, 1, none⟩ = some (.slice oT st.length cT) ∧ W.cell? ⟨wr.heap.size, 2, none⟩ = some (.int .i64 off) ∧ W.cell? ⟨wr.heap.size, 5, none⟩ = some (.slice oV s.length cV)) (first | exact ⟨z0, z1, z2, z5⟩ | exact ⟨g0, g1, g2, g5⟩ | go_keep)
                          (first
                            | (go_at_call 17; (with_reducible refine (KN1.out _ BWd.out).mono ?_); rintro e w' ⟨rfl, rfl⟩)
                            | (go_at_call 17; (with_reducible refine (KN2.out _ BWd.out).mono ?_); rintro e w' ⟨rfl, rfl⟩)
                            | (go_at_call 18; (with_reducible refine (KP.out _ BWd.out).mono ?_); rintro e w6 ⟨rfl, hb6⟩; have F6 := Lib.hid (FCd.out.next hb6); obtain ⟨g0, g1, g2, _, _, g5, _⟩ := blk11 (FK.out _ _ _ _ _ _ F6.out).2))
                        all_goals
                          go_wp2
                          go_meet
                          exact ⟨by rw [RS.out], F6⟩
                      · have b1 : (prod s == prod sh) = false := by rw [beq_eq_false_iff_ne]; exact fun h => hq h.symm
                        have b2 : decide (prod s = prod sh) = false := decide_eq_false (fun h => hq h.symm)
                        have RS : Hid ((decide (prod sh = prod s) && pln sh st off) = false) := by rw [decide_eq_false hq]; exact Lib.hid rfl
                        clear hq
                        have BWd : Hid (Below wr.heap.size wr wc.drew) := below_drw BWC.out 1
                        have FCd : Hid (Fr ⟨sh, st, ax, s, off, A, B, C⟩ w3 w4.heap.size (.slice o1 sh.length n1) (.slice o2 st.length n2) e1 e2 e3 1 e5 wc.drew) := FC.out.next (below_drw (Below.refl _ _) 1)
                        obtain ⟨z0, _, _, _, _, z5, _⟩ := blk11 (FK.out _ _ _ _ _ _ FCd.out).2
                        refine wp_region_held_drew (S := (fun W => W.cell? ⟨wr.heap.size, 0, none⟩ = some (.slice oU sh.length cU) ∧ W.cell? ⟨wr.heap.size, 5, none⟩ = some (.slice oV s.length cV))) (by kernel_rfl) ?_ (fun hHeld => ?_)
                        · exact ⟨z0, z5⟩
                        have hHd := hHeld
                        (refine wpAnyH_take (i := 0) (oi := ⟨some 127, _, _, _, _, _⟩) (v := ?v0) rfl (by kernel_rfl) (by kernel_rfl) (by kernel_rfl) (fun _ _ _ h => h) (Or.inl ⟨by rfl, ?hy0⟩) (by assumption) ?rest0; (case hy0 => ((intro w hSw); (try dsimp only at hSw); go_simp; first | done | (with_reducible rfl) | (rw [b1]))))
                        (try simp only [Act.put, List.setIfInBounds_toArray, List.set_cons_zero, List.set_cons_succ])
                        (refine wpAnyH_take (i := 1) (oi := ⟨some 128, _, _, _, _, _⟩) (v := ?v1) rfl (by kernel_rfl) (by kernel_rfl) (by kernel_rfl) (fun _ _ _ h => h) (Or.inl ⟨by rfl, ?hy1⟩) (by assumption) ?rest1; (case hy1 => ((intro w hSw); (try dsimp only at hSw); go_simp; first | done | (with_reducible rfl) | (rw [b1]))))
                        (try simp only [Act.put, List.setIfInBounds_toArray, List.set_cons_zero, List.set_cons_succ])
                        (refine wpAnyH_take (i := 3) (oi := ⟨some 130, _, _, _, _, _⟩) (v := ?v3) rfl (by kernel_rfl) (by kernel_rfl) (by kernel_rfl) (fun _ _ _ h => h) (Or.inl ⟨by rfl, ?hy3⟩) (by assumption) ?rest3; (case hy3 => ((intro w hSw); (try dsimp only at hSw); go_simp; first | done | (with_reducible rfl) | (rw [b1]))))
                        (try simp only [Act.put, List.setIfInBounds_toArray, List.set_cons_zero, List.set_cons_succ])
                        (refine wpAnyH_take (i := 4) (oi := ⟨some 131, _, _, _, _, _⟩) (v := ?v4) rfl (by kernel_rfl) (by kernel_rfl) (by kernel_rfl) (fun _ _ _ h => h) (Or.inl ⟨by rfl, ?hy4⟩) (by assumption) ?rest4; (case hy4 => ((intro w hSw); (try dsimp only at hSw); go_simp; first | done | (with_reducible rfl) | (rw [b1]))))
                        (try simp only [Act.put, List.setIfInBounds_toArray, List.set_cons_zero, List.set_cons_succ])
                        (refine wpAnyH_take (i := 5) (oi := ⟨some 132, _, _, _, _, _⟩) (v := ?v5) rfl (by kernel_rfl) (by kernel_rfl) (by kernel_rfl) (fun _ _ _ h => h) (Or.inl ⟨by rfl, ?hy5⟩) (by assumption) ?rest5; (case hy5 => ((intro w hSw); (try dsimp only at hSw); go_simp; first | done | (with_reducible rfl) | (rw [b1]))))
                        (try simp only [Act.put, List.setIfInBounds_toArray, List.set_cons_zero, List.set_cons_succ])
                        refine wpAnyH_ready (rs := [2]) (by kernel_rfl) (by simp) ?_
                        refine AllReadyH.cons (o := ⟨some 129, _, _, _, _, _⟩) rfl (fun K hK => ?_) AllReadyH.nil
                        go_simp
                        (go_at_call 17; (with_reducible refine (KN1.out _ BWd.out).mono ?_); rintro e w' ⟨rfl, rfl⟩)
                        refine hK.out _ _ ?_ (fun hHeld => ?_)
                        · (try dsimp only)
                          assumption
                        clear hK K
                        (try simp only [Act.put, List.setIfInBounds_toArray, List.set_cons_zero, List.set_cons_succ])
                        refine wpAnyH_ready (rs := [6]) (by kernel_rfl) (by simp) ?_
                        refine AllReadyH.cons (o := ⟨some 133, _, _, _, _, _⟩) rfl (fun K hK => ?_) AllReadyH.nil
                        go_simp
                        (go_at_call 17; (with_reducible refine (KN2.out _ BWd.out).mono ?_); rintro e w' ⟨rfl, rfl⟩)
                        refine hK.out _ _ ?_ (fun hHeld => ?_)
                        · (try dsimp only)
                          assumption
                        clear hK K
                        (try simp only [Act.put, List.setIfInBounds_toArray, List.set_cons_zero, List.set_cons_succ])
                        (refine wpAnyH_take (i := 7) (oi := ⟨some 134, _, _, _, _, _⟩) (v := .bool false) rfl (by kernel_rfl) (by kernel_rfl) (by kernel_rfl) (fun _ _ _ h => h) (Or.inl ⟨by rfl, ?hy7⟩) (by assumption) ?rest7; (case hy7 => ((intro w hSw); (try dsimp only at hSw); go_simp; first | done | (with_reducible rfl) | (rw [b1]))))
                        (try simp only [Act.put, List.setIfInBounds_toArray, List.set_cons_zero, List.set_cons_succ])
                        (refine wpAnyH_take (i := 8) (oi := ⟨some 135, _, _, _, _, _⟩) (v := .bool false) rfl (by kernel_rfl) (by kernel_rfl) (by kernel_rfl) (fun _ _ _ h => h) (Or.inl ⟨by rfl, ?hy8⟩) (by assumption) ?rest8; (case hy8 => ((intro w hSw); (try dsimp only at hSw); go_simp; first | done | (with_reducible rfl) | (rw [b1]))))
                        (try simp only [Act.put, List.setIfInBounds_toArray, List.set_cons_zero, List.set_cons_succ])
                        (refine wpAnyH_take (i := 9) (oi := ⟨some 136, _, _, _, _, _⟩) (v := _) rfl (by kernel_rfl) (by kernel_rfl) (by kernel_rfl) (fun _ _ _ h => h) (Or.inr ⟨by rfl, rfl⟩) (by assumption) ?_)
                        (try simp only [Act.put, List.setIfInBounds_toArray, List.set_cons_zero, List.set_cons_succ])
                        (refine wpAnyH_take (i := 10) (oi := ⟨some 137, _, _, _, _, _⟩) (v := _) rfl (by kernel_rfl) (by kernel_rfl) (by kernel_rfl) (fun _ _ _ h => h) (Or.inr ⟨by rfl, rfl⟩) (by assumption) ?_)
                        (try simp only [Act.put, List.setIfInBounds_toArray, List.set_cons_zero, List.set_cons_succ])
                        (refine wpAnyH_take (i := 11) (oi := ⟨some 138, _, _, _, _, _⟩) (v := _) rfl (by kernel_rfl) (by kernel_rfl) (by kernel_rfl) (fun _ _ _ h => h) (Or.inr ⟨by rfl, rfl⟩) (by assumption) ?_)
                        (try simp only [Act.put, List.setIfInBounds_toArray, List.set_cons_zero, List.set_cons_succ])
                        (refine wpAnyH_take (i := 12) (oi := ⟨some 139, _, _, _, _, _⟩) (v := ?v12) rfl (by kernel_rfl) (by kernel_rfl) (by kernel_rfl) (fun _ _ _ h => h) (Or.inl ⟨by rfl, ?hy12⟩) (by assumption) ?rest12; (case hy12 => ((intro w hSw); (try dsimp only at hSw); go_simp; first | done | (with_reducible rfl) | (rw [b1]))))
                        (try simp only [Act.put, List.setIfInBounds_toArray, List.set_cons_zero, List.set_cons_succ])
                        refine wpAnyH_done (by kernel_rfl) ?_ _
                        go_wp2
                        go_meet
                        exact ⟨by rw [RS.out], FCd⟩
                    case rest => as_aux_lemma =>
                      obtain ⟨rfl, FD⟩ := hcut
                      clear y0 y1 y2 y3 y4 y5 y6 y7 y8 y9 y10 BWC FC
                      obtain ⟨y0, y1, y2, y3, y4, y5, y6, y7, y8, y9, y10⟩ := blk11 (FK.out _ _ _ _ _ _ FD.out).2
                      have BWD := Lib.hid (FK.out _ _ _ _ _ _ FD.out).1
                      cases hpp : (decide (prod sh = prod s) && pln sh st off) with
                      | false =>
                        obtain rfl : e4 = 2 := by rw [Q4.out, hpp]; rfl
                        go_wp2
                        go_meet
                        exact ⟨rfl, rfl, Lib.hid (FD.out.mono (fun h => h) (fun h => h) (fun h => h) (fun h => absurd h (by decide)) (fun h => h))⟩
                      | true =>
                        obtain rfl : e4 = 0 := by rw [Q4.out, hpp]; rfl
                        go_wp2_with (go_at_call 14; (with_reducible refine (KO2.out _ BWD.out).mono ?_); rintro e w6 ⟨os, cs, ot, ct, rfl, ho, hb6⟩; have F6 := Lib.hid (FD.out.next hb6); have O6 := Lib.hid (ho.base (base' := w4.heap.size) (by have := FD.out.2.2.2.2.2.2.2.1; omega)); obtain ⟨xa, xb, xc, hx6, _⟩ := F6.out.2.2.2.2.2.1; obtain ⟨i0, i1, i2, i3, i4, i5⟩ := blk3 hx6; clear ho hb6)
                        go_meet
                        exact ⟨rfl, rfl, Lib.hid (F6.out.put4 _ O6.out)⟩
              case rest => as_aux_lemma =>
                obtain ⟨rfl, rfl, FE⟩ := hcut
                clear y0 y1 y2 y3 y4 y5 y6 y7 y8 y9 y10 BWB FB
                obtain ⟨wq, hwq⟩ : ∃ wq, wq = wc := ⟨wc, rfl⟩
                subst hwq
                obtain ⟨hb0, hk5, ⟨p1, q1, r1, hx1, hu1⟩, ⟨p2, q2, r2, hx2, hu2⟩, ⟨p3, q3, r3, hx3, hu3⟩, ⟨p4, q4, r4, hx4, hu4⟩, ⟨p5, q5, r5, hx5, hu5⟩, hsz5, _⟩ := FE.out
                have hk4 := (FW.out _ hb0).2
                have BWE := (FW.out _ hb0).1
                have hv1 := HV.out.1.below hb0
                have hv2 := HV.out.2.below hb0
                have hU := HL.out.1.below BWE
                have hTT := HL.out.2.1.below BWE
                have hX := HL.out.2.2.1.below BWE
                have hV := HL.out.2.2.2.below BWE
                have OA := Lib.hid (fun (W : World) (hW : Below wq.heap.size wq W) => blk11 (hk4.below hW hk4.lt))
                have OV := Lib.hid (fun (W : World) (hW : Below wq.heap.size wq W) => blk3 (hk5.below hW hk5.lt))
                have OX1 := Lib.hid (fun (W : World) (hW : Below wq.heap.size wq W) => blk3 (hx1.below hW hx1.lt))
                have OX2 := Lib.hid (fun (W : World) (hW : Below wq.heap.size wq W) => blk3 (hx2.below hW hx2.lt))
                have OX3 := Lib.hid (fun (W : World) (hW : Below wq.heap.size wq W) => blk3 (hx3.below hW hx3.lt))
                have OX4 := Lib.hid (fun (W : World) (hW : Below wq.heap.size wq W) => blk3 (hx4.below hW hx4.lt))
                have OX5 := Lib.hid (fun (W : World) (hW : Below wq.heap.size wq W) => blk3 (hx5.below hW hx5.lt))
                have K1 : Hid (∀ W, Below wq.heap.size wq W → Calls Try.prog 19 #[.agg #[.slice o1 sh.length n1, .slice o2 st.length n2, .int .i64 off], .slice oX ax.length cX] W (SomeV W e1 (unl e1 (trl sh ax)) (unl e1 (trl st ax)) (unn e1 off))) := Lib.hid (fun W hW => by rw [E1.out]; exact transpose_any _ _ _ sh st ax off W (hv1.below hW) (hv2.below hW) (hX.below hW) (by omega) (by omega) (by omega))
                have U1 : Hid (∀ W, Below wq.heap.size wq W → e1 = 0 → Ld W p1 (trl sh ax) ∧ Ld W q1 (trl st ax) ∧ r1 = off) := Lib.hid (fun W hW he => ⟨(ov_ld (hu1 he).1).1.below hW, (ov_ld (hu1 he).1).2.below hW, (hu1 he).2⟩)
                have K2 : Hid (∀ W, Below wq.heap.size wq W → Calls Try.prog 21 #[.agg #[.slice o1 sh.length n1, .slice o2 st.length n2, .int .i64 off], .int .i64 A, .int .i64 B, .int .i64 C] W (SomeV W e2 (unl e2 (slv sh A B C)) (unl e2 (st)) (unn e2 (slo st off A B)))) := Lib.hid (fun W hW => by rw [E2.out]; exact slice_any _ _ sh st off A B C W (hv1.below hW) (hv2.below hW) (by omega) (by omega))
                have U2 : Hid (∀ W, Below wq.heap.size wq W → e2 = 0 → Ld W p2 (slv sh A B C) ∧ Ld W q2 (st) ∧ r2 = slo st off A B) := Lib.hid (fun W hW he => ⟨(ov_ld (hu2 he).1).1.below hW, (ov_ld (hu2 he).1).2.below hW, (hu2 he).2⟩)
                have K3 : Hid (∀ W, Below wq.heap.size wq W → Calls Try.prog 22 #[.agg #[.slice o1 sh.length n1, .slice o2 st.length n2, .int .i64 off], .slice oV s.length cV] W (SomeV W e3 (unl e3 (s)) (unl e3 (wst sh st s)) (unn e3 off))) := Lib.hid (fun W hW => by rw [E3.out]; exact widen_any _ _ _ sh st s off W (hv1.below hW) (hv2.below hW) (hV.below hW) (by omega) (by omega) (by omega))
                have U3 : Hid (∀ W, Below wq.heap.size wq W → e3 = 0 → Ld W p3 (s) ∧ Ld W q3 (wst sh st s) ∧ r3 = off) := Lib.hid (fun W hW he => ⟨(ov_ld (hu3 he).1).1.below hW, (ov_ld (hu3 he).1).2.below hW, (hu3 he).2⟩)
                have K4 : Hid (∀ W, Below wq.heap.size wq W → Calls Try.prog 23 #[.agg #[.slice o1 sh.length n1, .slice o2 st.length n2, .int .i64 off], .slice oV s.length cV] W (SomeV W e4 (unl e4 (s)) (unl e4 (stl s)) (0))) := Lib.hid (fun W hW => by rw [E4.out]; exact reshape_any _ _ _ sh st s off W (hv1.below hW) (hv2.below hW) (hV.below hW) (by omega) (by omega) (by omega))
                have U4 : Hid (∀ W, Below wq.heap.size wq W → e4 = 0 → Ld W p4 (s) ∧ Ld W q4 (stl s) ∧ r4 = 0) := Lib.hid (fun W hW he => ⟨(ov_ld (hu4 he).1).1.below hW, (ov_ld (hu4 he).1).2.below hW, (hu4 he).2⟩)
                have K5 : Hid (∀ W, Below wq.heap.size wq W → Calls Try.prog 24 #[.slice oV s.length cV] W (SomeV W e5 (unl e5 (s)) (unl e5 (stl s)) (0))) := Lib.hid (fun W hW => by rw [E5.out]; exact of_any _ s W (hV.below hW) (by omega))
                have U5 : Hid (∀ W, Below wq.heap.size wq W → e5 = 0 → Ld W p5 (s) ∧ Ld W q5 (stl s) ∧ r5 = 0) := Lib.hid (fun W hW he => ⟨(ov_ld (hu5 he).1).1.below hW, (ov_ld (hu5 he).1).2.below hW, (hu5 he).2⟩)
                have hul : ∀ (e : Int) (l : List Int), (e = 0 → l.length ≤ 65536) → (unl e l).length ≤ 65536 := fun e l h => by
                  by_cases h0 : e = 0
                  · rw [show unl e l = l from if_pos h0]; exact h h0
                  · rw [show unl e l = [] from if_neg h0]; simp
                have hvt : e2 = 0 → st.length ≤ 65536 := fun h => by
                  cases hvv : vwb sh st off 65536 with
                  | false => rw [E2.out, sle_f hvv] at h; exact absurd h (by decide)
                  | true => have := (vwb_iff.1 hvv).2.1; omega
                have L1 : Hid ((unl e1 (trl sh ax)).length ≤ 65536 ∧ (unl e1 (trl st ax)).length ≤ 65536) := Lib.hid ⟨hul _ _ (fun h => (by rw [trl_len]; omega)), hul _ _ (fun h => (by rw [trl_len]; omega))⟩
                have L2 : Hid ((unl e2 (slv sh A B C)).length ≤ 65536 ∧ (unl e2 (st)).length ≤ 65536) := Lib.hid ⟨hul _ _ (fun h => (by unfold slv; rw [List.length_set]; omega)), hul _ _ (fun h => (hvt h))⟩
                have L3 : Hid ((unl e3 (s)).length ≤ 65536 ∧ (unl e3 (wst sh st s)).length ≤ 65536) := Lib.hid ⟨hul _ _ (fun h => (by omega)), hul _ _ (fun h => (by unfold wst; rw [wsn_len]; omega))⟩
                have L4 : Hid ((unl e4 (s)).length ≤ 65536 ∧ (unl e4 (stl s)).length ≤ 65536) := Lib.hid ⟨hul _ _ (fun h => (by omega)), hul _ _ (fun h => (by rw [stl_len]; omega))⟩
                have L5 : Hid ((unl e5 (s)).length ≤ 65536 ∧ (unl e5 (stl s)).length ≤ 65536) := Lib.hid ⟨hul _ _ (fun h => (by omega)), hul _ _ (fun h => (by rw [stl_len]; omega))⟩
                have Z4 : Hid ((0 : Int) = unn e4 0) := by unfold unn; split <;> exact Lib.hid rfl
                have Z5 : Hid ((0 : Int) = unn e5 0) := by unfold unn; split <;> exact Lib.hid rfl
                have KE := Lib.hid (fun (W : World) (hW : Below wq.heap.size wq W) => eqview_same _ _ _ _ sh st off W (hv1.below hW) (hv2.below hW) (hU.below hW) (hTT.below hW) (by omega) (by omega))
                have KV := Lib.hid (fun (n : Int) (W : World) (hW : Below wq.heap.size wq W) => rmayview_any _ _ sh st off n W (hU.below hW) (hTT.below hW) (by omega) (by omega))
                have KH := Lib.hid (fun (n : Int) (W : World) (hW : Below wq.heap.size wq W) => vcheck_any _ _ sh st off n W (hv1.below hW) (hv2.below hW) (by omega) (by omega))
                have BWF := Lib.hid BWE
                have EB : Hid (∀ W, Below wq.heap.size wq W → Below w.heap.size w W) := Lib.hid (fun W hW => hB.trans ((BWF.out.trans (hW.mono BWF.out.size)).mono hBs))
                have SZ : Hid (w3.heap.size < wq.heap.size ∧ wr.heap.size < wq.heap.size ∧ w4.heap.size + 1 + 1 + 1 + 1 < wq.heap.size) := Lib.hid ⟨hk5.lt, hk4.lt, (by omega)⟩
                have B0 := Lib.hid (Below.refl wq.heap.size wq)
                clear hb0 hk5 hx1 hu1 hx2 hu2 hx3 hu3 hx4 hu4 hx5 hu5 hsz5 hk4 BWE hv1 hv2 hU hTT hX hV hvt hul FE FW HL HV FK hB E1 E2 E3 E4 E5 HF HG BWF
                obtain ⟨va, vb, vc, _⟩ := OV.out _ B0.out
                obtain ⟨c0, c1, c2, _, c4, c5, c6, c7, c8, _, _⟩ := OA.out _ B0.out
                go_upto_if 155 with (first
                  | (go_at_call 19; (with_reducible refine (K1.out _ B0.out).mono ?_); rintro e wa ⟨os, cs, ot, ct, rfl, ho, hbz⟩; have BA := Lib.hid (B0.out.trans (hbz.mono B0.out.size)); have OW := Lib.hid (ho.base (base' := wq.heap.size) B0.out.size); obtain ⟨ta, tb, tc, _⟩ := OX1.out _ BA.out; have M := Lib.hid (Nat.le_trans (show _ ≤ wq.heap.size from Nat.le_refl _) BA.out.size); have m1 : w4.heap.size < wa.heap.size := (by have := SZ.out; have := M.out; omega); have m6 : w3.heap.size < wa.heap.size := (by have := SZ.out; have := M.out; omega); have m7 : wr.heap.size < wa.heap.size := (by have := SZ.out; have := M.out; omega); clear ho hbz)
                  | (go_at_call 20; (with_reducible refine Go.Calls.mono (is_any wq.heap.size e1 (off) _ (trl sh ax) (trl st ax) _ _ _ _ _ _ _ _ (OW.out.alloc _) rfl (U1.out _ (BA.out.alloc BA.out.size _)) ((BA.out.alloc BA.out.size _)).size L1.out.1 L1.out.2) ?_); rintro e wb ⟨rfl, hbz, kbz⟩; have BB := Lib.hid (((BA.out.alloc BA.out.size _)).trans hbz); have Y := Lib.hid (kbz _ _ (Blk.new wa 25 _)); clear hbz kbz))
                have HX0 : Hid (wq.heap.size ≤ wa.heap.size) := BA.out.size
                go_cut [17, 18] (fun s17 s18 wx => ∃ X : Nat, s17 = .pointer (some ⟨X, 0, none⟩) ∧ s18 = .int .i64 e1 ∧ Hid (wq.heap.size ≤ X) ∧ Hid (Below wq.heap.size wq wx) ∧ ∃ x1 x2 x3, Hid (Blk wx X 25 #[x1, x2, x3]))
                case first => as_aux_lemma =>
                  go_wp2
                  go_meet
                  exact ⟨_, rfl, rfl, HX0, BB, _, _, _, Y⟩
                case rest => as_aux_lemma =>
                  obtain ⟨X, rfl, rfl, HX, B1, x1, x2, x3, HY⟩ := hcut
                  clear va vb vc c0 c1 c2 c4 c5 c6 c7 c8 ta tb tc OW BA BB Y HX0 M m1 m6 m7 B0
                  obtain ⟨m1, m2, m3, m4, m5, m6, m7⟩ : w4.heap.size < X ∧ w4.heap.size + 1 < X ∧ w4.heap.size + 1 + 1 < X ∧ w4.heap.size + 1 + 1 + 1 < X ∧ w4.heap.size + 1 + 1 + 1 + 1 < X ∧ w3.heap.size < X ∧ wr.heap.size < X := by have h1 := SZ.out; have h2 := HX.out; omega
                  obtain ⟨j0, j1, j2, j3, j4, j5⟩ := blk3 HY.out
                  obtain ⟨va, vb, vc, _⟩ := OV.out _ B1.out
                  obtain ⟨c0, c1, c2, _, c4, c5, c6, c7, c8, _, _⟩ := OA.out _ B1.out
                  go_upto_if 172 with (first
                    | (go_at_call 21; (with_reducible refine (K2.out _ B1.out).mono ?_); rintro e wa ⟨os, cs, ot, ct, rfl, ho, hbz⟩; have BA := Lib.hid (B1.out.trans (hbz.mono B1.out.size)); have OW := Lib.hid (ho.base (base' := wq.heap.size) B1.out.size); obtain ⟨ta, tb, tc, _⟩ := OX2.out _ BA.out; have XB := Lib.hid (HY.out.below hbz HY.out.lt); obtain ⟨j0, j1, j2, j3, j4, j5⟩ := blk3 XB.out; clear ho hbz)
                    | (go_at_call 20; (with_reducible refine Go.Calls.mono (is_any wq.heap.size e2 (slo st off A B) _ (slv sh A B C) (st) _ _ _ _ _ _ _ _ (OW.out.box XB.out _ _ _) rfl (U2.out _ (Below.box BA.out HX.out _ _ _)) ((Below.box BA.out HX.out _ _ _)).size L2.out.1 L2.out.2) ?_); rintro e wb ⟨rfl, hbz, kbz⟩; have BB := Lib.hid (((Below.box BA.out HX.out _ _ _)).trans hbz); have Y := Lib.hid (kbz _ _ (((XB.out.set_ 0 _).set_ 1 _).set_ 2 _)); clear hbz kbz))
                  have HX0 : Hid (wq.heap.size ≤ X) := HX
                  go_cut [17, 18] (fun s17 s18 wx => ∃ X : Nat, s17 = .pointer (some ⟨X, 0, none⟩) ∧ s18 = .int .i64 e2 ∧ Hid (wq.heap.size ≤ X) ∧ Hid (Below wq.heap.size wq wx) ∧ ∃ x1 x2 x3, Hid (Blk wx X 25 #[x1, x2, x3]))
                  case first => as_aux_lemma =>
                    go_wp2
                    go_meet
                    exact ⟨_, rfl, rfl, HX0, BB, _, _, _, Y⟩
                  case rest => as_aux_lemma =>
                    clear va vb vc c0 c1 c2 c4 c5 c6 c7 c8 ta tb tc j0 j1 j2 j3 j4 j5 XB OW BA BB Y HX0 HX HY m1 m2 m3 m4 m5 m6 m7
                    obtain ⟨X, rfl, rfl, HX, B2, x1, x2, x3, HY⟩ := hcut
                    obtain ⟨m1, m2, m3, m4, m5, m6, m7⟩ : w4.heap.size < X ∧ w4.heap.size + 1 < X ∧ w4.heap.size + 1 + 1 < X ∧ w4.heap.size + 1 + 1 + 1 < X ∧ w4.heap.size + 1 + 1 + 1 + 1 < X ∧ w3.heap.size < X ∧ wr.heap.size < X := by have h1 := SZ.out; have h2 := HX.out; omega
                    obtain ⟨j0, j1, j2, j3, j4, j5⟩ := blk3 HY.out
                    obtain ⟨va, vb, vc, _⟩ := OV.out _ B2.out
                    obtain ⟨c0, c1, c2, _, c4, c5, c6, c7, c8, _, _⟩ := OA.out _ B2.out
                    go_upto_if 185 with (first
                      | (go_at_call 22; (with_reducible refine (K3.out _ B2.out).mono ?_); rintro e wa ⟨os, cs, ot, ct, rfl, ho, hbz⟩; have BA := Lib.hid (B2.out.trans (hbz.mono B2.out.size)); have OW := Lib.hid (ho.base (base' := wq.heap.size) B2.out.size); obtain ⟨ta, tb, tc, _⟩ := OX3.out _ BA.out; have XB := Lib.hid (HY.out.below hbz HY.out.lt); obtain ⟨j0, j1, j2, j3, j4, j5⟩ := blk3 XB.out; clear ho hbz)
                      | (go_at_call 20; (with_reducible refine Go.Calls.mono (is_any wq.heap.size e3 (off) _ (s) (wst sh st s) _ _ _ _ _ _ _ _ (OW.out.box XB.out _ _ _) rfl (U3.out _ (Below.box BA.out HX.out _ _ _)) ((Below.box BA.out HX.out _ _ _)).size L3.out.1 L3.out.2) ?_); rintro e wb ⟨rfl, hbz, kbz⟩; have BB := Lib.hid (((Below.box BA.out HX.out _ _ _)).trans hbz); have Y := Lib.hid (kbz _ _ (((XB.out.set_ 0 _).set_ 1 _).set_ 2 _)); clear hbz kbz))
                    have HX0 : Hid (wq.heap.size ≤ X) := HX
                    go_cut [17, 18] (fun s17 s18 wx => ∃ X : Nat, s17 = .pointer (some ⟨X, 0, none⟩) ∧ s18 = .int .i64 e3 ∧ Hid (wq.heap.size ≤ X) ∧ Hid (Below wq.heap.size wq wx) ∧ ∃ x1 x2 x3, Hid (Blk wx X 25 #[x1, x2, x3]))
                    case first => as_aux_lemma =>
                      go_wp2
                      go_meet
                      exact ⟨_, rfl, rfl, HX0, BB, _, _, _, Y⟩
                    case rest => as_aux_lemma =>
                      clear va vb vc c0 c1 c2 c4 c5 c6 c7 c8 ta tb tc j0 j1 j2 j3 j4 j5 XB OW BA BB Y HX0 HX HY m1 m2 m3 m4 m5 m6 m7
                      obtain ⟨X, rfl, rfl, HX, B3, x1, x2, x3, HY⟩ := hcut
                      obtain ⟨m1, m2, m3, m4, m5, m6, m7⟩ : w4.heap.size < X ∧ w4.heap.size + 1 < X ∧ w4.heap.size + 1 + 1 < X ∧ w4.heap.size + 1 + 1 + 1 < X ∧ w4.heap.size + 1 + 1 + 1 + 1 < X ∧ w3.heap.size < X ∧ wr.heap.size < X := by have h1 := SZ.out; have h2 := HX.out; omega
                      obtain ⟨j0, j1, j2, j3, j4, j5⟩ := blk3 HY.out
                      obtain ⟨va, vb, vc, _⟩ := OV.out _ B3.out
                      obtain ⟨c0, c1, c2, _, c4, c5, c6, c7, c8, _, _⟩ := OA.out _ B3.out
                      go_upto_if 198 with (first
                        | (go_at_call 23; (with_reducible refine (K4.out _ B3.out).mono ?_); rintro e wa ⟨os, cs, ot, ct, rfl, ho, hbz⟩; have BA := Lib.hid (B3.out.trans (hbz.mono B3.out.size)); have OW := Lib.hid (ho.base (base' := wq.heap.size) B3.out.size); obtain ⟨ta, tb, tc, _⟩ := OX4.out _ BA.out; have XB := Lib.hid (HY.out.below hbz HY.out.lt); obtain ⟨j0, j1, j2, j3, j4, j5⟩ := blk3 XB.out; clear ho hbz)
                        | (go_at_call 20; (with_reducible refine Go.Calls.mono (is_any wq.heap.size e4 (0) _ (s) (stl s) _ _ _ _ _ _ _ _ (OW.out.box XB.out _ _ _) Z4.out (U4.out _ (Below.box BA.out HX.out _ _ _)) ((Below.box BA.out HX.out _ _ _)).size L4.out.1 L4.out.2) ?_); rintro e wb ⟨rfl, hbz, kbz⟩; have BB := Lib.hid (((Below.box BA.out HX.out _ _ _)).trans hbz); have Y := Lib.hid (kbz _ _ (((XB.out.set_ 0 _).set_ 1 _).set_ 2 _)); clear hbz kbz))
                      have HX0 : Hid (wq.heap.size ≤ X) := HX
                      go_cut [17, 18] (fun s17 s18 wx => ∃ X : Nat, s17 = .pointer (some ⟨X, 0, none⟩) ∧ s18 = .int .i64 e4 ∧ Hid (wq.heap.size ≤ X) ∧ Hid (Below wq.heap.size wq wx) ∧ ∃ x1 x2 x3, Hid (Blk wx X 25 #[x1, x2, x3]))
                      case first => as_aux_lemma =>
                        go_wp2
                        go_meet
                        exact ⟨_, rfl, rfl, HX0, BB, _, _, _, Y⟩
                      case rest => as_aux_lemma =>
                        clear va vb vc c0 c1 c2 c4 c5 c6 c7 c8 ta tb tc j0 j1 j2 j3 j4 j5 XB OW BA BB Y HX0 HX HY m1 m2 m3 m4 m5 m6 m7
                        obtain ⟨X, rfl, rfl, HX, B4, x1, x2, x3, HY⟩ := hcut
                        obtain ⟨m1, m2, m3, m4, m5, m6, m7⟩ : w4.heap.size < X ∧ w4.heap.size + 1 < X ∧ w4.heap.size + 1 + 1 < X ∧ w4.heap.size + 1 + 1 + 1 < X ∧ w4.heap.size + 1 + 1 + 1 + 1 < X ∧ w3.heap.size < X ∧ wr.heap.size < X := by have h1 := SZ.out; have h2 := HX.out; omega
                        obtain ⟨j0, j1, j2, j3, j4, j5⟩ := blk3 HY.out
                        obtain ⟨va, vb, vc, _⟩ := OV.out _ B4.out
                        obtain ⟨c0, c1, c2, _, c4, c5, c6, c7, c8, _, _⟩ := OA.out _ B4.out
                        go_upto_if 217 with (first
                          | (go_at_call 24; (with_reducible refine (K5.out _ B4.out).mono ?_); rintro e wa ⟨os, cs, ot, ct, rfl, ho, hbz⟩; have BA := Lib.hid (B4.out.trans (hbz.mono B4.out.size)); have OW := Lib.hid (ho.base (base' := wq.heap.size) B4.out.size); obtain ⟨ta, tb, tc, _⟩ := OX5.out _ BA.out; have XB := Lib.hid (HY.out.below hbz HY.out.lt); obtain ⟨j0, j1, j2, j3, j4, j5⟩ := blk3 XB.out; clear ho hbz)
                          | (go_at_call 20; (with_reducible refine Go.Calls.mono (is_any wq.heap.size e5 (0) _ (s) (stl s) _ _ _ _ _ _ _ _ (OW.out.box XB.out _ _ _) Z5.out (U5.out _ (Below.box BA.out HX.out _ _ _)) ((Below.box BA.out HX.out _ _ _)).size L5.out.1 L5.out.2) ?_); rintro e wb ⟨rfl, hbz, kbz⟩; have BB := Lib.hid (((Below.box BA.out HX.out _ _ _)).trans hbz); have Y := Lib.hid (kbz _ _ (((XB.out.set_ 0 _).set_ 1 _).set_ 2 _)); obtain ⟨va, vb, vc, _⟩ := OV.out _ BB.out; obtain ⟨c0, c1, c2, _, c4, c5, c6, c7, c8, _, _⟩ := OA.out _ BB.out; clear hbz kbz)
                          | (go_at_call 25; (with_reducible refine (KE.out _ BB.out).mono ?_); rintro e w6 ⟨rfl, hbz⟩; have B6 := Lib.hid (BB.out.trans (hbz.mono BB.out.size)); clear hbz))
                        go_cut [17] (fun _ wx => w6 = wx)
                        case first => as_aux_lemma =>
                          go_wp2
                          go_meet
                          exact rfl
                        case rest => as_aux_lemma =>
                          obtain rfl := hcut
                          clear va vb vc c0 c1 c2 c4 c5 c6 c7 c8 ta tb tc j0 j1 j2 j3 j4 j5 XB OW BA BB Y HX HY m1 m2 m3 m4 m5 m6 m7
                          obtain ⟨va, vb, vc, _⟩ := OV.out _ B6.out
                          obtain ⟨c0, c1, c2, _, c4, c5, c6, c7, c8, _, _⟩ := OA.out _ B6.out
                          go_upto_if 225 with (first
                            | (go_at_call 26; (with_reducible refine (win_any _ 200 _ (by decide) (by decide)).mono ?_); rintro e w' ⟨rfl, rfl⟩)
                            | (go_at_call 9; (with_reducible refine (KV.out _ _ B6.out).mono ?_); rintro e w7 ⟨rfl, hbz⟩; have B7 := Lib.hid (B6.out.trans (hbz.mono B6.out.size)); obtain ⟨va, vb, vc, _⟩ := OV.out _ B7.out; clear hbz))
                          generalize hnn : A % 18446744073709551616 % 200 = nn at *
                          cases hvn : vwb sh st off nn with
                          | false =>
                            have KH2 := Lib.hid (fun (W : World) (hW : Below wq.heap.size wq W) => KH.out nn W hW)
                            rw [hvn, frm_f] at KH2
                            go_wp2_with (first | (go_at_call 28; (with_reducible refine (KH2.out _ B7.out).mono ?_); rintro e w8 ⟨rfl, hbz⟩; have B8 := Lib.hid (B7.out.trans (hbz.mono B7.out.size)); clear hbz) | (go_at_call 27; (with_reducible refine (num7_any _ _).mono ?_); rintro e w' ⟨rfl, rfl⟩))
                            exact ⟨⟨k + 1, by omega, by go_num, EB.out _ B8.out⟩, by simp [intOf]; omega⟩
                          | true =>
                            have KH2 := Lib.hid (fun (W : World) (hW : Below wq.heap.size wq W) => KH.out nn W hW)
                            rw [hvn, frm_t] at KH2
                            go_wp2_with (first | (go_at_call 28; (with_reducible refine (KH2.out _ B7.out).mono ?_); rintro e w8 ⟨rfl, hbz⟩; have B8 := Lib.hid (B7.out.trans (hbz.mono B7.out.size)); clear hbz) | (go_at_call 27; (with_reducible refine (num7_any _ _).mono ?_); rintro e w' ⟨rfl, rfl⟩))
                            exact ⟨⟨k + 1, by omega, by go_num, EB.out _ B8.out⟩, by simp [intOf]; omega⟩
    · as_aux_lemma =>
      by_cases g1 : k < len
      · have g2 : 15 ≤ k := by omega
        clear g
        go_wp2_with (go_at_call 29; (with_reducible refine (HK.out _).mono ?_); rintro e w9 ⟨rfl, hb9⟩)
        go_ret
        exact ⟨rfl, hB.trans (hb9.mono hBs)⟩
      · have g2 : len ≤ k := by omega
        clear g g1
        go_wp2_with (go_at_call 29; (with_reducible refine (HK.out _).mono ?_); rintro e w9 ⟨rfl, hb9⟩)
        go_ret
        exact ⟨rfl, hB.trans (hb9.mono hBs)⟩
end Go.Proofs.Ytdefgmkkkeemoaa
