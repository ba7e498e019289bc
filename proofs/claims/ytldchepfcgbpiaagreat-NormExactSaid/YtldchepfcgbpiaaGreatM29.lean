/-
  NormExact's loop.
-/
import Derived.BigQuiet
import Derived.BigRegion
import Derived.Test.YtldchepfcgbpiaaGreatM13
import Derived.Test.YtldchepfcgbpiaaGreatM15
import Derived.Test.YtldchepfcgbpiaaGreatM24
import Derived.Test.YtldchepfcgbpiaaGreatM26
import Derived.Test.YtldchepfcgbpiaaGreatM27
import Derived.Test.YtldchepfcgbpiaaGreatM28
namespace Go.Proofs.YtldchepfcgbpiaaGreat
open Go.RowKit Go.Shelf

theorem blk5q {W : World} {b : Nat} {t : TypeId} {v0 v1 v2 v3 v4 : Value} (h : Blk W b t #[v0, v1, v2, v3, v4]) : W.cell? ⟨b, 0, none⟩ = some v0 ∧ W.cell? ⟨b, 1, none⟩ = some v1 ∧ W.cell? ⟨b, 2, none⟩ = some v2 ∧ W.cell? ⟨b, 3, none⟩ = some v3 ∧ W.cell? ⟨b, 4, none⟩ = some v4 := ⟨h.cell 0, h.cell 1, h.cell 2, h.cell 3, h.cell 4⟩
/-- A tensor's box, and what its lists read as if there is no error. -/
def LDS (W : World) (E : Int) (u v : Value) (S D : List Int) : Prop := E = 0 → Ld W u S ∧ Ld W v D
theorem LDS.below {W W' : World} {E : Int} {u v : Value} {S D : List Int} (h : LDS W E u v S D) (hb : Below W.heap.size W W') : LDS W' E u v S D := fun e => ⟨(h e).1.below hb, (h e).2.below hb⟩
def SBX (W : World) (B : Nat) (E : Int) (S D : List Int) : Prop := ∃ o n c o2 n2 c2, Blk W B 26 #[.slice o n c, .slice o2 n2 c2] ∧ LDS W E (.slice o n c) (.slice o2 n2 c2) S D
theorem SBX.below {W W' : World} {B : Nat} {E : Int} {S D : List Int} (h : SBX W B E S D) (hb : Below W.heap.size W W') : SBX W' B E S D := by
  obtain ⟨o, n, c, o2, n2, c2, h1, h2⟩ := h
  exact ⟨o, n, c, o2, n2, c2, h1.below hb h1.lt, fun e => ⟨(h2 e).1.below hb, (h2 e).2.below hb⟩⟩
theorem SBX.zero {W : World} {B : Nat} {E : Int} {S D : List Int} (h : Blk W B 26 #[.slice none 0 0, .slice none 0 0]) (he : E ≠ 0) : SBX W B E S D := ⟨_, _, _, _, _, _, h, fun e => absurd e he⟩
theorem SBX.far {W : World} {B C : Nat} {E : Int} {S D : List Int} {o1 o2 : Option Addr} {n1 n2 c1 c2 : Nat} (h : SBX W B E S D) (hb : Blk W C 26 #[.slice o1 n1 c1, .slice o2 n2 c2]) (hne : B ≠ C) (x z : Value) : SBX ((W.setCell ⟨C, 0, none⟩ x).setCell ⟨C, 1, none⟩ z) B E S D := by
  obtain ⟨o, n, c, o2, n2, c2, h1, h2⟩ := h
  exact ⟨o, n, c, o2, n2, c2, (h1.far (p := ⟨C, 0, none⟩) hne x).far (p := ⟨C, 1, none⟩) hne z, fun e => ⟨ldg2 hb (h2 e).1, ldg2 hb (h2 e).2⟩⟩
theorem SBX.put {W : World} {C : Nat} {E : Int} {S D : List Int} {o1 o2 o3 o4 : Option Addr} {n1 n2 n3 n4 c1 c2 c3 c4 : Nat} (hb : Blk W C 26 #[.slice o1 n1 c1, .slice o2 n2 c2]) (h3 : Ld W (.slice o3 n3 c3) S) (h4 : Ld W (.slice o4 n4 c4) D) : SBX ((W.setCell ⟨C, 0, none⟩ (.slice o3 n3 c3)).setCell ⟨C, 1, none⟩ (.slice o4 n4 c4)) C E S D :=
  ⟨_, _, _, _, _, _, (hb.set_ 0 _).set_ 1 _, fun _ => ⟨ldg2 hb h3, ldg2 hb h4⟩⟩
theorem below_put2 {w W : World} {m C : Nat} (h : Below m w W) (hm : m ≤ C) (x z : Value) : Below m w ((W.setCell ⟨C, 0, none⟩ x).setCell ⟨C, 1, none⟩ z) := (h.setCell (p := ⟨C, 0, none⟩) hm x).setCell (p := ⟨C, 1, none⟩) hm z
theorem norm_tot (a da : List Int) (eps f : Int) (l1 : a.length ≤ 17592186044416) (h24 : da.length ≤ 24) : ∃ (E : Int) (S D : List Int), ((tnb a da && fb f && wd eps) = false → E = 1) ∧ (E ≠ 0 → S = [] ∧ D = []) ∧ (S.length ≤ 65536 ∧ D.length ≤ 65536) ∧
    (∀ (vs vd : Value) (w : World), Ld w vs a → Ld w vd da → Calls Tryz.prog 10 #[.agg #[vs, vd], .int .i64 eps, .int .i64 f] w (SomeT w E S D)) ∧
    ((tnb a da && fb f && wd eps) = true → ∀ (vs vd : Value) (w : World), Ld w vs a → Ld w vd da → Calls Tryz.prog 8 #[.agg #[vs, vd], .int .i64 eps, .int .i64 f] w (TyN w E S D)) := by
  cases hb : (tnb a da && fb f && wd eps) with
  | false =>
    exact ⟨1, [], [], fun _ => rfl, fun _ => ⟨rfl, rfl⟩, by simp, fun vs vd w h1 h2 => (norm_no vs vd a da eps f w h1 h2 l1 (by omega)).1 (by revert hb; cases tnb a da <;> cases fb f <;> cases wd eps <;> simp), fun h => by simp at h⟩
  | true =>
    have h3 : tnb a da = true ∧ fb f = true ∧ wd eps = true := by simpa [and_assoc] using hb
    obtain ⟨ta, hf, we⟩ := h3
    by_cases e0 : 0 < eps
    · by_cases h0 : a.length = 0
      · exact ⟨2, [], [], fun h => by simp at h, fun _ => ⟨rfl, rfl⟩, by simp, fun vs vd w h1 h2 => (norm_no vs vd a da eps f w h1 h2 l1 (by omega)).2 (by simp [ta, hf, we, e0]) h0, fun _ vs vd w h1 h2 => (rnorm18_no vs vd a da eps f w h1).2 e0 h0⟩
      · obtain ⟨fn, rfl⟩ : ∃ n : Nat, f = (n : Int) := ⟨f.toNat, by simp only [fb, decide_eq_true_eq] at hf; omega⟩
        have hn1 := may_dim (tnb_parts ta).1 (i := a.length - 1) (by omega)
        obtain ⟨n, hn⟩ : ∃ n : Nat, a.getD (a.length - 1) 0 = (n : Int) := ⟨(a.getD (a.length - 1) 0).toNat, by omega⟩
        have l4 := may_len (tnb_parts ta).1
        exact ⟨0, a, nrt n da eps fn, fun h => by simp at h, fun h => absurd rfl h, ⟨by omega, by rw [nrt_len]; omega⟩, fun vs vd w h1 h2 => norm_ok vs vd a da eps fn w h1 h2 ta we e0 hf h0 n hn, fun _ vs vd w h1 h2 => rnorm18_ok vs vd a da eps fn n w h1 h2 ta we e0 hf h0 hn h24⟩
    · exact ⟨1, [], [], fun _ => rfl, fun _ => ⟨rfl, rfl⟩, by simp, fun vs vd w h1 h2 => (norm_no vs vd a da eps f w h1 h2 l1 (by omega)).1 (by simp [e0]), fun _ vs vd w h1 h2 => (rnorm18_no vs vd a da eps f w h1).1 (by omega)⟩
set_option maxRecDepth 100000 in
set_option maxHeartbeats 8000000 in
theorem normexact_any (bb oo len cap : Nat) (es : Nat → Qk) (w : World) (_hl : len ≤ 9223372036854775807) (hb : bb < w.heap.size) (hT : ∀ i, i < len → QkAt w bb (oo + i * 5) (es i)) (hok : ∀ i, i < len → (es i).ok w) :
    Calls Tryz.prog 3 #[.slice (some ⟨bb, oo, none⟩) len cap] w fun e w' => e = .returned (.bool true) ∧ Below w.heap.size w w' := by
  have HT := Lib.hid (And.intro hT hok)
  clear hT hok
  go_enter Tryz.func3, Tryz.ntmps3
  go_wp2
  go_loopw [3] (fun s3 wQ => ∃ k : Nat, k ≤ len ∧ s3 = .int .i64 k ∧ Below w.heap.size w wQ) (fun s3 _ => len - (intOf s3).toNat)
  case atStart => exact ⟨0, Nat.zero_le _, rfl, Below.refl _ _⟩
  case round =>
    obtain ⟨k, hk, rfl, hB⟩ := hrel
    have hBs := hB.size
    obtain ⟨w1, hw1⟩ : ∃ w1, w1 = wr := ⟨_, rfl⟩
    subst hw1
    by_cases g : k < len ∧ k < 4
    · obtain ⟨g1, g2⟩ := g
      obtain ⟨t0, t1, t2, t3, t4⟩ := (HT.out.1 k (by omega)).below hB hb
      obtain ⟨⟨hX, hV⟩, ⟨l0, l1⟩, ⟨a0, a1⟩, ⟨b0, b1⟩, ⟨c0, c1⟩⟩ := HT.out.2 k (by omega)
      replace hX := hX.below hB
      replace hV := hV.below hB
      generalize es k = p at *
      obtain ⟨vX, vV, sx, dx, ep, z, f⟩ := p
      simp only at t0 t1 t2 t3 t4 hX hV l0 l1 a0 a1 b0 b1 c0 c1
      obtain ⟨oX, cX, rfl, _, _⟩ := id hX
      obtain ⟨oV, cV, rfl, _, _⟩ := id hV
      have K0 := Lib.hid (fun o => (Below.refl w1.heap.size w1).alloc (Nat.le_refl _) o)
      have K4 := Lib.hid (Blk.new w1 28 #[.slice oX sx.length cX, .slice oV dx.length cV, .int .i64 ep, .int .i64 z, .int .i64 f])
      obtain ⟨FR, hFR⟩ : ∃ FR : World → Prop, FR = fun W => Below w1.heap.size w1 W ∧ Blk W w1.heap.size 28 #[.slice oX sx.length cX, .slice oV dx.length cV, .int .i64 ep, .int .i64 z, .int .i64 f] := ⟨_, rfl⟩
      have FRb : Hid (∀ W, FR W → Below w1.heap.size w1 W) := Lib.hid (fun W h => by rw [hFR] at h; exact h.1)
      have FRk := Lib.hid (fun (W : World) (h : FR W) => blk5q (by rw [hFR] at h; exact h.2 : Blk W w1.heap.size 28 #[.slice oX sx.length cX, .slice oV dx.length cV, .int .i64 ep, .int .i64 z, .int .i64 f]))
      have FRn : Hid (∀ W W', FR W → Below W.heap.size W W' → FR W') := Lib.hid (fun W W' h hb => by rw [hFR] at h ⊢; exact ⟨h.1.trans (hb.mono h.1.size), h.2.below hb h.2.lt⟩)
      have FRm : Hid (∀ W W', FR W → Below (w1.heap.size + 1) W W' → FR W') := Lib.hid (fun W W' h hb => by rw [hFR] at h ⊢; exact ⟨h.1.trans (hb.mono (Nat.le_succ _)), h.2.below hb (Nat.lt_succ_self _)⟩)
      have FRl : Hid (∀ W, FR W → w1.heap.size < W.heap.size) := Lib.hid (fun W h => by rw [hFR] at h; exact h.2.lt)
      have FRs : Hid (∀ W, Below (w1.alloc (.cells #[.slice oX sx.length cX, .slice oV dx.length cV, .int .i64 ep, .int .i64 z, .int .i64 f] 28)).heap.size (w1.alloc (.cells #[.slice oX sx.length cX, .slice oV dx.length cV, .int .i64 ep, .int .i64 z, .int .i64 f] 28)) W → FR W) := Lib.hid (fun W h => by rw [hFR]; exact ⟨(K0.out _).trans (h.mono (by simp)), K4.out.below h K4.out.lt⟩)
      clear hFR
      have LG := Lib.hid (fun (W : World) (hW : Below w1.heap.size w1 W) => heavy8_any _ _ sx dx 24 W (hX.below hW) (hV.below hW) (by omega) (by omega))
      cases lg : hv8 24 sx dx with
      | true =>
        as_aux_lemma =>
        rw [lg] at LG
        clear lg hX hV
        go_wp2_with (go_at_call 4; (with_reducible refine (LG.out _ (K0.out _)).mono ?_); rintro e w2 ⟨rfl, hb2⟩; have F2 := Lib.hid (FRs.out _ hb2); obtain ⟨x0, x1, x2, x3, x4⟩ := FRk.out _ F2.out; clear hb2)
        go_ret
        exact ⟨rfl, hB.trans ((FRb.out _ F2.out).mono hBs)⟩
      | false =>
        rw [lg] at LG
        have na := hv8_no lg
        have HL := Lib.hid (And.intro hX hV)
        have KMA := Lib.hid (fun (W : World) (hW : Below w1.heap.size w1 W) => rmay8_any _ _ sx dx W (hX.below hW) (hV.below hW) (by omega) (by omega))
        clear lg hX hV
        obtain ⟨E1, S1, D1, hE1, hN1, hL1, hP1, hR1⟩ := norm_tot sx dx ep f (by omega) (by omega)
        have KPN := Lib.hid hP1
        have KMF := Lib.hid (fun (W : World) => mayf_any f W)
        have KME := Lib.hid (fun (W : World) => may_any ep W)
        have KCA := Lib.hid (fun (W : World) (hW : Below w1.heap.size w1 W) => copytens_any _ _ sx dx W (HL.out.1.below hW) (HL.out.2.below hW) (by omega) (by omega))
        obtain ⟨TA, hTA⟩ : ∃ b, b = tnb sx dx := ⟨_, rfl⟩
        obtain ⟨FB, hFB⟩ : ∃ b, b = fb f := ⟨_, rfl⟩
        obtain ⟨WE, hWE⟩ : ∃ b, b = wd ep := ⟨_, rfl⟩
        obtain ⟨OK, hOK⟩ : ∃ b, b = (TA && FB && WE) := ⟨_, rfl⟩
        obtain ⟨b5, hb5⟩ : ∃ x : Int, x = if OK = true then 0 else 1 := ⟨_, rfl⟩
        rw [← hTA] at hE1 hR1 KMA
        rw [← hFB] at hE1 hR1 KMF
        rw [← hWE] at hE1 hR1 KME
        rw [← hOK] at hE1 hR1
        have KR1 := Lib.hid (fun (h : OK = true) (W : World) (hW : Below w1.heap.size w1 W) => hR1 h _ _ W (HL.out.1.below hW) (HL.out.2.below hW))
        have HNO := Lib.hid hN1
        have HLN := Lib.hid hL1
        have HE1 := Lib.hid hE1
        have HOK := Lib.hid hOK
        have HB5 := Lib.hid hb5
        clear hE1 hN1 hL1 hP1 hR1 hOK hb5 hTA hFB hWE
        go_upto_region 8 with (go_at_call 4; (with_reducible refine (LG.out _ (K0.out _)).mono ?_); rintro e w2 ⟨rfl, hb2⟩; have F2 := Lib.hid (FRs.out _ hb2); obtain ⟨x0, x1, x2, x3, x4⟩ := FRk.out _ F2.out; clear hb2)
        go_cut [42] (fun s42 wx => s42 = .bool (!OK) ∧ Hid (FR wx))
        case first =>
          as_aux_lemma =>
          cases TA with
          | false =>
            go_wp2_with (go_at_call 5; (with_reducible refine (KMA.out _ (FRb.out _ F2.out)).mono ?_); rintro e w4 ⟨rfl, hb4⟩; have F4 := Lib.hid (FRn.out _ _ F2.out hb4); obtain ⟨x0, x1, x2, x3, x4⟩ := FRk.out _ F4.out; clear hb4)
            go_meet
            exact ⟨by rw [HOK.out]; rfl, F4⟩
          | true =>
            cases FB with
            | false =>
              go_wp2_with (first | (go_at_call 5; (with_reducible refine (KMA.out _ (FRb.out _ F2.out)).mono ?_); rintro e w4 ⟨rfl, hb4⟩; have F4 := Lib.hid (FRn.out _ _ F2.out hb4); obtain ⟨x0, x1, x2, x3, x4⟩ := FRk.out _ F4.out; clear hb4) | (go_at_call 6; (with_reducible refine (KMF.out _).mono ?_); rintro e w' ⟨rfl, rfl⟩))
              go_meet
              exact ⟨by rw [HOK.out]; rfl, F4⟩
            | true =>
              go_wp2_with (first | (go_at_call 5; (with_reducible refine (KMA.out _ (FRb.out _ F2.out)).mono ?_); rintro e w4 ⟨rfl, hb4⟩; have F4 := Lib.hid (FRn.out _ _ F2.out hb4); obtain ⟨x0, x1, x2, x3, x4⟩ := FRk.out _ F4.out; clear hb4) | (go_at_call 6; (with_reducible refine (KMF.out _).mono ?_); rintro e w' ⟨rfl, rfl⟩) | (go_at_call 7; (with_reducible refine (KME.out _).mono ?_); rintro e w' ⟨rfl, rfl⟩))
              go_meet
              exact ⟨by rw [HOK.out]; cases WE <;> rfl, F4⟩
        case rest =>
          clear x0 x1 x2 x3 x4
          obtain ⟨rfl, FD⟩ := hcut
          obtain ⟨wd0, hwd⟩ : ∃ v, v = wc := ⟨_, rfl⟩
          rw [← hwd] at FD ⊢
          clear hwd
          go_upto_if 42 with fail
          go_cut [5] (fun s5 wx => s5 = .int .i64 b5 ∧ Hid (wd0 = wx))
          case first =>
            as_aux_lemma =>
            cases OK with
            | false =>
              go_wp2
              go_meet
              exact ⟨by rw [HB5.out]; rfl, Lib.hid rfl⟩
            | true =>
              go_wp2
              go_meet
              exact ⟨by rw [HB5.out]; rfl, Lib.hid rfl⟩
          case rest =>
            obtain ⟨rfl, hq⟩ := hcut
            obtain rfl := hq.out
            clear hq
            go_upto_if 44 with fail
            obtain ⟨w5, hw5⟩ : ∃ v, v = wd0.alloc (.cells #[.slice none 0 0, .slice none 0 0] 26) := ⟨_, rfl⟩
            obtain ⟨T7, hT7⟩ : ∃ v, v = wd0.heap.size := ⟨_, rfl⟩
            rw [← hw5, ← hT7]
            have F5 : Hid (FR w5) := Lib.hid (by rw [hw5]; exact FRn.out _ _ FD.out (al_below _))
            have K7 : Hid (Blk w5 T7 26 #[.slice none 0 0, .slice none 0 0]) := Lib.hid (by rw [hw5, hT7]; exact Blk.new _ _ _)
            have HTB : Hid (w1.heap.size + 1 ≤ T7) := Lib.hid (by rw [hT7]; exact FRl.out _ FD.out)
            clear hw5 hT7
            obtain ⟨x0, x1, x2, x3, x4⟩ := FRk.out _ F5.out
            go_cut [5] (fun s5 wx => s5 = .int .i64 E1 ∧ Hid (SBX wx T7 E1 S1 D1) ∧ Hid (Below T7 w5 wx))
            case first =>
              as_aux_lemma =>
              cases OK with
              | false =>
                obtain rfl : b5 = 1 := HB5.out
                have e1 := HE1.out rfl
                have HEE := Lib.hid e1
                clear e1
                go_wp2
                go_meet
                exact ⟨by rw [HEE.out], Lib.hid (SBX.zero K7.out (by rw [HEE.out]; decide)), Lib.hid (Below.refl _ _)⟩
              | true =>
                obtain rfl : b5 = 0 := HB5.out
                replace KR1 := Lib.hid (KR1.out rfl)
                go_wp2_with (go_at_call 8; (with_reducible refine (KR1.out _ (FRb.out _ F5.out)).mono ?_); rintro e w7 ⟨os1, cs1, od1, cd1, rfl, h1, h2, hb⟩; have U7 := Lib.hid (And.intro h1 (And.intro h2 hb)); have K77 := Lib.hid (K7.out.below hb K7.out.lt); obtain ⟨p0, p1, pf0, pf1⟩ := blk2 K77.out; clear h1 h2 hb)
                go_meet
                exact ⟨rfl, Lib.hid (SBX.put K77.out U7.out.1 U7.out.2.1), Lib.hid (below_put2 (U7.out.2.2.mono (Nat.le_of_lt K7.out.lt)) (Nat.le_refl _) _ _)⟩
            case rest =>
              clear x0 x1 x2 x3 x4
              obtain ⟨rfl, SB1, BE⟩ := hcut
              obtain ⟨we, hwd⟩ : ∃ v, v = wc := ⟨_, rfl⟩
              rw [← hwd] at SB1 BE ⊢
              clear hwd
              have FE := Lib.hid (FRm.out _ _ F5.out (BE.out.mono HTB.out))
              clear K7 BE
              obtain ⟨x0, x1, x2, x3, x4⟩ := FRk.out _ FE.out
              obtain ⟨oa1, na1, ca1, ob1, nb1, cb1, hk1, hl1⟩ := SB1.out
              have HKL := Lib.hid (And.intro hk1 hl1)
              clear hk1 hl1 SB1
              go_upto_region 14 with (go_at_call 9; (with_reducible refine (KCA.out _ (FRb.out _ FE.out)).mono ?_); rintro e wh ⟨os9, cs9, od9, cd9, rfl, h1, h2, hb⟩; have UH := Lib.hid (And.intro h1 (And.intro h2 hb)); clear h1 h2 hb)
              obtain ⟨w3, hw3⟩ : ∃ v, v = wh.alloc (.cells #[.slice os9 sx.length cs9, .slice od9 dx.length cd9] 26) := ⟨_, rfl⟩
              obtain ⟨T9, hT9⟩ : ∃ v, v = wh.heap.size := ⟨_, rfl⟩
              rw [← hw3, ← hT9]
              have BH : Hid (Below we.heap.size we w3) := Lib.hid (by rw [hw3]; exact UH.out.2.2.trans ((al_below _).mono UH.out.2.2.size))
              have KT9 : Hid (Blk w3 T9 26 #[.slice os9 sx.length cs9, .slice od9 dx.length cd9]) := Lib.hid (by rw [hw3, hT9]; exact Blk.new _ _ _)
              have HC9 : Hid (Ld w3 (.slice os9 sx.length cs9) sx ∧ Ld w3 (.slice od9 dx.length cd9) dx) := Lib.hid (by rw [hw3]; exact ⟨(own_ld UH.out.1 rfl).below (al_below _), (own_ld UH.out.2.1 rfl).below (al_below _)⟩)
              have FA : Hid (∀ W, Below w3.heap.size w3 W → FR W ∧ (Blk W T7 26 #[.slice oa1 na1 ca1, .slice ob1 nb1 cb1] ∧ LDS W E1 (.slice oa1 na1 ca1) (.slice ob1 nb1 cb1) S1 D1) ∧ (Blk W T9 26 #[.slice os9 sx.length cs9, .slice od9 dx.length cd9] ∧ Ld W (.slice os9 sx.length cs9) sx ∧ Ld W (.slice od9 dx.length cd9) dx)) := Lib.hid (fun W hW => by
                have u := BH.out.trans (hW.mono BH.out.size)
                have q := HKL.out
                exact ⟨FRn.out _ _ FE.out u, ⟨q.1.below u q.1.lt, q.2.below u⟩, ⟨KT9.out.below hW KT9.out.lt, HC9.out.1.below hW, HC9.out.2.below hW⟩⟩)
              clear hw3 hT9 BH KT9 HC9 UH HKL FE x0 x1 x2 x3 x4
              have A3 := FA.out w3 (Below.refl _ _)
              obtain ⟨y0, y1, _⟩ := blk2 A3.2.2.1
              obtain ⟨x0, x1, x2, x3, x4⟩ := FRk.out _ A3.1
              have KM3 := Lib.hid (KPN.out _ _ w3 A3.2.2.2.1 A3.2.2.2.2)
              clear A3
              go_upto_region 15 with (go_at_call 10; (with_reducible refine KM3.out.mono ?_); rintro e w4 ⟨os, cs, ox, cx, rfl, h1, h2, hb⟩; have U4 := Lib.hid (And.intro h1 (And.intro h2 hb)); clear h1 h2 hb)
              obtain ⟨v4, hv4⟩ : ∃ v, v = w4.alloc (.cells #[.slice os S1.length cs, .slice ox D1.length cx] 26) := ⟨_, rfl⟩
              obtain ⟨T14, hT14⟩ : ∃ v, v = w4.heap.size := ⟨_, rfl⟩
              rw [← hv4, ← hT14]
              have BX4 : Hid (Below w3.heap.size w3 v4) := Lib.hid (by rw [hv4]; exact U4.out.2.2.alloc U4.out.2.2.size _)
              have KX4 : Hid (Blk v4 T14 26 #[.slice os S1.length cs, .slice ox D1.length cx]) := Lib.hid (by rw [hv4, hT14]; exact Blk.new _ _ _)
              have KI1 := Lib.hid (is8_any w3.heap.size (.slice os S1.length cs) (.slice ox D1.length cx) (.slice oa1 na1 ca1) (.slice ob1 nb1 cb1) S1 D1 E1 v4 (by rw [hv4]; exact U4.out.1.alloc _) (by rw [hv4]; exact U4.out.2.1.alloc _) BX4.out.size HLN.out.1 HLN.out.2 ⟨_, _, _, rfl⟩ ⟨_, _, _, rfl⟩ (FA.out v4 BX4.out).2.1.2 HNO.out)
              have KEA := Lib.hid (fun (W : World) (hW : Below w3.heap.size w3 W) => eqtensor_same _ _ _ _ sx dx W (FA.out W hW).2.2.2.1 (FA.out W hW).2.2.2.2 (HL.out.1.below (FRb.out _ (FA.out W hW).1)) (HL.out.2.below (FRb.out _ (FA.out W hW).1)) (by omega) (by omega))
              clear hv4 hT14 U4 KM3 y0 y1 x0 x1 x2 x3 x4
              obtain ⟨z0, z1, _⟩ := blk2 KX4.out
              obtain ⟨u0, u1, _⟩ := blk2 (FA.out v4 BX4.out).2.1.1
              go_wp2_with (first
                | (go_at_call 11; (with_reducible refine KI1.out.mono ?_); rintro e w12 ⟨rfl, hb, _⟩; have BX12 := Lib.hid (BX4.out.trans hb); obtain ⟨y0, y1, _⟩ := blk2 (FA.out w12 BX12.out).2.2.1; obtain ⟨x0, x1, x2, x3, x4⟩ := FRk.out _ (FA.out w12 BX12.out).1; clear hb)
                | (go_at_call 12; (with_reducible refine (KEA.out _ BX12.out).mono ?_); rintro e w13 ⟨rfl, hb⟩; have F13 := Lib.hid (FRn.out _ _ (FA.out w12 BX12.out).1 hb); clear hb))
              exact ⟨⟨k + 1, by omega, by go_num, hB.trans ((FRb.out _ F13.out).mono hBs)⟩, by simp [intOf]; omega⟩
    · as_aux_lemma =>
      by_cases g1 : k < len
      · have g2 : 4 ≤ k := by omega
        clear g
        go_wp2_with (go_at_call 13; (with_reducible refine (wakes14_any _).mono ?_); rintro e w9 ⟨rfl, hb9⟩)
        go_ret
        exact ⟨rfl, hB.trans (hb9.mono hBs)⟩
      · have g2 : len ≤ k := by omega
        clear g g1
        go_wp2_with (go_at_call 13; (with_reducible refine (wakes14_any _).mono ?_); rintro e w9 ⟨rfl, hb9⟩)
        go_ret
        exact ⟨rfl, hB.trans (hb9.mono hBs)⟩
end Go.Proofs.YtldchepfcgbpiaaGreat
