/-
  ReduceExact's loop.
-/
import Derived.Test.YtmafgdinegboeaaGreatM25
namespace Go.Proofs.YtmafgdinegboeaaGreat
open Go.RowKit Go.Shelf

theorem blk4r {W : World} {b : Nat} {v0 v1 v2 v3 : Value} (h : Blk W b 67 #[v0, v1, v2, v3]) : W.cell? ⟨b, 0, none⟩ = some v0 ∧ W.cell? ⟨b, 1, none⟩ = some v1 ∧ W.cell? ⟨b, 2, none⟩ = some v2 ∧ W.cell? ⟨b, 3, none⟩ = some v3 := ⟨h.cell 0, h.cell 1, h.cell 2, h.cell 3⟩
/-- A tensor's box, and what its lists read as if there is no error. -/
def LDS (W : World) (E : Int) (u v : Value) (S D : List Int) : Prop := E = 0 → Ld W u S ∧ Ld W v D
theorem LDS.below {W W' : World} {E : Int} {u v : Value} {S D : List Int} (h : LDS W E u v S D) (hb : Below W.heap.size W W') : LDS W' E u v S D := fun e => ⟨(h e).1.below hb, (h e).2.below hb⟩
def SBX (W : World) (B : Nat) (E : Int) (S D : List Int) : Prop := ∃ o n c o2 n2 c2, Blk W B 26 #[.slice o n c, .slice o2 n2 c2] ∧ LDS W E (.slice o n c) (.slice o2 n2 c2) S D
theorem SBX.below {W W' : World} {B : Nat} {E : Int} {S D : List Int} (h : SBX W B E S D) (hb : Below W.heap.size W W') : SBX W' B E S D := by
  obtain ⟨o, n, c, o2, n2, c2, h1, h2⟩ := h
  exact ⟨o, n, c, o2, n2, c2, h1.below hb h1.lt, fun e => ⟨(h2 e).1.below hb, (h2 e).2.below hb⟩⟩
theorem SBX.zero {W : World} {B : Nat} {E : Int} {S D : List Int} (h : Blk W B 26 #[.slice none 0 0, .slice none 0 0]) (he : E ≠ 0) : SBX W B E S D := ⟨_, _, _, _, _, _, h, fun e => absurd e he⟩
theorem SBX.far {W : World} {B C : Nat} {E : Int} {S D : List Int} {o1 o2 : Option Addr} {n1 n2 c1 c2 : Nat} (h : SBX W B E S D) (hb : Blk W C 26 #[.slice o1 n1 c1, .slice o2 n2 c2]) (hne : B ≠ C) (x z : Value) : SBX ((W.setCell ⟨C, 0, none⟩ x).setCell ⟨C, 1, none⟩ z) B E S D := by
  obtain ⟨o, n, c, o2, n2, c2, h1, h2⟩ := h
  exact ⟨o, n, c, o2, n2, c2, (h1.far (p := ⟨C, 0, none⟩) hne x).far (p := ⟨C, 1, none⟩) hne z, fun e => ⟨ldg2 hb (h2 e).1, ldg2 hb (h2 e).2⟩⟩
theorem SBX.put {W : World} {C : Nat} {E : Int} {S D : List Int} {o1 o2 o3 o4 : Option Addr} {n1 n2 n3 n4 c1 c2 c3 c4 : Nat} (hb : Blk W C 26 #[.slice o1 n1 c1, .slice o2 n2 c2]) (h3 : Ld W (.slice o3 n3 c3) S) (h4 : Ld W (.slice o4 n4 c4) D) : SBX ((W.setCell ⟨C, 0, none⟩ (.slice o3 n3 c3)).setCell ⟨C, 1, none⟩ (.slice o4 n4 c4)) C E S D :=
  ⟨_, _, _, _, _, _, (hb.set_ 0 _).set_ 1 _, fun _ => ⟨ldg2 hb h3, ldg2 hb h4⟩⟩
theorem blk_put2 {W : World} {B C : Nat} {cs : Array Value} {t : TypeId} (h : Blk W B t cs) (hne : B ≠ C) (x z : Value) : Blk ((W.setCell ⟨C, 0, none⟩ x).setCell ⟨C, 1, none⟩ z) B t cs := (h.far (p := ⟨C, 0, none⟩) hne x).far (p := ⟨C, 1, none⟩) hne z
theorem below_put2 {w W : World} {m C : Nat} (h : Below m w W) (hm : m ≤ C) (x z : Value) : Below m w ((W.setCell ⟨C, 0, none⟩ x).setCell ⟨C, 1, none⟩ z) := (h.setCell (p := ⟨C, 0, none⟩) hm x).setCell (p := ⟨C, 1, none⟩) hm z
theorem own_put9 {W : World} {base n C : Nat} {t : TypeId} {v x z : Value} {xs : List Value} {c0 c1 : Value} (h : W.ownsRow base t 1 v n xs) (hb : Blk W C 26 #[c0, c1]) (ht : t ≠ 26) : ((W.setCell ⟨C, 0, none⟩ x).setCell ⟨C, 1, none⟩ z).ownsRow base t 1 v n xs :=
  own_setx (own_setx h hb ht) (hb.set_ 0 x) ht
set_option maxRecDepth 100000 in
set_option maxHeartbeats 6000000 in
theorem reduceexact_any (bb oo len cap : Nat) (es : Nat → Rk) (w : World) (_hl : len ≤ 9223372036854775807) (hb : bb < w.heap.size) (hT : ∀ i, i < len → RkAt w bb (oo + i * 4) (es i)) (hok : ∀ i, i < len → (es i).ok w) :
    Calls Tryz.prog 6 #[.slice (some ⟨bb, oo, none⟩) len cap] w fun e w' => e = .returned (.bool true) ∧ Below w.heap.size w w' := by
  have HT := Lib.hid (And.intro hT hok)
  clear hT hok
  go_enter Tryz.func6, Tryz.ntmps6
  go_wp2
  go_loopw [3] (fun s3 wQ => ∃ k : Nat, k ≤ len ∧ s3 = .int .i64 k ∧ Below w.heap.size w wQ) (fun s3 _ => len - (intOf s3).toNat)
  case atStart => exact ⟨0, Nat.zero_le _, rfl, Below.refl _ _⟩
  case round =>
    obtain ⟨k, hk, rfl, hB⟩ := hrel
    have hBs := hB.size
    obtain ⟨w1, hw1⟩ : ∃ w1, w1 = wr := ⟨_, rfl⟩
    subst hw1
    by_cases g : k < len ∧ k < 10
    · obtain ⟨g1, g2⟩ := g
      obtain ⟨t0, t1, t2, t3⟩ := (HT.out.1 k (by omega)).below hB hb
      obtain ⟨⟨hA, hX, hV⟩, ⟨l0, l1, l2⟩, ⟨a0, a1⟩⟩ := HT.out.2 k (by omega)
      replace hA := hA.below hB
      replace hX := hX.below hB
      replace hV := hV.below hB
      generalize es k = p at *
      obtain ⟨vA, vX, vV, sh, ds, ax, a⟩ := p
      simp only at t0 t1 t2 t3 hA hX hV l0 l1 l2 a0 a1
      obtain ⟨oA, cA, rfl, _, _⟩ := id hA
      obtain ⟨oX, cX, rfl, _, hxX⟩ := id hX
      obtain ⟨oV, cV, rfl, _, _⟩ := id hV
      have HXX := Lib.hid hxX
      clear hxX
      have K0 := Lib.hid (fun o => (Below.refl w1.heap.size w1).alloc (Nat.le_refl _) o)
      have K4 := Lib.hid (Blk.new w1 67 #[.slice oA sh.length cA, .slice oX ds.length cX, .slice oV ax.length cV, .int .i64 a])
      obtain ⟨FR, hFR⟩ : ∃ FR : World → Prop, FR = fun W => Below w1.heap.size w1 W ∧ Blk W w1.heap.size 67 #[.slice oA sh.length cA, .slice oX ds.length cX, .slice oV ax.length cV, .int .i64 a] := ⟨_, rfl⟩
      have FRb : Hid (∀ W, FR W → Below w1.heap.size w1 W) := Lib.hid (fun W h => by rw [hFR] at h; exact h.1)
      have FRk := Lib.hid (fun (W : World) (h : FR W) => blk4r (by rw [hFR] at h; exact h.2 : Blk W w1.heap.size 67 #[.slice oA sh.length cA, .slice oX ds.length cX, .slice oV ax.length cV, .int .i64 a]))
      have FRn : Hid (∀ W W', FR W → Below W.heap.size W W' → FR W') := Lib.hid (fun W W' h hb => by rw [hFR] at h ⊢; exact ⟨h.1.trans (hb.mono h.1.size), h.2.below hb h.2.lt⟩)
      have FRm : Hid (∀ W W', FR W → Below (w1.heap.size + 1) W W' → FR W') := Lib.hid (fun W W' h hb => by rw [hFR] at h ⊢; exact ⟨h.1.trans (hb.mono (Nat.le_succ _)), h.2.below hb (Nat.lt_succ_self _)⟩)
      have FRl : Hid (∀ W, FR W → w1.heap.size < W.heap.size) := Lib.hid (fun W h => by rw [hFR] at h; exact h.2.lt)
      have FRs : Hid (∀ W, Below (w1.alloc (.cells #[.slice oA sh.length cA, .slice oX ds.length cX, .slice oV ax.length cV, .int .i64 a] 67)).heap.size (w1.alloc (.cells #[.slice oA sh.length cA, .slice oX ds.length cX, .slice oV ax.length cV, .int .i64 a] 67)) W → FR W) := Lib.hid (fun W h => by rw [hFR]; exact ⟨(K0.out _).trans (h.mono (by simp)), K4.out.below h K4.out.lt⟩)
      clear hFR
      have LG := Lib.hid (fun (W : World) (hW : Below w1.heap.size w1 W) => heavy8_any _ _ sh ds 60 W (hA.below hW) (hX.below hW) (by omega) (by omega))
      cases lg : hv8 60 sh ds with
      | true =>
        as_aux_lemma =>
        rw [lg] at LG
        clear lg hA hX hV
        go_wp2_with (go_at_call 31; (with_reducible refine (LG.out _ (K0.out _)).mono ?_); rintro e w2 ⟨rfl, hb2⟩; have F2 := Lib.hid (FRs.out _ hb2); obtain ⟨x0, x1, x2, x3⟩ := FRk.out _ F2.out; clear hb2)
        go_ret
        exact ⟨rfl, hB.trans ((FRb.out _ F2.out).mono hBs)⟩
      | false =>
        rw [lg] at LG
        have na := hv8_no lg
        have HL := Lib.hid (And.intro hA (And.intro hX hV))
        have KMA := Lib.hid (fun (W : World) (hW : Below w1.heap.size w1 W) => rmay8_any _ _ sh ds W (hA.below hW) (hX.below hW) (by omega) (by omega))
        clear lg hA hX hV
        by_cases gx : ax.length ≤ 10
        · have dx : decide ((10 : Int) < (ax.length : Int)) = false := by simp; omega
          have HEQ0 := (⟨_, _, _, rfl, rfl, rfl⟩ : ∃ (E1 : Int) (S1 D1 : List Int), E1 = sE sh ds ax 1 ∧ S1 = sS sh ds ax 1 ∧ D1 = sD sh ds ax 1)
          obtain ⟨E1, S1, D1, hE1, hS1, hD1⟩ := HEQ0
          have HEQ0 := (⟨_, _, _, rfl, rfl, rfl⟩ : ∃ (E1 : Int) (S1 D1 : List Int), E1 = sE sh ds ax (mnD sh ds ax) ∧ S1 = sS sh ds ax (mnD sh ds ax) ∧ D1 = sD sh ds ax (mnD sh ds ax))
          obtain ⟨E2, S2, D2, hE2, hS2, hD2⟩ := HEQ0
          have HEQ0 := (⟨_, _, _, _, rfl, rfl, rfl, rfl⟩ : ∃ (E1 : Int) (S1 D1 P1 : List Int), E1 = mE sh ds a ∧ S1 = mS sh ds a ∧ D1 = mL sh ds a ∧ P1 = mP sh ds a)
          obtain ⟨E3, S3, L3, P3, hE3, hS3, hL3, hP3⟩ := HEQ0
          obtain ⟨AX, hAX⟩ : ∃ b, b = axb (sh.length : Nat) ax (-1) := ⟨_, rfl⟩
          have KSU := Lib.hid (fun (W : World) (vs vd : Value) (hW : Below w1.heap.size w1 W) (h1 : Ld W vs sh) (h2 : Ld W vd ds) => sum_all vs vd _ sh ds ax W h1 h2 (HL.out.2.2.below hW) (by omega) (by omega) (by omega))
          have KME := Lib.hid (fun (W : World) (vs vd : Value) (hW : Below w1.heap.size w1 W) (h1 : Ld W vs sh) (h2 : Ld W vd ds) => mean_all vs vd _ sh ds ax W h1 h2 (HL.out.2.2.below hW) (by omega) (by omega) (by omega))
          have KMX := Lib.hid (fun (W : World) (vs vd : Value) (hW : Below w1.heap.size w1 W) (h1 : Ld W vs sh) (h2 : Ld W vd ds) => max_all vs vd sh ds a W h1 h2 (by omega) (by omega))
          have KRX := Lib.hid (fun (W : World) (hW : Below w1.heap.size w1 W) => raxs8_any _ ax sh.length W (HL.out.2.2.below hW) (by omega))
          have KR1 := Lib.hid (fun (t1 : tnb sh ds = true) (t2 : axb (sh.length : Nat) ax (-1) = true) (W : World) (hW : Below w1.heap.size w1 W) => rsum_all _ _ _ sh ds ax false 1 W (HL.out.1.below hW) (HL.out.2.1.below hW) (HL.out.2.2.below hW) (by omega) t1 t2 rfl)
          have KR2 := Lib.hid (fun (t1 : tnb sh ds = true) (t2 : axb (sh.length : Nat) ax (-1) = true) (W : World) (hW : Below w1.heap.size w1 W) => rsum_all _ _ _ sh ds ax true (mnD sh ds ax) W (HL.out.1.below hW) (HL.out.2.1.below hW) (HL.out.2.2.below hW) (by omega) t1 t2 rfl)
          have KRM := Lib.hid (fun (t1 : mE sh ds a = 0) (W : World) (hW : Below w1.heap.size w1 W) => rmax_all _ _ sh ds a W (HL.out.1.below hW) (HL.out.2.1.below hW) t1)
          have KCP := Lib.hid (fun (W : World) (hW : Below w1.heap.size w1 W) => copytens_any _ _ sh ds W (HL.out.1.below hW) (HL.out.2.1.below hW) (by omega) (by omega))
          have HNO : Hid ((E1 ≠ 0 → S1 = [] ∧ D1 = []) ∧ (E2 ≠ 0 → S2 = [] ∧ D2 = []) ∧ (E3 ≠ 0 → S3 = [] ∧ L3 = [])) := Lib.hid (by
            rw [hE1, hS1, hD1, hE2, hS2, hD2, hE3, hS3, hL3]
            exact ⟨fun h => ⟨unl_no h, unl_no h⟩, fun h => ⟨unl_no h, unl_no h⟩, fun h => ⟨unl_no h, unl_no h⟩⟩)
          have HLN : Hid ((S1.length ≤ 65536 ∧ D1.length ≤ 65536) ∧ (S2.length ≤ 65536 ∧ D2.length ≤ 65536) ∧ (S3.length ≤ 65536 ∧ L3.length ≤ 65536) ∧ P3.length ≤ 65536) := Lib.hid (by
            rw [hS1, hD1, hS2, hD2, hS3, hL3, hP3]
            have m := mL_len (sh := sh) (ds := ds) (x := a)
            have s1 := sS_len (sh := sh) (ds := ds) (ax := ax) (D := 1)
            have s2 := sS_len (sh := sh) (ds := ds) (ax := ax) (D := mnD sh ds ax)
            exact ⟨⟨by omega, sD_len⟩, ⟨by omega, sD_len⟩, ⟨by omega, m.2.1⟩, m.2.2⟩)
          rw [← hE1, ← hS1, ← hD1] at KSU KR1
          rw [← hE2, ← hS2, ← hD2] at KME KR2
          rw [← hE3, ← hS3, ← hL3, ← hP3] at KMX
          rw [← hS3, ← hL3, ← hP3] at KRM
          rw [← hAX] at KRX
          have HEQ := Lib.hid (And.intro (And.intro hE1 (And.intro hS1 hD1)) (And.intro (And.intro hE2 (And.intro hS2 hD2)) (And.intro hE3 (And.intro hS3 (And.intro hL3 hP3)))))
          have HAX := Lib.hid hAX
          clear hE1 hS1 hD1 hE2 hS2 hD2 hE3 hS3 hL3 hP3 hAX
          cases tn : tnb sh ds with
          | false =>
            as_aux_lemma =>
            have e1 : E1 = 1 := by rw [HEQ.out.1.1]; unfold sE; rw [tn]; rfl
            have e2 : E2 = 1 := by rw [HEQ.out.2.1.1]; unfold sE; rw [tn]; rfl
            have e3 : E3 = 1 := by rw [HEQ.out.2.2.1]; unfold mE; rw [tn]; rfl
            have p3 : P3 = [] := by rw [HEQ.out.2.2.2.2.2]; unfold mP; exact unl_no (by rw [← HEQ.out.2.2.1, e3]; decide)
            rw [tn] at KMA
            rw [e1] at KSU HNO
            rw [e2] at KME HNO
            rw [e3] at KMX HNO
            have HP3 := Lib.hid p3
            clear tn e1 e2 e3 p3 HEQ KRX KR1 KR2 KRM
            go_upto_region 13 with (first | (go_at_call 31; (with_reducible refine (LG.out _ (K0.out _)).mono ?_); rintro e w2 ⟨rfl, hb2⟩; have F2 := Lib.hid (FRs.out _ hb2); obtain ⟨x0, x1, x2, x3⟩ := FRk.out _ F2.out; clear hb2) | (go_at_call 9; (with_reducible refine (KMA.out _ (FRb.out _ F2.out)).mono ?_); rintro e w4 ⟨rfl, hb4⟩; have F4 := Lib.hid (FRn.out _ _ F2.out hb4); obtain ⟨x0, x1, x2, x3⟩ := FRk.out _ F4.out; clear hb4))
            obtain ⟨w5, hw5⟩ : ∃ v, v = ((w4.alloc (.cells #[.slice none 0 0, .slice none 0 0] 26)).alloc (.cells #[.slice none 0 0, .slice none 0 0] 26)).alloc (.cells #[.slice none 0 0, .slice none 0 0] 26) := ⟨_, rfl⟩
            obtain ⟨T9, hT9⟩ : ∃ v, v = w4.heap.size := ⟨_, rfl⟩
            rw [← hw5, ← hT9]
            have F5 : Hid (FR w5) := Lib.hid (by rw [hw5]; exact FRn.out _ _ (FRn.out _ _ (FRn.out _ _ F4.out (al_below _)) (al_below _)) (al_below _))
            have K9 : Hid (Blk w5 T9 26 #[.slice none 0 0, .slice none 0 0]) := Lib.hid (by rw [hw5, hT9]; exact ((Blk.new _ _ _).alloc _).alloc _)
            have K10 : Hid (Blk w5 (T9 + 1) 26 #[.slice none 0 0, .slice none 0 0]) := Lib.hid (by rw [hw5, hT9]; exact (blk_new1 w4 _ _ _).alloc _)
            have K11 : Hid (Blk w5 (T9 + 1 + 1) 26 #[.slice none 0 0, .slice none 0 0]) := Lib.hid (by
              rw [hw5, hT9]
              have q := Blk.new ((w4.alloc (.cells #[.slice none 0 0, .slice none 0 0] 26)).alloc (.cells #[.slice none 0 0, .slice none 0 0] 26)) 26 #[.slice none 0 0, .slice none 0 0]
              rwa [World.size_alloc, World.size_alloc] at q)
            have HTB : Hid (w1.heap.size + 1 ≤ T9) := Lib.hid (by rw [hT9]; exact FRl.out _ F4.out)
            clear hw5 hT9 x0 x1 x2 x3
            have SB1 : Hid (SBX w5 T9 1 S1 D1) := Lib.hid (SBX.zero K9.out (by decide))
            have SB2 : Hid (SBX w5 (T9 + 1) 1 S2 D2) := Lib.hid (SBX.zero K10.out (by decide))
            have SB3 : Hid (SBX w5 (T9 + 1 + 1) 1 S3 L3) := Lib.hid (SBX.zero K11.out (by decide))
            have HP : Hid (Ld w5 (.slice none 0 0) P3) := Lib.hid (by rw [HP3.out]; exact Ld.nil _)
            have FB := F5
            clear K9 K10 K11
            obtain ⟨oa1, na1, ca1, ob1, nb1, cb1, hk1, hl1⟩ := SB1.out
            obtain ⟨oa2, na2, ca2, ob2, nb2, cb2, hk2, hl2⟩ := SB2.out
            obtain ⟨oa3, na3, ca3, ob3, nb3, cb3, hk3, hl3⟩ := SB3.out
            have HKL := Lib.hid (And.intro (And.intro hk1 hl1) (And.intro (And.intro hk2 hl2) (And.intro hk3 hl3)))
            clear hk1 hl1 hk2 hl2 hk3 hl3 SB1 SB2 SB3
            obtain ⟨x0, x1, x2, x3⟩ := FRk.out _ FB.out
            go_upto_region 23 with (go_at_call 14; (with_reducible refine (KCP.out _ (FRb.out _ FB.out)).mono ?_); rintro e w8 ⟨oc, cc, od, cd, rfl, h1, h2, hb⟩; have U8 := Lib.hid (And.intro h1 (And.intro h2 hb)); clear h1 h2 hb)
            obtain ⟨w3, hw3⟩ : ∃ v, v = w8.alloc (.cells #[.slice oc sh.length cc, .slice od ds.length cd] 26) := ⟨_, rfl⟩
            obtain ⟨T13, hT13⟩ : ∃ v, v = w8.heap.size := ⟨_, rfl⟩
            rw [← hw3, ← hT13]
            have U3 : Hid (Below w5.heap.size w5 w3) := Lib.hid (by rw [hw3]; exact U8.out.2.2.trans ((al_below _).mono U8.out.2.2.size))
            have KT3 : Hid (Blk w3 T13 26 #[.slice oc sh.length cc, .slice od ds.length cd]) := Lib.hid (by rw [hw3, hT13]; exact Blk.new _ _ _)
            have HC3 : Hid (Ld w3 (.slice oc sh.length cc) sh ∧ Ld w3 (.slice od ds.length cd) ds) := Lib.hid (by rw [hw3]; exact ⟨(own_ld U8.out.1 rfl).below (al_below _), (own_ld U8.out.2.1 rfl).below (al_below _)⟩)
            have FA : Hid (∀ W, Below w3.heap.size w3 W → FR W ∧ (Blk W (T9) 26 #[.slice oa1 na1 ca1, .slice ob1 nb1 cb1] ∧ LDS W (1 : Int) (.slice oa1 na1 ca1) (.slice ob1 nb1 cb1) S1 D1) ∧ (Blk W (T9 + 1) 26 #[.slice oa2 na2 ca2, .slice ob2 nb2 cb2] ∧ LDS W (1 : Int) (.slice oa2 na2 ca2) (.slice ob2 nb2 cb2) S2 D2) ∧ (Blk W (T9 + 1 + 1) 26 #[.slice oa3 na3 ca3, .slice ob3 nb3 cb3] ∧ LDS W (1 : Int) (.slice oa3 na3 ca3) (.slice ob3 nb3 cb3) S3 L3) ∧ Blk W T13 26 #[.slice oc sh.length cc, .slice od ds.length cd] ∧ Ld W (.slice oc sh.length cc) sh ∧ Ld W (.slice od ds.length cd) ds ∧ Ld W (.slice none 0 0) P3) := Lib.hid (fun W hW => by
              have u := U3.out.trans (hW.mono U3.out.size)
              have q := HKL.out
              exact ⟨FRn.out _ _ FB.out u, ⟨q.1.1.below u q.1.1.lt, q.1.2.below u⟩, ⟨q.2.1.1.below u q.2.1.1.lt, q.2.1.2.below u⟩, ⟨q.2.2.1.below u q.2.2.1.lt, q.2.2.2.below u⟩, KT3.out.below hW KT3.out.lt, HC3.out.1.below hW, HC3.out.2.below hW, HP.out.below u⟩)
            clear hw3 hT13 U3 KT3 HC3 U8 HKL HP FB x0 x1 x2 x3
            have A3 := FA.out w3 (Below.refl _ _)
            obtain ⟨y0, y1, _⟩ := blk2 A3.2.2.2.2.1
            obtain ⟨x0, x1, x2, x3⟩ := FRk.out _ A3.1
            clear A3
            go_upto_region 24 with (go_at_call 35; (with_reducible refine (KSU.out _ _ _ (FRb.out _ (FA.out w3 (Below.refl _ _)).1) (FA.out w3 (Below.refl _ _)).2.2.2.2.2.1 (FA.out w3 (Below.refl _ _)).2.2.2.2.2.2.1).mono ?_); rintro e w4 ⟨os, cs, ox, cx, rfl, h1, h2, hb⟩; have U4 := Lib.hid (And.intro h1 (And.intro h2 hb)); clear h1 h2 hb)
            obtain ⟨v4, hv4⟩ : ∃ v, v = w4.alloc (.cells #[.slice os S1.length cs, .slice ox D1.length cx] 26) := ⟨_, rfl⟩
            obtain ⟨T14, hT14⟩ : ∃ v, v = w4.heap.size := ⟨_, rfl⟩
            rw [← hv4, ← hT14]
            have BX4 : Hid (Below w3.heap.size w3 v4) := Lib.hid (by rw [hv4]; exact U4.out.2.2.alloc U4.out.2.2.size _)
            have KX4 : Hid (Blk v4 T14 26 #[.slice os S1.length cs, .slice ox D1.length cx]) := Lib.hid (by rw [hv4, hT14]; exact Blk.new _ _ _)
            have HT14 : Hid (w3.heap.size ≤ T14) := Lib.hid (by rw [hT14]; exact U4.out.2.2.size)
            have KI1 := Lib.hid (is8_any w3.heap.size (.slice os S1.length cs) (.slice ox D1.length cx) (.slice oa1 na1 ca1) (.slice ob1 nb1 cb1) S1 D1 (1 : Int) v4 (by rw [hv4]; exact U4.out.1.alloc _) (by rw [hv4]; exact U4.out.2.1.alloc _) BX4.out.size HLN.out.1.1 HLN.out.1.2 ⟨_, _, _, rfl⟩ ⟨_, _, _, rfl⟩ (FA.out v4 BX4.out).2.1.2 HNO.out.1)
            clear hv4 hT14 U4 y0 y1 x0 x1 x2 x3
            obtain ⟨z0, z1, _⟩ := blk2 KX4.out
            obtain ⟨u0, u1, _⟩ := blk2 (FA.out v4 BX4.out).2.1.1
            go_upto_region 26 with (go_at_call 17; (with_reducible refine KI1.out.mono ?_); rintro e w6 ⟨rfl, hb, hk⟩; have BX6 := Lib.hid (BX4.out.trans hb); have KX6 := Lib.hid (hk _ _ KX4.out); clear hb hk)
            clear z0 z1 u0 u1 KI1 BX4 KX4
            have A6 := FA.out w6 BX6.out
            obtain ⟨y0, y1, _⟩ := blk2 A6.2.2.2.2.1
            obtain ⟨x0, x1, x2, x3⟩ := FRk.out _ A6.1
            clear A6
            go_upto_region 27 with (go_at_call 23; (with_reducible refine (KME.out _ _ _ (FRb.out _ (FA.out w6 BX6.out).1) (FA.out w6 BX6.out).2.2.2.2.2.1 (FA.out w6 BX6.out).2.2.2.2.2.2.1).mono ?_); rintro e w7 ⟨os7, cs7, ox7, cx7, rfl, h1, h2, hb⟩; have U7 := Lib.hid (And.intro h1 (And.intro h2 hb)); have KX7 := Lib.hid (KX6.out.below hb KX6.out.lt); obtain ⟨z0, z1, zf0, zf1⟩ := blk2 KX7.out; clear h1 h2 hb)
            obtain ⟨v7, hv⟩ : ∃ v, v = ((w7.setCell ⟨T14, 0, none⟩ (.slice os7 S2.length cs7)).setCell ⟨T14, 1, none⟩ (.slice ox7 D2.length cx7)) := ⟨_, rfl⟩
            rw [← hv]
            have BXv7 : Hid (Below w3.heap.size w3 v7) := Lib.hid (by rw [hv]; exact below_put2 (BX6.out.trans (U7.out.2.2.mono BX6.out.size)) HT14.out _ _)
            have KXv7 : Hid (Blk v7 T14 26 #[.slice os7 S2.length cs7, .slice ox7 D2.length cx7]) := Lib.hid (by rw [hv]; exact (KX7.out.set_ 0 _).set_ 1 _)
            have RO7 : Hid (v7.ownsRow w3.heap.size 3 1 (.slice os7 S2.length cs7) S2.length (ints S2) ∧ v7.ownsRow w3.heap.size 2 1 (.slice ox7 D2.length cx7) D2.length (ints D2)) := Lib.hid (by rw [hv]; exact ⟨own_put9 (own_base U7.out.1 BX6.out.size) KX7.out (by decide), own_put9 (own_base U7.out.2.1 BX6.out.size) KX7.out (by decide)⟩)
            have KI2 := Lib.hid (is8_any w3.heap.size (.slice os7 S2.length cs7) (.slice ox7 D2.length cx7) (.slice oa2 na2 ca2) (.slice ob2 nb2 cb2) S2 D2 (1 : Int) v7 RO7.out.1 RO7.out.2 BXv7.out.size HLN.out.2.1.1 HLN.out.2.1.2 ⟨_, _, _, rfl⟩ ⟨_, _, _, rfl⟩ (FA.out v7 BXv7.out).2.2.1.2 HNO.out.2.1)
            clear hv U7 KX7 z0 z1 zf0 zf1 y0 y1 x0 x1 x2 x3 RO7 BX6 KX6
            obtain ⟨z0, z1, _⟩ := blk2 KXv7.out
            obtain ⟨u0, u1, _⟩ := blk2 (FA.out v7 BXv7.out).2.2.1.1
            go_upto_region 29 with (go_at_call 17; (with_reducible refine KI2.out.mono ?_); rintro e w9 ⟨rfl, hb, hk⟩; have BX9 := Lib.hid (BXv7.out.trans hb); have KX9 := Lib.hid (hk _ _ KXv7.out); clear hb hk)
            clear z0 z1 u0 u1 KI2 BXv7 KXv7
            have A9 := FA.out w9 BX9.out
            obtain ⟨y0, y1, _⟩ := blk2 A9.2.2.2.2.1
            obtain ⟨x0, x1, x2, x3⟩ := FRk.out _ A9.1
            clear A9
            go_upto_region 30 with (go_at_call 22; (with_reducible refine (KMX.out _ _ _ (FRb.out _ (FA.out w9 BX9.out).1) (FA.out w9 BX9.out).2.2.2.2.2.1 (FA.out w9 BX9.out).2.2.2.2.2.2.1).mono ?_); rintro e w10 ⟨os10, cs10, ox10, cx10, op10, cp10, rfl, h1, h2, h3, hb⟩; have U10 := Lib.hid (And.intro h1 (And.intro h2 hb)); have PK := Lib.hid h3; clear h3; have KX10 := Lib.hid (KX9.out.below hb KX9.out.lt); obtain ⟨z0, z1, zf0, zf1⟩ := blk2 KX10.out; clear h1 h2 hb)
            obtain ⟨v10, hv⟩ : ∃ v, v = ((w10.setCell ⟨T14, 0, none⟩ (.slice os10 S3.length cs10)).setCell ⟨T14, 1, none⟩ (.slice ox10 L3.length cx10)) := ⟨_, rfl⟩
            rw [← hv]
            have BXv10 : Hid (Below w3.heap.size w3 v10) := Lib.hid (by rw [hv]; exact below_put2 (BX9.out.trans (U10.out.2.2.mono BX9.out.size)) HT14.out _ _)
            have KXv10 : Hid (Blk v10 T14 26 #[.slice os10 S3.length cs10, .slice ox10 L3.length cx10]) := Lib.hid (by rw [hv]; exact (KX10.out.set_ 0 _).set_ 1 _)
            have RO10 : Hid (v10.ownsRow w3.heap.size 3 1 (.slice os10 S3.length cs10) S3.length (ints S3) ∧ v10.ownsRow w3.heap.size 2 1 (.slice ox10 L3.length cx10) L3.length (ints L3)) := Lib.hid (by rw [hv]; exact ⟨own_put9 (own_base U10.out.1 BX9.out.size) KX10.out (by decide), own_put9 (own_base U10.out.2.1 BX9.out.size) KX10.out (by decide)⟩)
            have PKv : Hid (Ld v10 (.slice op10 P3.length cp10) P3) := Lib.hid (by rw [hv]; exact ldg2 KX10.out PK.out)
            have KEN : Hid (Calls Tryz.prog 16 #[.slice op10 P3.length cp10, .slice none 0 0] v10 fun e w' => e = .returned (.bool true) ∧ Below v10.heap.size v10 w') := Lib.hid (by
              have := eqn_any _ _ P3 P3 v10 PKv.out (FA.out v10 BXv10.out).2.2.2.2.2.2.2 (by have := HLN.out.2.2.2; omega) (by have := HLN.out.2.2.2; omega)
              rwa [show decide (P3 = P3) = true by simp] at this)
            have KI3 := Lib.hid (fun (W : World) (hW : Below v10.heap.size v10 W) => is8_any w3.heap.size (.slice os10 S3.length cs10) (.slice ox10 L3.length cx10) (.slice oa3 na3 ca3) (.slice ob3 nb3 cb3) S3 L3 (1 : Int) W (Below.keepOwn RO10.out.1 hW (Nat.le_refl _)) (Below.keepOwn RO10.out.2 hW (Nat.le_refl _)) (Nat.le_trans BXv10.out.size hW.size) HLN.out.2.2.1.1 HLN.out.2.2.1.2 ⟨_, _, _, rfl⟩ ⟨_, _, _, rfl⟩ (FA.out W (BXv10.out.trans (hW.mono BXv10.out.size))).2.2.2.1.2 HNO.out.2.2)
            have KET := Lib.hid (fun (W : World) (hW : Below w3.heap.size w3 W) => eqtensor_same _ _ _ _ sh ds W (FA.out W hW).2.2.2.2.2.1 (FA.out W hW).2.2.2.2.2.2.1 (HL.out.1.below (FRb.out _ (FA.out W hW).1)) (HL.out.2.1.below (FRb.out _ (FA.out W hW).1)) (by omega) (by omega))
            clear hv U10 KX10 z0 z1 zf0 zf1 y0 y1 x0 x1 x2 x3 BX9 KX9 PK
            go_wp2_with (first
              | (go_at_call 16; (with_reducible refine KEN.out.mono ?_); rintro e w11 ⟨rfl, hb⟩; have B11 := Lib.hid hb; have BX11 := Lib.hid (BXv10.out.trans (hb.mono BXv10.out.size)); obtain ⟨z0, z1, _⟩ := blk2 (KXv10.out.below hb KXv10.out.lt); obtain ⟨u0, u1, _⟩ := blk2 (FA.out w11 BX11.out).2.2.2.1.1; clear hb)
              | (go_at_call 17; (with_reducible refine (KI3.out _ B11.out).mono ?_); rintro e w12 ⟨rfl, hb, _⟩; have BX12 := Lib.hid (BX11.out.trans hb); obtain ⟨y0, y1, _⟩ := blk2 (FA.out w12 BX12.out).2.2.2.2.1; obtain ⟨x0, x1, x2, x3⟩ := FRk.out _ (FA.out w12 BX12.out).1; clear hb)
              | (go_at_call 19; (with_reducible refine (KET.out _ BX12.out).mono ?_); rintro e w13 ⟨rfl, hb⟩; have F13 := Lib.hid (FRn.out _ _ (FA.out w12 BX12.out).1 hb); clear hb))
            exact ⟨⟨k + 1, by omega, by go_num, hB.trans ((FRb.out _ F13.out).mono hBs)⟩, by simp [intOf]; omega⟩
          | true =>
            rw [tn] at KMA
            go_upto_region 13 with (first | (go_at_call 31; (with_reducible refine (LG.out _ (K0.out _)).mono ?_); rintro e w2 ⟨rfl, hb2⟩; have F2 := Lib.hid (FRs.out _ hb2); obtain ⟨x0, x1, x2, x3⟩ := FRk.out _ F2.out; clear hb2) | (go_at_call 9; (with_reducible refine (KMA.out _ (FRb.out _ F2.out)).mono ?_); rintro e w4 ⟨rfl, hb4⟩; have F4 := Lib.hid (FRn.out _ _ F2.out hb4); obtain ⟨x0, x1, x2, x3⟩ := FRk.out _ F4.out; clear hb4))
            obtain ⟨w5, hw5⟩ : ∃ v, v = ((w4.alloc (.cells #[.slice none 0 0, .slice none 0 0] 26)).alloc (.cells #[.slice none 0 0, .slice none 0 0] 26)).alloc (.cells #[.slice none 0 0, .slice none 0 0] 26) := ⟨_, rfl⟩
            obtain ⟨T9, hT9⟩ : ∃ v, v = w4.heap.size := ⟨_, rfl⟩
            rw [← hw5, ← hT9]
            have F5 : Hid (FR w5) := Lib.hid (by rw [hw5]; exact FRn.out _ _ (FRn.out _ _ (FRn.out _ _ F4.out (al_below _)) (al_below _)) (al_below _))
            have K9 : Hid (Blk w5 T9 26 #[.slice none 0 0, .slice none 0 0]) := Lib.hid (by rw [hw5, hT9]; exact ((Blk.new _ _ _).alloc _).alloc _)
            have K10 : Hid (Blk w5 (T9 + 1) 26 #[.slice none 0 0, .slice none 0 0]) := Lib.hid (by rw [hw5, hT9]; exact (blk_new1 w4 _ _ _).alloc _)
            have K11 : Hid (Blk w5 (T9 + 1 + 1) 26 #[.slice none 0 0, .slice none 0 0]) := Lib.hid (by
              rw [hw5, hT9]
              have q := Blk.new ((w4.alloc (.cells #[.slice none 0 0, .slice none 0 0] 26)).alloc (.cells #[.slice none 0 0, .slice none 0 0] 26)) 26 #[.slice none 0 0, .slice none 0 0]
              rwa [World.size_alloc, World.size_alloc] at q)
            have HTB : Hid (w1.heap.size + 1 ≤ T9) := Lib.hid (by rw [hT9]; exact FRl.out _ F4.out)
            clear hw5 hT9 x0 x1 x2 x3
            have TN := Lib.hid tn
            clear tn
            obtain ⟨x0, x1, x2, x3⟩ := FRk.out _ F5.out
            go_upto_if 56 with (go_at_call 32; (with_reducible refine (KRX.out _ (FRb.out _ F5.out)).mono ?_); rintro e w6 ⟨rfl, hb⟩; have F6 := Lib.hid (FRn.out _ _ F5.out hb); have B6 := Lib.hid hb; clear hb)
            go_cut [6, 7] (fun s6 s7 wx => s6 = .int .i64 E1 ∧ s7 = .int .i64 E2 ∧ Hid (SBX wx T9 E1 S1 D1) ∧ Hid (SBX wx (T9 + 1) E2 S2 D2) ∧ Hid (Blk wx (T9 + 1 + 1) 26 #[.slice none 0 0, .slice none 0 0]) ∧ Hid (Below T9 w5 wx))
            case first =>
              as_aux_lemma =>
              clear x0 x1 x2 x3
              cases AX with
              | false =>
                have e1 : E1 = 2 := by rw [HEQ.out.1.1]; unfold sE; rw [TN.out, ← HAX.out]; rfl
                have e2 : E2 = 2 := by rw [HEQ.out.2.1.1]; unfold sE; rw [TN.out, ← HAX.out]; rfl
                have HEE := Lib.hid (And.intro e1 e2)
                clear e1 e2
                go_wp2
                go_meet
                exact ⟨by rw [HEE.out.1], by rw [HEE.out.2], Lib.hid (SBX.zero (K9.out.below B6.out K9.out.lt) (by rw [HEE.out.1]; decide)), Lib.hid (SBX.zero (K10.out.below B6.out K10.out.lt) (by rw [HEE.out.2]; decide)), Lib.hid (K11.out.below B6.out K11.out.lt), Lib.hid (B6.out.mono (Nat.le_of_lt K9.out.lt))⟩
              | true =>
                replace KR1 := Lib.hid (KR1.out TN.out HAX.out.symm)
                replace KR2 := Lib.hid (KR2.out TN.out HAX.out.symm)
                obtain ⟨x0, x1, x2, x3⟩ := FRk.out _ F6.out
                go_upto_region 18 with (go_at_call 33; (with_reducible refine (KR1.out _ (FRb.out _ F6.out)).mono ?_); rintro e w7 ⟨os1, cs1, od1, cd1, rfl, h1, h2, hb⟩; have U7 := Lib.hid (And.intro h1 (And.intro h2 hb)); have K97 := Lib.hid ((K9.out.below B6.out K9.out.lt).below hb (K9.out.below B6.out K9.out.lt).lt); obtain ⟨p0, p1, pf0, pf1⟩ := blk2 K97.out; clear h1 h2 hb)
                obtain ⟨v7, hv⟩ : ∃ v, v = ((w7.setCell ⟨T9, 0, none⟩ (.slice os1 S1.length cs1)).setCell ⟨T9, 1, none⟩ (.slice od1 D1.length cd1)) := ⟨_, rfl⟩
                rw [← hv]
                have F7 : Hid (FR v7) := Lib.hid (by rw [hv]; exact FRm.out _ _ (FRn.out _ _ F6.out U7.out.2.2) (below_put2 (Below.refl _ _) HTB.out _ _))
                have SB7 : Hid (SBX v7 T9 E1 S1 D1) := Lib.hid (by rw [hv]; exact SBX.put K97.out U7.out.1 U7.out.2.1)
                have K107 : Hid (Blk v7 (T9 + 1) 26 #[.slice none 0 0, .slice none 0 0]) := Lib.hid (by rw [hv]; exact blk_put2 ((K10.out.below B6.out K10.out.lt).below U7.out.2.2 (K10.out.below B6.out K10.out.lt).lt) (Nat.succ_ne_self _) _ _)
                have K117 : Hid (Blk v7 (T9 + 1 + 1) 26 #[.slice none 0 0, .slice none 0 0]) := Lib.hid (by rw [hv]; exact blk_put2 ((K11.out.below B6.out K11.out.lt).below U7.out.2.2 (K11.out.below B6.out K11.out.lt).lt) (by omega) _ _)
                have BB7 : Hid (Below T9 w5 v7) := Lib.hid (by rw [hv]; exact below_put2 ((B6.out.trans (U7.out.2.2.mono B6.out.size)).mono (Nat.le_of_lt K9.out.lt)) (Nat.le_refl _) _ _)
                clear hv U7 K97 p0 p1 pf0 pf1 x0 x1 x2 x3 K9 K10 K11 F6
                obtain ⟨x0, x1, x2, x3⟩ := FRk.out _ F7.out
                go_wp2_with (go_at_call 33; (with_reducible refine (KR2.out _ (FRb.out _ F7.out)).mono ?_); rintro e w8 ⟨os2, cs2, od2, cd2, rfl, h1, h2, hb⟩; have U8 := Lib.hid (And.intro h1 (And.intro h2 hb)); have K108 := Lib.hid (K107.out.below hb K107.out.lt); obtain ⟨p0, p1, pf0, pf1⟩ := blk2 K108.out; clear h1 h2 hb)
                go_meet
                exact ⟨rfl, rfl, Lib.hid (SBX.far (SB7.out.below U8.out.2.2) K108.out (by omega) _ _), Lib.hid (SBX.put K108.out U8.out.1 U8.out.2.1), Lib.hid (blk_put2 (K117.out.below U8.out.2.2 K117.out.lt) (by omega) _ _), Lib.hid (below_put2 (BB7.out.trans (U8.out.2.2.mono (by have := BB7.out.size; have := K107.out.lt; omega))) (Nat.le_succ _) _ _)⟩
            case rest =>
              clear x0 x1 x2 x3
              obtain ⟨rfl, rfl, SB9, SB10, KC11, BB⟩ := hcut
              have FC := Lib.hid (FRm.out _ _ F5.out (BB.out.mono HTB.out))
              obtain ⟨x0, x1, x2, x3⟩ := FRk.out _ FC.out
              obtain ⟨wd, hwd⟩ : ∃ v, v = wc := ⟨_, rfl⟩
              rw [← hwd] at SB9 SB10 KC11 BB FC x0 x1 x2 x3 ⊢
              clear hwd K9 K10 K11
              by_cases q1 : a < 0
              · as_aux_lemma =>
                have e3 : E3 = 2 := by rw [HEQ.out.2.2.1]; unfold mE; rw [if_pos TN.out, if_neg (by omega)]
                have d1 : decide (a < 0) = true := decide_eq_true q1
                have p3 : P3 = [] := by rw [HEQ.out.2.2.2.2.2]; unfold mP; exact unl_no (by rw [← HEQ.out.2.2.1, e3]; decide)
                rw [e3] at KMX HNO
                have HP3 := Lib.hid p3
                clear e3 q1 p3 KRM HEQ KR1 KR2 KRX KMA
                go_upto_region 22 with fail
                have SB1 := SB9
                have SB2 := SB10
                have SB3 : Hid (SBX wd (T9 + 1 + 1) 2 S3 L3) := Lib.hid (SBX.zero KC11.out (by decide))
                have HP : Hid (Ld wd (.slice none 0 0) P3) := Lib.hid (by rw [HP3.out]; exact Ld.nil _)
                have FB := FC
                clear SB9 SB10 KC11 BB FC x0 x1 x2 x3
                obtain ⟨oa1, na1, ca1, ob1, nb1, cb1, hk1, hl1⟩ := SB1.out
                obtain ⟨oa2, na2, ca2, ob2, nb2, cb2, hk2, hl2⟩ := SB2.out
                obtain ⟨oa3, na3, ca3, ob3, nb3, cb3, hk3, hl3⟩ := SB3.out
                have HKL := Lib.hid (And.intro (And.intro hk1 hl1) (And.intro (And.intro hk2 hl2) (And.intro hk3 hl3)))
                clear hk1 hl1 hk2 hl2 hk3 hl3 SB1 SB2 SB3
                obtain ⟨x0, x1, x2, x3⟩ := FRk.out _ FB.out
                go_upto_region 23 with (go_at_call 14; (with_reducible refine (KCP.out _ (FRb.out _ FB.out)).mono ?_); rintro e w8 ⟨oc, cc, od, cd, rfl, h1, h2, hb⟩; have U8 := Lib.hid (And.intro h1 (And.intro h2 hb)); clear h1 h2 hb)
                obtain ⟨w3, hw3⟩ : ∃ v, v = w8.alloc (.cells #[.slice oc sh.length cc, .slice od ds.length cd] 26) := ⟨_, rfl⟩
                obtain ⟨T13, hT13⟩ : ∃ v, v = w8.heap.size := ⟨_, rfl⟩
                rw [← hw3, ← hT13]
                have U3 : Hid (Below wd.heap.size wd w3) := Lib.hid (by rw [hw3]; exact U8.out.2.2.trans ((al_below _).mono U8.out.2.2.size))
                have KT3 : Hid (Blk w3 T13 26 #[.slice oc sh.length cc, .slice od ds.length cd]) := Lib.hid (by rw [hw3, hT13]; exact Blk.new _ _ _)
                have HC3 : Hid (Ld w3 (.slice oc sh.length cc) sh ∧ Ld w3 (.slice od ds.length cd) ds) := Lib.hid (by rw [hw3]; exact ⟨(own_ld U8.out.1 rfl).below (al_below _), (own_ld U8.out.2.1 rfl).below (al_below _)⟩)
                have FA : Hid (∀ W, Below w3.heap.size w3 W → FR W ∧ (Blk W (T9) 26 #[.slice oa1 na1 ca1, .slice ob1 nb1 cb1] ∧ LDS W E1 (.slice oa1 na1 ca1) (.slice ob1 nb1 cb1) S1 D1) ∧ (Blk W (T9 + 1) 26 #[.slice oa2 na2 ca2, .slice ob2 nb2 cb2] ∧ LDS W E2 (.slice oa2 na2 ca2) (.slice ob2 nb2 cb2) S2 D2) ∧ (Blk W (T9 + 1 + 1) 26 #[.slice oa3 na3 ca3, .slice ob3 nb3 cb3] ∧ LDS W (2 : Int) (.slice oa3 na3 ca3) (.slice ob3 nb3 cb3) S3 L3) ∧ Blk W T13 26 #[.slice oc sh.length cc, .slice od ds.length cd] ∧ Ld W (.slice oc sh.length cc) sh ∧ Ld W (.slice od ds.length cd) ds ∧ Ld W (.slice none 0 0) P3) := Lib.hid (fun W hW => by
                  have u := U3.out.trans (hW.mono U3.out.size)
                  have q := HKL.out
                  exact ⟨FRn.out _ _ FB.out u, ⟨q.1.1.below u q.1.1.lt, q.1.2.below u⟩, ⟨q.2.1.1.below u q.2.1.1.lt, q.2.1.2.below u⟩, ⟨q.2.2.1.below u q.2.2.1.lt, q.2.2.2.below u⟩, KT3.out.below hW KT3.out.lt, HC3.out.1.below hW, HC3.out.2.below hW, HP.out.below u⟩)
                clear hw3 hT13 U3 KT3 HC3 U8 HKL HP FB x0 x1 x2 x3
                have A3 := FA.out w3 (Below.refl _ _)
                obtain ⟨y0, y1, _⟩ := blk2 A3.2.2.2.2.1
                obtain ⟨x0, x1, x2, x3⟩ := FRk.out _ A3.1
                clear A3
                go_upto_region 24 with (go_at_call 35; (with_reducible refine (KSU.out _ _ _ (FRb.out _ (FA.out w3 (Below.refl _ _)).1) (FA.out w3 (Below.refl _ _)).2.2.2.2.2.1 (FA.out w3 (Below.refl _ _)).2.2.2.2.2.2.1).mono ?_); rintro e w4 ⟨os, cs, ox, cx, rfl, h1, h2, hb⟩; have U4 := Lib.hid (And.intro h1 (And.intro h2 hb)); clear h1 h2 hb)
                obtain ⟨v4, hv4⟩ : ∃ v, v = w4.alloc (.cells #[.slice os S1.length cs, .slice ox D1.length cx] 26) := ⟨_, rfl⟩
                obtain ⟨T14, hT14⟩ : ∃ v, v = w4.heap.size := ⟨_, rfl⟩
                rw [← hv4, ← hT14]
                have BX4 : Hid (Below w3.heap.size w3 v4) := Lib.hid (by rw [hv4]; exact U4.out.2.2.alloc U4.out.2.2.size _)
                have KX4 : Hid (Blk v4 T14 26 #[.slice os S1.length cs, .slice ox D1.length cx]) := Lib.hid (by rw [hv4, hT14]; exact Blk.new _ _ _)
                have HT14 : Hid (w3.heap.size ≤ T14) := Lib.hid (by rw [hT14]; exact U4.out.2.2.size)
                have KI1 := Lib.hid (is8_any w3.heap.size (.slice os S1.length cs) (.slice ox D1.length cx) (.slice oa1 na1 ca1) (.slice ob1 nb1 cb1) S1 D1 E1 v4 (by rw [hv4]; exact U4.out.1.alloc _) (by rw [hv4]; exact U4.out.2.1.alloc _) BX4.out.size HLN.out.1.1 HLN.out.1.2 ⟨_, _, _, rfl⟩ ⟨_, _, _, rfl⟩ (FA.out v4 BX4.out).2.1.2 HNO.out.1)
                clear hv4 hT14 U4 y0 y1 x0 x1 x2 x3
                obtain ⟨z0, z1, _⟩ := blk2 KX4.out
                obtain ⟨u0, u1, _⟩ := blk2 (FA.out v4 BX4.out).2.1.1
                go_upto_region 26 with (go_at_call 17; (with_reducible refine KI1.out.mono ?_); rintro e w6 ⟨rfl, hb, hk⟩; have BX6 := Lib.hid (BX4.out.trans hb); have KX6 := Lib.hid (hk _ _ KX4.out); clear hb hk)
                clear z0 z1 u0 u1 KI1 BX4 KX4
                have A6 := FA.out w6 BX6.out
                obtain ⟨y0, y1, _⟩ := blk2 A6.2.2.2.2.1
                obtain ⟨x0, x1, x2, x3⟩ := FRk.out _ A6.1
                clear A6
                go_upto_region 27 with (go_at_call 23; (with_reducible refine (KME.out _ _ _ (FRb.out _ (FA.out w6 BX6.out).1) (FA.out w6 BX6.out).2.2.2.2.2.1 (FA.out w6 BX6.out).2.2.2.2.2.2.1).mono ?_); rintro e w7 ⟨os7, cs7, ox7, cx7, rfl, h1, h2, hb⟩; have U7 := Lib.hid (And.intro h1 (And.intro h2 hb)); have KX7 := Lib.hid (KX6.out.below hb KX6.out.lt); obtain ⟨z0, z1, zf0, zf1⟩ := blk2 KX7.out; clear h1 h2 hb)
                obtain ⟨v7, hv⟩ : ∃ v, v = ((w7.setCell ⟨T14, 0, none⟩ (.slice os7 S2.length cs7)).setCell ⟨T14, 1, none⟩ (.slice ox7 D2.length cx7)) := ⟨_, rfl⟩
                rw [← hv]
                have BXv7 : Hid (Below w3.heap.size w3 v7) := Lib.hid (by rw [hv]; exact below_put2 (BX6.out.trans (U7.out.2.2.mono BX6.out.size)) HT14.out _ _)
                have KXv7 : Hid (Blk v7 T14 26 #[.slice os7 S2.length cs7, .slice ox7 D2.length cx7]) := Lib.hid (by rw [hv]; exact (KX7.out.set_ 0 _).set_ 1 _)
                have RO7 : Hid (v7.ownsRow w3.heap.size 3 1 (.slice os7 S2.length cs7) S2.length (ints S2) ∧ v7.ownsRow w3.heap.size 2 1 (.slice ox7 D2.length cx7) D2.length (ints D2)) := Lib.hid (by rw [hv]; exact ⟨own_put9 (own_base U7.out.1 BX6.out.size) KX7.out (by decide), own_put9 (own_base U7.out.2.1 BX6.out.size) KX7.out (by decide)⟩)
                have KI2 := Lib.hid (is8_any w3.heap.size (.slice os7 S2.length cs7) (.slice ox7 D2.length cx7) (.slice oa2 na2 ca2) (.slice ob2 nb2 cb2) S2 D2 E2 v7 RO7.out.1 RO7.out.2 BXv7.out.size HLN.out.2.1.1 HLN.out.2.1.2 ⟨_, _, _, rfl⟩ ⟨_, _, _, rfl⟩ (FA.out v7 BXv7.out).2.2.1.2 HNO.out.2.1)
                clear hv U7 KX7 z0 z1 zf0 zf1 y0 y1 x0 x1 x2 x3 RO7 BX6 KX6
                obtain ⟨z0, z1, _⟩ := blk2 KXv7.out
                obtain ⟨u0, u1, _⟩ := blk2 (FA.out v7 BXv7.out).2.2.1.1
                go_upto_region 29 with (go_at_call 17; (with_reducible refine KI2.out.mono ?_); rintro e w9 ⟨rfl, hb, hk⟩; have BX9 := Lib.hid (BXv7.out.trans hb); have KX9 := Lib.hid (hk _ _ KXv7.out); clear hb hk)
                clear z0 z1 u0 u1 KI2 BXv7 KXv7
                have A9 := FA.out w9 BX9.out
                obtain ⟨y0, y1, _⟩ := blk2 A9.2.2.2.2.1
                obtain ⟨x0, x1, x2, x3⟩ := FRk.out _ A9.1
                clear A9
                go_upto_region 30 with (go_at_call 22; (with_reducible refine (KMX.out _ _ _ (FRb.out _ (FA.out w9 BX9.out).1) (FA.out w9 BX9.out).2.2.2.2.2.1 (FA.out w9 BX9.out).2.2.2.2.2.2.1).mono ?_); rintro e w10 ⟨os10, cs10, ox10, cx10, op10, cp10, rfl, h1, h2, h3, hb⟩; have U10 := Lib.hid (And.intro h1 (And.intro h2 hb)); have PK := Lib.hid h3; clear h3; have KX10 := Lib.hid (KX9.out.below hb KX9.out.lt); obtain ⟨z0, z1, zf0, zf1⟩ := blk2 KX10.out; clear h1 h2 hb)
                obtain ⟨v10, hv⟩ : ∃ v, v = ((w10.setCell ⟨T14, 0, none⟩ (.slice os10 S3.length cs10)).setCell ⟨T14, 1, none⟩ (.slice ox10 L3.length cx10)) := ⟨_, rfl⟩
                rw [← hv]
                have BXv10 : Hid (Below w3.heap.size w3 v10) := Lib.hid (by rw [hv]; exact below_put2 (BX9.out.trans (U10.out.2.2.mono BX9.out.size)) HT14.out _ _)
                have KXv10 : Hid (Blk v10 T14 26 #[.slice os10 S3.length cs10, .slice ox10 L3.length cx10]) := Lib.hid (by rw [hv]; exact (KX10.out.set_ 0 _).set_ 1 _)
                have RO10 : Hid (v10.ownsRow w3.heap.size 3 1 (.slice os10 S3.length cs10) S3.length (ints S3) ∧ v10.ownsRow w3.heap.size 2 1 (.slice ox10 L3.length cx10) L3.length (ints L3)) := Lib.hid (by rw [hv]; exact ⟨own_put9 (own_base U10.out.1 BX9.out.size) KX10.out (by decide), own_put9 (own_base U10.out.2.1 BX9.out.size) KX10.out (by decide)⟩)
                have PKv : Hid (Ld v10 (.slice op10 P3.length cp10) P3) := Lib.hid (by rw [hv]; exact ldg2 KX10.out PK.out)
                have KEN : Hid (Calls Tryz.prog 16 #[.slice op10 P3.length cp10, .slice none 0 0] v10 fun e w' => e = .returned (.bool true) ∧ Below v10.heap.size v10 w') := Lib.hid (by
                  have := eqn_any _ _ P3 P3 v10 PKv.out (FA.out v10 BXv10.out).2.2.2.2.2.2.2 (by have := HLN.out.2.2.2; omega) (by have := HLN.out.2.2.2; omega)
                  rwa [show decide (P3 = P3) = true by simp] at this)
                have KI3 := Lib.hid (fun (W : World) (hW : Below v10.heap.size v10 W) => is8_any w3.heap.size (.slice os10 S3.length cs10) (.slice ox10 L3.length cx10) (.slice oa3 na3 ca3) (.slice ob3 nb3 cb3) S3 L3 (2 : Int) W (Below.keepOwn RO10.out.1 hW (Nat.le_refl _)) (Below.keepOwn RO10.out.2 hW (Nat.le_refl _)) (Nat.le_trans BXv10.out.size hW.size) HLN.out.2.2.1.1 HLN.out.2.2.1.2 ⟨_, _, _, rfl⟩ ⟨_, _, _, rfl⟩ (FA.out W (BXv10.out.trans (hW.mono BXv10.out.size))).2.2.2.1.2 HNO.out.2.2)
                have KET := Lib.hid (fun (W : World) (hW : Below w3.heap.size w3 W) => eqtensor_same _ _ _ _ sh ds W (FA.out W hW).2.2.2.2.2.1 (FA.out W hW).2.2.2.2.2.2.1 (HL.out.1.below (FRb.out _ (FA.out W hW).1)) (HL.out.2.1.below (FRb.out _ (FA.out W hW).1)) (by omega) (by omega))
                clear hv U10 KX10 z0 z1 zf0 zf1 y0 y1 x0 x1 x2 x3 BX9 KX9 PK
                go_wp2_with (first
                  | (go_at_call 16; (with_reducible refine KEN.out.mono ?_); rintro e w11 ⟨rfl, hb⟩; have B11 := Lib.hid hb; have BX11 := Lib.hid (BXv10.out.trans (hb.mono BXv10.out.size)); obtain ⟨z0, z1, _⟩ := blk2 (KXv10.out.below hb KXv10.out.lt); obtain ⟨u0, u1, _⟩ := blk2 (FA.out w11 BX11.out).2.2.2.1.1; clear hb)
                  | (go_at_call 17; (with_reducible refine (KI3.out _ B11.out).mono ?_); rintro e w12 ⟨rfl, hb, _⟩; have BX12 := Lib.hid (BX11.out.trans hb); obtain ⟨y0, y1, _⟩ := blk2 (FA.out w12 BX12.out).2.2.2.2.1; obtain ⟨x0, x1, x2, x3⟩ := FRk.out _ (FA.out w12 BX12.out).1; clear hb)
                  | (go_at_call 19; (with_reducible refine (KET.out _ BX12.out).mono ?_); rintro e w13 ⟨rfl, hb⟩; have F13 := Lib.hid (FRn.out _ _ (FA.out w12 BX12.out).1 hb); clear hb))
                exact ⟨⟨k + 1, by omega, by go_num, hB.trans ((FRb.out _ F13.out).mono hBs)⟩, by simp [intOf]; omega⟩
              · have d1 : decide (a < 0) = false := decide_eq_false q1
                by_cases q2 : (sh.length : Int) ≤ a
                · as_aux_lemma =>
                  have e3 : E3 = 2 := by rw [HEQ.out.2.2.1]; unfold mE; rw [if_pos TN.out, if_neg (by omega)]
                  have d2 : decide ((sh.length : Int) ≤ a) = true := decide_eq_true q2
                  clear q2
                  have p3 : P3 = [] := by rw [HEQ.out.2.2.2.2.2]; unfold mP; exact unl_no (by rw [← HEQ.out.2.2.1, e3]; decide)
                  rw [e3] at KMX HNO
                  have HP3 := Lib.hid p3
                  clear e3 q1 p3 KRM HEQ KR1 KR2 KRX KMA
                  go_upto_region 22 with fail
                  have SB1 := SB9
                  have SB2 := SB10
                  have SB3 : Hid (SBX wd (T9 + 1 + 1) 2 S3 L3) := Lib.hid (SBX.zero KC11.out (by decide))
                  have HP : Hid (Ld wd (.slice none 0 0) P3) := Lib.hid (by rw [HP3.out]; exact Ld.nil _)
                  have FB := FC
                  clear SB9 SB10 KC11 BB FC x0 x1 x2 x3
                  obtain ⟨oa1, na1, ca1, ob1, nb1, cb1, hk1, hl1⟩ := SB1.out
                  obtain ⟨oa2, na2, ca2, ob2, nb2, cb2, hk2, hl2⟩ := SB2.out
                  obtain ⟨oa3, na3, ca3, ob3, nb3, cb3, hk3, hl3⟩ := SB3.out
                  have HKL := Lib.hid (And.intro (And.intro hk1 hl1) (And.intro (And.intro hk2 hl2) (And.intro hk3 hl3)))
                  clear hk1 hl1 hk2 hl2 hk3 hl3 SB1 SB2 SB3
                  obtain ⟨x0, x1, x2, x3⟩ := FRk.out _ FB.out
                  go_upto_region 23 with (go_at_call 14; (with_reducible refine (KCP.out _ (FRb.out _ FB.out)).mono ?_); rintro e w8 ⟨oc, cc, od, cd, rfl, h1, h2, hb⟩; have U8 := Lib.hid (And.intro h1 (And.intro h2 hb)); clear h1 h2 hb)
                  obtain ⟨w3, hw3⟩ : ∃ v, v = w8.alloc (.cells #[.slice oc sh.length cc, .slice od ds.length cd] 26) := ⟨_, rfl⟩
                  obtain ⟨T13, hT13⟩ : ∃ v, v = w8.heap.size := ⟨_, rfl⟩
                  rw [← hw3, ← hT13]
                  have U3 : Hid (Below wd.heap.size wd w3) := Lib.hid (by rw [hw3]; exact U8.out.2.2.trans ((al_below _).mono U8.out.2.2.size))
                  have KT3 : Hid (Blk w3 T13 26 #[.slice oc sh.length cc, .slice od ds.length cd]) := Lib.hid (by rw [hw3, hT13]; exact Blk.new _ _ _)
                  have HC3 : Hid (Ld w3 (.slice oc sh.length cc) sh ∧ Ld w3 (.slice od ds.length cd) ds) := Lib.hid (by rw [hw3]; exact ⟨(own_ld U8.out.1 rfl).below (al_below _), (own_ld U8.out.2.1 rfl).below (al_below _)⟩)
                  have FA : Hid (∀ W, Below w3.heap.size w3 W → FR W ∧ (Blk W (T9) 26 #[.slice oa1 na1 ca1, .slice ob1 nb1 cb1] ∧ LDS W E1 (.slice oa1 na1 ca1) (.slice ob1 nb1 cb1) S1 D1) ∧ (Blk W (T9 + 1) 26 #[.slice oa2 na2 ca2, .slice ob2 nb2 cb2] ∧ LDS W E2 (.slice oa2 na2 ca2) (.slice ob2 nb2 cb2) S2 D2) ∧ (Blk W (T9 + 1 + 1) 26 #[.slice oa3 na3 ca3, .slice ob3 nb3 cb3] ∧ LDS W (2 : Int) (.slice oa3 na3 ca3) (.slice ob3 nb3 cb3) S3 L3) ∧ Blk W T13 26 #[.slice oc sh.length cc, .slice od ds.length cd] ∧ Ld W (.slice oc sh.length cc) sh ∧ Ld W (.slice od ds.length cd) ds ∧ Ld W (.slice none 0 0) P3) := Lib.hid (fun W hW => by
                    have u := U3.out.trans (hW.mono U3.out.size)
                    have q := HKL.out
                    exact ⟨FRn.out _ _ FB.out u, ⟨q.1.1.below u q.1.1.lt, q.1.2.below u⟩, ⟨q.2.1.1.below u q.2.1.1.lt, q.2.1.2.below u⟩, ⟨q.2.2.1.below u q.2.2.1.lt, q.2.2.2.below u⟩, KT3.out.below hW KT3.out.lt, HC3.out.1.below hW, HC3.out.2.below hW, HP.out.below u⟩)
                  clear hw3 hT13 U3 KT3 HC3 U8 HKL HP FB x0 x1 x2 x3
                  have A3 := FA.out w3 (Below.refl _ _)
                  obtain ⟨y0, y1, _⟩ := blk2 A3.2.2.2.2.1
                  obtain ⟨x0, x1, x2, x3⟩ := FRk.out _ A3.1
                  clear A3
                  go_upto_region 24 with (go_at_call 35; (with_reducible refine (KSU.out _ _ _ (FRb.out _ (FA.out w3 (Below.refl _ _)).1) (FA.out w3 (Below.refl _ _)).2.2.2.2.2.1 (FA.out w3 (Below.refl _ _)).2.2.2.2.2.2.1).mono ?_); rintro e w4 ⟨os, cs, ox, cx, rfl, h1, h2, hb⟩; have U4 := Lib.hid (And.intro h1 (And.intro h2 hb)); clear h1 h2 hb)
                  obtain ⟨v4, hv4⟩ : ∃ v, v = w4.alloc (.cells #[.slice os S1.length cs, .slice ox D1.length cx] 26) := ⟨_, rfl⟩
                  obtain ⟨T14, hT14⟩ : ∃ v, v = w4.heap.size := ⟨_, rfl⟩
                  rw [← hv4, ← hT14]
                  have BX4 : Hid (Below w3.heap.size w3 v4) := Lib.hid (by rw [hv4]; exact U4.out.2.2.alloc U4.out.2.2.size _)
                  have KX4 : Hid (Blk v4 T14 26 #[.slice os S1.length cs, .slice ox D1.length cx]) := Lib.hid (by rw [hv4, hT14]; exact Blk.new _ _ _)
                  have HT14 : Hid (w3.heap.size ≤ T14) := Lib.hid (by rw [hT14]; exact U4.out.2.2.size)
                  have KI1 := Lib.hid (is8_any w3.heap.size (.slice os S1.length cs) (.slice ox D1.length cx) (.slice oa1 na1 ca1) (.slice ob1 nb1 cb1) S1 D1 E1 v4 (by rw [hv4]; exact U4.out.1.alloc _) (by rw [hv4]; exact U4.out.2.1.alloc _) BX4.out.size HLN.out.1.1 HLN.out.1.2 ⟨_, _, _, rfl⟩ ⟨_, _, _, rfl⟩ (FA.out v4 BX4.out).2.1.2 HNO.out.1)
                  clear hv4 hT14 U4 y0 y1 x0 x1 x2 x3
                  obtain ⟨z0, z1, _⟩ := blk2 KX4.out
                  obtain ⟨u0, u1, _⟩ := blk2 (FA.out v4 BX4.out).2.1.1
                  go_upto_region 26 with (go_at_call 17; (with_reducible refine KI1.out.mono ?_); rintro e w6 ⟨rfl, hb, hk⟩; have BX6 := Lib.hid (BX4.out.trans hb); have KX6 := Lib.hid (hk _ _ KX4.out); clear hb hk)
                  clear z0 z1 u0 u1 KI1 BX4 KX4
                  have A6 := FA.out w6 BX6.out
                  obtain ⟨y0, y1, _⟩ := blk2 A6.2.2.2.2.1
                  obtain ⟨x0, x1, x2, x3⟩ := FRk.out _ A6.1
                  clear A6
                  go_upto_region 27 with (go_at_call 23; (with_reducible refine (KME.out _ _ _ (FRb.out _ (FA.out w6 BX6.out).1) (FA.out w6 BX6.out).2.2.2.2.2.1 (FA.out w6 BX6.out).2.2.2.2.2.2.1).mono ?_); rintro e w7 ⟨os7, cs7, ox7, cx7, rfl, h1, h2, hb⟩; have U7 := Lib.hid (And.intro h1 (And.intro h2 hb)); have KX7 := Lib.hid (KX6.out.below hb KX6.out.lt); obtain ⟨z0, z1, zf0, zf1⟩ := blk2 KX7.out; clear h1 h2 hb)
                  obtain ⟨v7, hv⟩ : ∃ v, v = ((w7.setCell ⟨T14, 0, none⟩ (.slice os7 S2.length cs7)).setCell ⟨T14, 1, none⟩ (.slice ox7 D2.length cx7)) := ⟨_, rfl⟩
                  rw [← hv]
                  have BXv7 : Hid (Below w3.heap.size w3 v7) := Lib.hid (by rw [hv]; exact below_put2 (BX6.out.trans (U7.out.2.2.mono BX6.out.size)) HT14.out _ _)
                  have KXv7 : Hid (Blk v7 T14 26 #[.slice os7 S2.length cs7, .slice ox7 D2.length cx7]) := Lib.hid (by rw [hv]; exact (KX7.out.set_ 0 _).set_ 1 _)
                  have RO7 : Hid (v7.ownsRow w3.heap.size 3 1 (.slice os7 S2.length cs7) S2.length (ints S2) ∧ v7.ownsRow w3.heap.size 2 1 (.slice ox7 D2.length cx7) D2.length (ints D2)) := Lib.hid (by rw [hv]; exact ⟨own_put9 (own_base U7.out.1 BX6.out.size) KX7.out (by decide), own_put9 (own_base U7.out.2.1 BX6.out.size) KX7.out (by decide)⟩)
                  have KI2 := Lib.hid (is8_any w3.heap.size (.slice os7 S2.length cs7) (.slice ox7 D2.length cx7) (.slice oa2 na2 ca2) (.slice ob2 nb2 cb2) S2 D2 E2 v7 RO7.out.1 RO7.out.2 BXv7.out.size HLN.out.2.1.1 HLN.out.2.1.2 ⟨_, _, _, rfl⟩ ⟨_, _, _, rfl⟩ (FA.out v7 BXv7.out).2.2.1.2 HNO.out.2.1)
                  clear hv U7 KX7 z0 z1 zf0 zf1 y0 y1 x0 x1 x2 x3 RO7 BX6 KX6
                  obtain ⟨z0, z1, _⟩ := blk2 KXv7.out
                  obtain ⟨u0, u1, _⟩ := blk2 (FA.out v7 BXv7.out).2.2.1.1
                  go_upto_region 29 with (go_at_call 17; (with_reducible refine KI2.out.mono ?_); rintro e w9 ⟨rfl, hb, hk⟩; have BX9 := Lib.hid (BXv7.out.trans hb); have KX9 := Lib.hid (hk _ _ KXv7.out); clear hb hk)
                  clear z0 z1 u0 u1 KI2 BXv7 KXv7
                  have A9 := FA.out w9 BX9.out
                  obtain ⟨y0, y1, _⟩ := blk2 A9.2.2.2.2.1
                  obtain ⟨x0, x1, x2, x3⟩ := FRk.out _ A9.1
                  clear A9
                  go_upto_region 30 with (go_at_call 22; (with_reducible refine (KMX.out _ _ _ (FRb.out _ (FA.out w9 BX9.out).1) (FA.out w9 BX9.out).2.2.2.2.2.1 (FA.out w9 BX9.out).2.2.2.2.2.2.1).mono ?_); rintro e w10 ⟨os10, cs10, ox10, cx10, op10, cp10, rfl, h1, h2, h3, hb⟩; have U10 := Lib.hid (And.intro h1 (And.intro h2 hb)); have PK := Lib.hid h3; clear h3; have KX10 := Lib.hid (KX9.out.below hb KX9.out.lt); obtain ⟨z0, z1, zf0, zf1⟩ := blk2 KX10.out; clear h1 h2 hb)
                  obtain ⟨v10, hv⟩ : ∃ v, v = ((w10.setCell ⟨T14, 0, none⟩ (.slice os10 S3.length cs10)).setCell ⟨T14, 1, none⟩ (.slice ox10 L3.length cx10)) := ⟨_, rfl⟩
                  rw [← hv]
                  have BXv10 : Hid (Below w3.heap.size w3 v10) := Lib.hid (by rw [hv]; exact below_put2 (BX9.out.trans (U10.out.2.2.mono BX9.out.size)) HT14.out _ _)
                  have KXv10 : Hid (Blk v10 T14 26 #[.slice os10 S3.length cs10, .slice ox10 L3.length cx10]) := Lib.hid (by rw [hv]; exact (KX10.out.set_ 0 _).set_ 1 _)
                  have RO10 : Hid (v10.ownsRow w3.heap.size 3 1 (.slice os10 S3.length cs10) S3.length (ints S3) ∧ v10.ownsRow w3.heap.size 2 1 (.slice ox10 L3.length cx10) L3.length (ints L3)) := Lib.hid (by rw [hv]; exact ⟨own_put9 (own_base U10.out.1 BX9.out.size) KX10.out (by decide), own_put9 (own_base U10.out.2.1 BX9.out.size) KX10.out (by decide)⟩)
                  have PKv : Hid (Ld v10 (.slice op10 P3.length cp10) P3) := Lib.hid (by rw [hv]; exact ldg2 KX10.out PK.out)
                  have KEN : Hid (Calls Tryz.prog 16 #[.slice op10 P3.length cp10, .slice none 0 0] v10 fun e w' => e = .returned (.bool true) ∧ Below v10.heap.size v10 w') := Lib.hid (by
                    have := eqn_any _ _ P3 P3 v10 PKv.out (FA.out v10 BXv10.out).2.2.2.2.2.2.2 (by have := HLN.out.2.2.2; omega) (by have := HLN.out.2.2.2; omega)
                    rwa [show decide (P3 = P3) = true by simp] at this)
                  have KI3 := Lib.hid (fun (W : World) (hW : Below v10.heap.size v10 W) => is8_any w3.heap.size (.slice os10 S3.length cs10) (.slice ox10 L3.length cx10) (.slice oa3 na3 ca3) (.slice ob3 nb3 cb3) S3 L3 (2 : Int) W (Below.keepOwn RO10.out.1 hW (Nat.le_refl _)) (Below.keepOwn RO10.out.2 hW (Nat.le_refl _)) (Nat.le_trans BXv10.out.size hW.size) HLN.out.2.2.1.1 HLN.out.2.2.1.2 ⟨_, _, _, rfl⟩ ⟨_, _, _, rfl⟩ (FA.out W (BXv10.out.trans (hW.mono BXv10.out.size))).2.2.2.1.2 HNO.out.2.2)
                  have KET := Lib.hid (fun (W : World) (hW : Below w3.heap.size w3 W) => eqtensor_same _ _ _ _ sh ds W (FA.out W hW).2.2.2.2.2.1 (FA.out W hW).2.2.2.2.2.2.1 (HL.out.1.below (FRb.out _ (FA.out W hW).1)) (HL.out.2.1.below (FRb.out _ (FA.out W hW).1)) (by omega) (by omega))
                  clear hv U10 KX10 z0 z1 zf0 zf1 y0 y1 x0 x1 x2 x3 BX9 KX9 PK
                  go_wp2_with (first
                    | (go_at_call 16; (with_reducible refine KEN.out.mono ?_); rintro e w11 ⟨rfl, hb⟩; have B11 := Lib.hid hb; have BX11 := Lib.hid (BXv10.out.trans (hb.mono BXv10.out.size)); obtain ⟨z0, z1, _⟩ := blk2 (KXv10.out.below hb KXv10.out.lt); obtain ⟨u0, u1, _⟩ := blk2 (FA.out w11 BX11.out).2.2.2.1.1; clear hb)
                    | (go_at_call 17; (with_reducible refine (KI3.out _ B11.out).mono ?_); rintro e w12 ⟨rfl, hb, _⟩; have BX12 := Lib.hid (BX11.out.trans hb); obtain ⟨y0, y1, _⟩ := blk2 (FA.out w12 BX12.out).2.2.2.2.1; obtain ⟨x0, x1, x2, x3⟩ := FRk.out _ (FA.out w12 BX12.out).1; clear hb)
                    | (go_at_call 19; (with_reducible refine (KET.out _ BX12.out).mono ?_); rintro e w13 ⟨rfl, hb⟩; have F13 := Lib.hid (FRn.out _ _ (FA.out w12 BX12.out).1 hb); clear hb))
                  exact ⟨⟨k + 1, by omega, by go_num, hB.trans ((FRb.out _ F13.out).mono hBs)⟩, by simp [intOf]; omega⟩
                · as_aux_lemma =>
                  have d2 : decide ((sh.length : Int) ≤ a) = false := decide_eq_false q2
                  have e3 : E3 = 0 := by rw [HEQ.out.2.2.1]; unfold mE; rw [if_pos TN.out, if_pos (by omega)]
                  have KRN := Lib.hid (KRM.out (by rw [← HEQ.out.2.2.1]; exact e3))
                  rw [e3] at KMX HNO
                  clear e3 q1 q2 KRM HEQ KR1 KR2 KRX KMA
                  go_upto_region 22 with (go_at_call 34; (with_reducible refine (KRN.out _ (FRb.out _ FC.out)).mono ?_); rintro e wz ⟨os9, cs9, od9, cd9, op1, cp1, rfl, h1, h2, h3, hb⟩; have UZ := Lib.hid (And.intro h1 (And.intro h2 (And.intro h3 hb))); have KZ := Lib.hid (KC11.out.below hb KC11.out.lt); obtain ⟨p0, p1, pf0, pf1⟩ := blk2 KZ.out; clear h1 h2 h3 hb)
                  obtain ⟨v9, hv⟩ : ∃ v, v = ((wz.setCell ⟨T9 + 1 + 1, 0, none⟩ (.slice os9 S3.length cs9)).setCell ⟨T9 + 1 + 1, 1, none⟩ (.slice od9 L3.length cd9)) := ⟨_, rfl⟩
                  rw [← hv]
                  have SB1 : Hid (SBX v9 T9 E1 S1 D1) := Lib.hid (by rw [hv]; exact SBX.far (SB9.out.below UZ.out.2.2.2) KZ.out (by omega) _ _)
                  have SB2 : Hid (SBX v9 (T9 + 1) E2 S2 D2) := Lib.hid (by rw [hv]; exact SBX.far (SB10.out.below UZ.out.2.2.2) KZ.out (by omega) _ _)
                  have SB3 : Hid (SBX v9 (T9 + 1 + 1) 0 S3 L3) := Lib.hid (by rw [hv]; exact SBX.put KZ.out UZ.out.1 UZ.out.2.1)
                  have HP : Hid (Ld v9 (.slice op1 P3.length cp1) P3) := Lib.hid (by rw [hv]; exact ldg2 KZ.out UZ.out.2.2.1)
                  have FB : Hid (FR v9) := Lib.hid (by rw [hv]; exact FRm.out _ _ (FRn.out _ _ FC.out UZ.out.2.2.2) (below_put2 (Below.refl _ _) (by have := HTB.out; omega) _ _))
                  clear hv UZ KZ p0 p1 pf0 pf1 x0 x1 x2 x3 SB9 SB10 KC11 BB FC KRN
                  obtain ⟨oa1, na1, ca1, ob1, nb1, cb1, hk1, hl1⟩ := SB1.out
                  obtain ⟨oa2, na2, ca2, ob2, nb2, cb2, hk2, hl2⟩ := SB2.out
                  obtain ⟨oa3, na3, ca3, ob3, nb3, cb3, hk3, hl3⟩ := SB3.out
                  have HKL := Lib.hid (And.intro (And.intro hk1 hl1) (And.intro (And.intro hk2 hl2) (And.intro hk3 hl3)))
                  clear hk1 hl1 hk2 hl2 hk3 hl3 SB1 SB2 SB3
                  obtain ⟨x0, x1, x2, x3⟩ := FRk.out _ FB.out
                  go_upto_region 23 with (go_at_call 14; (with_reducible refine (KCP.out _ (FRb.out _ FB.out)).mono ?_); rintro e w8 ⟨oc, cc, od, cd, rfl, h1, h2, hb⟩; have U8 := Lib.hid (And.intro h1 (And.intro h2 hb)); clear h1 h2 hb)
                  obtain ⟨w3, hw3⟩ : ∃ v, v = w8.alloc (.cells #[.slice oc sh.length cc, .slice od ds.length cd] 26) := ⟨_, rfl⟩
                  obtain ⟨T13, hT13⟩ : ∃ v, v = w8.heap.size := ⟨_, rfl⟩
                  rw [← hw3, ← hT13]
                  have U3 : Hid (Below v9.heap.size v9 w3) := Lib.hid (by rw [hw3]; exact U8.out.2.2.trans ((al_below _).mono U8.out.2.2.size))
                  have KT3 : Hid (Blk w3 T13 26 #[.slice oc sh.length cc, .slice od ds.length cd]) := Lib.hid (by rw [hw3, hT13]; exact Blk.new _ _ _)
                  have HC3 : Hid (Ld w3 (.slice oc sh.length cc) sh ∧ Ld w3 (.slice od ds.length cd) ds) := Lib.hid (by rw [hw3]; exact ⟨(own_ld U8.out.1 rfl).below (al_below _), (own_ld U8.out.2.1 rfl).below (al_below _)⟩)
                  have FA : Hid (∀ W, Below w3.heap.size w3 W → FR W ∧ (Blk W (T9) 26 #[.slice oa1 na1 ca1, .slice ob1 nb1 cb1] ∧ LDS W E1 (.slice oa1 na1 ca1) (.slice ob1 nb1 cb1) S1 D1) ∧ (Blk W (T9 + 1) 26 #[.slice oa2 na2 ca2, .slice ob2 nb2 cb2] ∧ LDS W E2 (.slice oa2 na2 ca2) (.slice ob2 nb2 cb2) S2 D2) ∧ (Blk W (T9 + 1 + 1) 26 #[.slice oa3 na3 ca3, .slice ob3 nb3 cb3] ∧ LDS W (0 : Int) (.slice oa3 na3 ca3) (.slice ob3 nb3 cb3) S3 L3) ∧ Blk W T13 26 #[.slice oc sh.length cc, .slice od ds.length cd] ∧ Ld W (.slice oc sh.length cc) sh ∧ Ld W (.slice od ds.length cd) ds ∧ Ld W (.slice op1 P3.length cp1) P3) := Lib.hid (fun W hW => by
                    have u := U3.out.trans (hW.mono U3.out.size)
                    have q := HKL.out
                    exact ⟨FRn.out _ _ FB.out u, ⟨q.1.1.below u q.1.1.lt, q.1.2.below u⟩, ⟨q.2.1.1.below u q.2.1.1.lt, q.2.1.2.below u⟩, ⟨q.2.2.1.below u q.2.2.1.lt, q.2.2.2.below u⟩, KT3.out.below hW KT3.out.lt, HC3.out.1.below hW, HC3.out.2.below hW, HP.out.below u⟩)
                  clear hw3 hT13 U3 KT3 HC3 U8 HKL HP FB x0 x1 x2 x3
                  have A3 := FA.out w3 (Below.refl _ _)
                  obtain ⟨y0, y1, _⟩ := blk2 A3.2.2.2.2.1
                  obtain ⟨x0, x1, x2, x3⟩ := FRk.out _ A3.1
                  clear A3
                  go_upto_region 24 with (go_at_call 35; (with_reducible refine (KSU.out _ _ _ (FRb.out _ (FA.out w3 (Below.refl _ _)).1) (FA.out w3 (Below.refl _ _)).2.2.2.2.2.1 (FA.out w3 (Below.refl _ _)).2.2.2.2.2.2.1).mono ?_); rintro e w4 ⟨os, cs, ox, cx, rfl, h1, h2, hb⟩; have U4 := Lib.hid (And.intro h1 (And.intro h2 hb)); clear h1 h2 hb)
                  obtain ⟨v4, hv4⟩ : ∃ v, v = w4.alloc (.cells #[.slice os S1.length cs, .slice ox D1.length cx] 26) := ⟨_, rfl⟩
                  obtain ⟨T14, hT14⟩ : ∃ v, v = w4.heap.size := ⟨_, rfl⟩
                  rw [← hv4, ← hT14]
                  have BX4 : Hid (Below w3.heap.size w3 v4) := Lib.hid (by rw [hv4]; exact U4.out.2.2.alloc U4.out.2.2.size _)
                  have KX4 : Hid (Blk v4 T14 26 #[.slice os S1.length cs, .slice ox D1.length cx]) := Lib.hid (by rw [hv4, hT14]; exact Blk.new _ _ _)
                  have HT14 : Hid (w3.heap.size ≤ T14) := Lib.hid (by rw [hT14]; exact U4.out.2.2.size)
                  have KI1 := Lib.hid (is8_any w3.heap.size (.slice os S1.length cs) (.slice ox D1.length cx) (.slice oa1 na1 ca1) (.slice ob1 nb1 cb1) S1 D1 E1 v4 (by rw [hv4]; exact U4.out.1.alloc _) (by rw [hv4]; exact U4.out.2.1.alloc _) BX4.out.size HLN.out.1.1 HLN.out.1.2 ⟨_, _, _, rfl⟩ ⟨_, _, _, rfl⟩ (FA.out v4 BX4.out).2.1.2 HNO.out.1)
                  clear hv4 hT14 U4 y0 y1 x0 x1 x2 x3
                  obtain ⟨z0, z1, _⟩ := blk2 KX4.out
                  obtain ⟨u0, u1, _⟩ := blk2 (FA.out v4 BX4.out).2.1.1
                  go_upto_region 26 with (go_at_call 17; (with_reducible refine KI1.out.mono ?_); rintro e w6 ⟨rfl, hb, hk⟩; have BX6 := Lib.hid (BX4.out.trans hb); have KX6 := Lib.hid (hk _ _ KX4.out); clear hb hk)
                  clear z0 z1 u0 u1 KI1 BX4 KX4
                  have A6 := FA.out w6 BX6.out
                  obtain ⟨y0, y1, _⟩ := blk2 A6.2.2.2.2.1
                  obtain ⟨x0, x1, x2, x3⟩ := FRk.out _ A6.1
                  clear A6
                  go_upto_region 27 with (go_at_call 23; (with_reducible refine (KME.out _ _ _ (FRb.out _ (FA.out w6 BX6.out).1) (FA.out w6 BX6.out).2.2.2.2.2.1 (FA.out w6 BX6.out).2.2.2.2.2.2.1).mono ?_); rintro e w7 ⟨os7, cs7, ox7, cx7, rfl, h1, h2, hb⟩; have U7 := Lib.hid (And.intro h1 (And.intro h2 hb)); have KX7 := Lib.hid (KX6.out.below hb KX6.out.lt); obtain ⟨z0, z1, zf0, zf1⟩ := blk2 KX7.out; clear h1 h2 hb)
                  obtain ⟨v7, hv⟩ : ∃ v, v = ((w7.setCell ⟨T14, 0, none⟩ (.slice os7 S2.length cs7)).setCell ⟨T14, 1, none⟩ (.slice ox7 D2.length cx7)) := ⟨_, rfl⟩
                  rw [← hv]
                  have BXv7 : Hid (Below w3.heap.size w3 v7) := Lib.hid (by rw [hv]; exact below_put2 (BX6.out.trans (U7.out.2.2.mono BX6.out.size)) HT14.out _ _)
                  have KXv7 : Hid (Blk v7 T14 26 #[.slice os7 S2.length cs7, .slice ox7 D2.length cx7]) := Lib.hid (by rw [hv]; exact (KX7.out.set_ 0 _).set_ 1 _)
                  have RO7 : Hid (v7.ownsRow w3.heap.size 3 1 (.slice os7 S2.length cs7) S2.length (ints S2) ∧ v7.ownsRow w3.heap.size 2 1 (.slice ox7 D2.length cx7) D2.length (ints D2)) := Lib.hid (by rw [hv]; exact ⟨own_put9 (own_base U7.out.1 BX6.out.size) KX7.out (by decide), own_put9 (own_base U7.out.2.1 BX6.out.size) KX7.out (by decide)⟩)
                  have KI2 := Lib.hid (is8_any w3.heap.size (.slice os7 S2.length cs7) (.slice ox7 D2.length cx7) (.slice oa2 na2 ca2) (.slice ob2 nb2 cb2) S2 D2 E2 v7 RO7.out.1 RO7.out.2 BXv7.out.size HLN.out.2.1.1 HLN.out.2.1.2 ⟨_, _, _, rfl⟩ ⟨_, _, _, rfl⟩ (FA.out v7 BXv7.out).2.2.1.2 HNO.out.2.1)
                  clear hv U7 KX7 z0 z1 zf0 zf1 y0 y1 x0 x1 x2 x3 RO7 BX6 KX6
                  obtain ⟨z0, z1, _⟩ := blk2 KXv7.out
                  obtain ⟨u0, u1, _⟩ := blk2 (FA.out v7 BXv7.out).2.2.1.1
                  go_upto_region 29 with (go_at_call 17; (with_reducible refine KI2.out.mono ?_); rintro e w9 ⟨rfl, hb, hk⟩; have BX9 := Lib.hid (BXv7.out.trans hb); have KX9 := Lib.hid (hk _ _ KXv7.out); clear hb hk)
                  clear z0 z1 u0 u1 KI2 BXv7 KXv7
                  have A9 := FA.out w9 BX9.out
                  obtain ⟨y0, y1, _⟩ := blk2 A9.2.2.2.2.1
                  obtain ⟨x0, x1, x2, x3⟩ := FRk.out _ A9.1
                  clear A9
                  go_upto_region 30 with (go_at_call 22; (with_reducible refine (KMX.out _ _ _ (FRb.out _ (FA.out w9 BX9.out).1) (FA.out w9 BX9.out).2.2.2.2.2.1 (FA.out w9 BX9.out).2.2.2.2.2.2.1).mono ?_); rintro e w10 ⟨os10, cs10, ox10, cx10, op10, cp10, rfl, h1, h2, h3, hb⟩; have U10 := Lib.hid (And.intro h1 (And.intro h2 hb)); have PK := Lib.hid h3; clear h3; have KX10 := Lib.hid (KX9.out.below hb KX9.out.lt); obtain ⟨z0, z1, zf0, zf1⟩ := blk2 KX10.out; clear h1 h2 hb)
                  obtain ⟨v10, hv⟩ : ∃ v, v = ((w10.setCell ⟨T14, 0, none⟩ (.slice os10 S3.length cs10)).setCell ⟨T14, 1, none⟩ (.slice ox10 L3.length cx10)) := ⟨_, rfl⟩
                  rw [← hv]
                  have BXv10 : Hid (Below w3.heap.size w3 v10) := Lib.hid (by rw [hv]; exact below_put2 (BX9.out.trans (U10.out.2.2.mono BX9.out.size)) HT14.out _ _)
                  have KXv10 : Hid (Blk v10 T14 26 #[.slice os10 S3.length cs10, .slice ox10 L3.length cx10]) := Lib.hid (by rw [hv]; exact (KX10.out.set_ 0 _).set_ 1 _)
                  have RO10 : Hid (v10.ownsRow w3.heap.size 3 1 (.slice os10 S3.length cs10) S3.length (ints S3) ∧ v10.ownsRow w3.heap.size 2 1 (.slice ox10 L3.length cx10) L3.length (ints L3)) := Lib.hid (by rw [hv]; exact ⟨own_put9 (own_base U10.out.1 BX9.out.size) KX10.out (by decide), own_put9 (own_base U10.out.2.1 BX9.out.size) KX10.out (by decide)⟩)
                  have PKv : Hid (Ld v10 (.slice op10 P3.length cp10) P3) := Lib.hid (by rw [hv]; exact ldg2 KX10.out PK.out)
                  have KEN : Hid (Calls Tryz.prog 16 #[.slice op10 P3.length cp10, .slice op1 P3.length cp1] v10 fun e w' => e = .returned (.bool true) ∧ Below v10.heap.size v10 w') := Lib.hid (by
                    have := eqn_any _ _ P3 P3 v10 PKv.out (FA.out v10 BXv10.out).2.2.2.2.2.2.2 (by have := HLN.out.2.2.2; omega) (by have := HLN.out.2.2.2; omega)
                    rwa [show decide (P3 = P3) = true by simp] at this)
                  have KI3 := Lib.hid (fun (W : World) (hW : Below v10.heap.size v10 W) => is8_any w3.heap.size (.slice os10 S3.length cs10) (.slice ox10 L3.length cx10) (.slice oa3 na3 ca3) (.slice ob3 nb3 cb3) S3 L3 (0 : Int) W (Below.keepOwn RO10.out.1 hW (Nat.le_refl _)) (Below.keepOwn RO10.out.2 hW (Nat.le_refl _)) (Nat.le_trans BXv10.out.size hW.size) HLN.out.2.2.1.1 HLN.out.2.2.1.2 ⟨_, _, _, rfl⟩ ⟨_, _, _, rfl⟩ (FA.out W (BXv10.out.trans (hW.mono BXv10.out.size))).2.2.2.1.2 HNO.out.2.2)
                  have KET := Lib.hid (fun (W : World) (hW : Below w3.heap.size w3 W) => eqtensor_same _ _ _ _ sh ds W (FA.out W hW).2.2.2.2.2.1 (FA.out W hW).2.2.2.2.2.2.1 (HL.out.1.below (FRb.out _ (FA.out W hW).1)) (HL.out.2.1.below (FRb.out _ (FA.out W hW).1)) (by omega) (by omega))
                  clear hv U10 KX10 z0 z1 zf0 zf1 y0 y1 x0 x1 x2 x3 BX9 KX9 PK
                  go_wp2_with (first
                    | (go_at_call 16; (with_reducible refine KEN.out.mono ?_); rintro e w11 ⟨rfl, hb⟩; have B11 := Lib.hid hb; have BX11 := Lib.hid (BXv10.out.trans (hb.mono BXv10.out.size)); obtain ⟨z0, z1, _⟩ := blk2 (KXv10.out.below hb KXv10.out.lt); obtain ⟨u0, u1, _⟩ := blk2 (FA.out w11 BX11.out).2.2.2.1.1; clear hb)
                    | (go_at_call 17; (with_reducible refine (KI3.out _ B11.out).mono ?_); rintro e w12 ⟨rfl, hb, _⟩; have BX12 := Lib.hid (BX11.out.trans hb); obtain ⟨y0, y1, _⟩ := blk2 (FA.out w12 BX12.out).2.2.2.2.1; obtain ⟨x0, x1, x2, x3⟩ := FRk.out _ (FA.out w12 BX12.out).1; clear hb)
                    | (go_at_call 19; (with_reducible refine (KET.out _ BX12.out).mono ?_); rintro e w13 ⟨rfl, hb⟩; have F13 := Lib.hid (FRn.out _ _ (FA.out w12 BX12.out).1 hb); clear hb))
                  exact ⟨⟨k + 1, by omega, by go_num, hB.trans ((FRb.out _ F13.out).mono hBs)⟩, by simp [intOf]; omega⟩
        · as_aux_lemma =>
          have dx : decide ((10 : Int) < (ax.length : Int)) = true := by simp; omega
          clear gx
          go_wp2_with (go_at_call 31; (with_reducible refine (LG.out _ (K0.out _)).mono ?_); rintro e w2 ⟨rfl, hb2⟩; have F2 := Lib.hid (FRs.out _ hb2); obtain ⟨x0, x1, x2, x3⟩ := FRk.out _ F2.out; clear hb2)
          go_ret
          exact ⟨rfl, hB.trans ((FRb.out _ F2.out).mono hBs)⟩
    · as_aux_lemma =>
      by_cases g1 : k < len
      · have g2 : 10 ≤ k := by omega
        clear g
        go_wp2_with (go_at_call 36; (with_reducible refine (wakes9_any _).mono ?_); rintro e w9 ⟨rfl, hb9⟩)
        go_ret
        exact ⟨rfl, hB.trans (hb9.mono hBs)⟩
      · have g2 : len ≤ k := by omega
        clear g g1
        go_wp2_with (go_at_call 36; (with_reducible refine (wakes9_any _).mono ?_); rintro e w9 ⟨rfl, hb9⟩)
        go_ret
        exact ⟨rfl, hB.trans (hb9.mono hBs)⟩
end Go.Proofs.YtmafgdinegboeaaGreat
