
import Derived.Test.YtmafgdinegboeaaGreatM16
import Derived.Test.YtmafgdinegboeaaGreatM21
import Derived.Test.YtmafgdinegboeaaGreatM32
import Derived.Test.YtmafgdinegboeaaGreatM33
import Derived.Test.YtmafgdinegboeaaGreatM34
namespace Go.Proofs.YtmafgdinegboeaaGreat
open Go.RowKit Go.Shelf

def LDS (W : World) (E : Int) (u v : Value) (S D : List Int) : Prop := E = 0 → Ld W u S ∧ Ld W v D
theorem LDS.below {W W' : World} {E : Int} {u v : Value} {S D : List Int} (h : LDS W E u v S D) (hb : Below W.heap.size W W') : LDS W' E u v S D := fun e => ⟨(h e).1.below hb, (h e).2.below hb⟩
def SBX (W : World) (B : Nat) (E : Int) (S D : List Int) : Prop := ∃ o n c o2 n2 c2, Blk W B 26 #[.slice o n c, .slice o2 n2 c2] ∧ LDS W E (.slice o n c) (.slice o2 n2 c2) S D
theorem SBX.below {W W' : World} {B : Nat} {E : Int} {S D : List Int} (h : SBX W B E S D) (hb : Below W.heap.size W W') : SBX W' B E S D := by
  obtain ⟨o, n, c, o2, n2, c2, h1, h2⟩ := h
  exact ⟨o, n, c, o2, n2, c2, h1.below hb h1.lt, fun e => ⟨(h2 e).1.below hb, (h2 e).2.below hb⟩⟩
theorem SBX.zero {W : World} {B : Nat} {E : Int} {S D : List Int} (h : Blk W B 26 #[.slice none 0 0, .slice none 0 0]) (he : E ≠ 0) : SBX W B E S D := ⟨_, _, _, _, _, _, h, fun e => absurd e he⟩
theorem SBX.far {W : World} {B C : Nat} {E : Int} {S D : List Int} {o1 o2 : Option Addr} {n1 n2 c1 c2 : Nat} (h : SBX W B E S D) (hb : Blk W C 26 #[.slice o1 n1 c1, .slice o2 n2 c2]) (hne : B ≠ C) (x z : Value) : SBX ((W.setCell ⟨C, 0, none⟩ x).setCell ⟨C, 1, none⟩ z) B E S D := by
  obtain ⟨o, n, c, o2, n2, c2, h1, h2⟩ := h
  exact ⟨o, n, c, o2, n2, c2, (h1.far (p := ⟨C, 0, none⟩) hne x).far (p := ⟨C, 1, none⟩) hne z, fun e => ⟨ldg2 hb (h2 e).1, ldg2 hb (h2 e).2⟩⟩
theorem SBX.put {W : World} {C : Nat} {E : Int} {S D : List Int} {o1 o2 o3 o4 : Option Addr} {n1 n2 n3 n4 c1 c2 c3 c4 : Nat} (hb : Blk W C 26 #[.slice o1 n1 c1, .slice o2 n2 c2]) (h3 : Ld W (.slice o3 n3 c3) S) (h4 : Ld W (.slice o4 n4 c4) D) : SBX ((W.setCell ⟨C, 0, none⟩ (.slice o3 n3 c3)).setCell ⟨C, 1, none⟩ (.slice o4 n4 c4)) C E S D :=
  ⟨_, _, _, _, _, _, (hb.set_ 0 _).set_ 1 _, fun _ => ⟨ldg2 hb h3, ldg2 hb h4⟩⟩
theorem blk_put2 {W : World} {B C : Nat} {cs : Array Value} {t : TypeId} (h : Blk W B t cs) (hne : B ≠ C) (x z : Value) : Blk ((W.setCell ⟨C, 0, none⟩ x).setCell ⟨C, 1, none⟩ z) B t cs := (h.far (p := ⟨C, 0, none⟩) hne x).far (p := ⟨C, 1, none⟩) hne z
theorem below_put2 {w W : World} {m C : Nat} (h : Below m w W) (hm : m ≤ C) (x z : Value) : Below m w ((W.setCell ⟨C, 0, none⟩ x).setCell ⟨C, 1, none⟩ z) := (h.setCell (p := ⟨C, 0, none⟩) hm x).setCell (p := ⟨C, 1, none⟩) hm z
theorem own_put9 {W : World} {base n C : Nat} {t : TypeId} {v x z : Value} {xs : List Value} {c0 c1 : Value} (h : W.ownsRow base t 1 v n xs) (hb : Blk W C 26 #[c0, c1]) (ht : t ≠ 26) : ((W.setCell ⟨C, 0, none⟩ x).setCell ⟨C, 1, none⟩ z).ownsRow base t 1 v n xs :=
  own_setx (own_setx h hb ht) (hb.set_ 0 x) ht
theorem unl_nox {E : Int} {l : List Int} (h : E ≠ 0) : unl E l = [] := if_neg h
theorem unl_len {E : Int} {l : List Int} : (unl E l).length ≤ l.length := by
  unfold unl
  split
  · exact Nat.le_refl _
  · simp
theorem mul_tot (a da b db : List Int) (f : Int) (l1 : a.length ≤ 17592186044416) (l2 : da.length ≤ 17592186044416) (l3 : b.length ≤ 17592186044416) (l4 : db.length ≤ 17592186044416) : ∃ (E : Int) (S D : List Int), ((tnb a da && tnb b db && fb f) = false → E = 1) ∧ (E ≠ 0 → S = [] ∧ D = []) ∧ (S.length ≤ 65536 ∧ D.length ≤ 65536) ∧
    (∀ (vs vd vt ve : Value) (w : World), Ld w vs a → Ld w vd da → Ld w vt b → Ld w ve db → Calls Tryz.prog 40 #[.agg #[vs, vd], .agg #[vt, ve], .int .i64 f] w (SomeT w E S D)) ∧
    ((tnb a da && tnb b db && fb f) = true → ∀ (vs vd vt ve : Value) (w : World), Ld w vs a → Ld w vd da → Ld w vt b → Ld w ve db → Calls Tryz.prog 38 #[.agg #[vs, vd], .agg #[vt, ve], .int .i64 f] w (Ty w E S D)) := by
  cases ta : tnb a da with
  | false => exact ⟨1, [], [], fun _ => rfl, fun _ => ⟨rfl, rfl⟩, by simp, fun vs vd vt ve w h1 h2 h3 h4 => mul_na vs vd vt ve a da b db f w h1 h2 h3 h4 l1 l2 l3 l4 ta, fun h => by simp at h⟩
  | true =>
    cases tb : tnb b db with
    | false => exact ⟨1, [], [], fun _ => rfl, fun _ => ⟨rfl, rfl⟩, by simp, fun vs vd vt ve w h1 h2 h3 h4 => mul_nb vs vd vt ve a da b db f w h1 h2 h3 h4 l1 l2 l3 l4 ta tb, fun h => by simp at h⟩
    | true =>
      cases hf : fb f with
      | false => exact ⟨1, [], [], fun _ => rfl, fun _ => ⟨rfl, rfl⟩, by simp, fun vs vd vt ve w h1 h2 h3 h4 => mul_nf vs vd vt ve a da b db f w h1 h2 h3 h4 l1 l2 l3 l4 ta tb hf, fun h => by simp at h⟩
      | true =>
        obtain ⟨n, rfl⟩ : ∃ n : Nat, f = (n : Int) := ⟨f.toNat, by simp only [fb, decide_eq_true_eq] at hf; omega⟩
        refine ⟨mue a da b db n, unl (mue a da b db n) (msh a b), unl (mue a da b db n) (muw a da b db n), fun h => by simp at h, fun h => ⟨unl_nox h, unl_nox h⟩, ⟨?_, ?_⟩, fun vs vd vt ve w h1 h2 h3 h4 => mul_all vs vd vt ve a da b db n w h1 h2 h3 h4 ta tb hf, fun _ vs vd vt ve w h1 h2 h3 h4 => rmul_any vs vd vt ve a da b db n w h1 h2 h3 h4 ta tb hf⟩
        · have := may_len (tnb_parts ta).1
          have q := unl_len (E := mue a da b db n) (l := msh a b)
          rw [msh_len] at q
          omega
        · by_cases h : mue a da b db n = 0
          · rw [h, show unl 0 (muw a da b db n) = muw a da b db n from if_pos rfl, muw_len]
            exact (mun_msh (mue_ok h).2.1).2
          · rw [unl_nox h]; simp
theorem turn_tot (a da : List Int) (l1 : a.length ≤ 17592186044416) (l2 : da.length ≤ 17592186044416) : ∃ (E : Int) (S D : List Int), E = (if (tnb a da && decide ((a.length : Int) < 2)) = true then 2 else if tnb a da = true then 0 else 1) ∧ (E ≠ 0 → S = [] ∧ D = []) ∧ (S.length ≤ 65536 ∧ D.length ≤ 65536) ∧
    (∀ (vs vd : Value) (w : World), Ld w vs a → Ld w vd da → Calls Tryz.prog 41 #[.agg #[vs, vd]] w (SomeT w E S D)) ∧
    (E = 0 → ∀ (vs vd : Value) (w : World), Ld w vs a → Ld w vd da → Calls Tryz.prog 39 #[.agg #[vs, vd]] w (RefT w S D)) := by
  cases ta : tnb a da with
  | false => exact ⟨1, [], [], rfl, fun _ => ⟨rfl, rfl⟩, by simp, fun vs vd w h1 h2 => turn_no vs vd a da w h1 h2 l1 l2 ta, fun h => absurd h (by decide)⟩
  | true =>
    by_cases lo : a.length < 2
    · exact ⟨2, [], [], by simp; omega, fun _ => ⟨rfl, rfl⟩, by simp, fun vs vd w h1 h2 => turn_low vs vd a da w h1 h2 l1 l2 ta lo, fun h => absurd h (by decide)⟩
    · obtain ⟨p, A, B, K, ha, hK, hp, q1, hN, h6, hl⟩ := turn_parts (tnb_parts ta).1 (by omega)
      refine ⟨0, p ++ [(B : Int), (A : Int)], tnn K A B da, by simp; omega, fun h => absurd rfl h, ⟨?_, ?_⟩, fun vs vd w h1 h2 => turn_ok vs vd a da p A B K w h1 h2 ta ha hK hp q1 hN h6 hl, fun _ vs vd w h1 h2 => rturn_any vs vd a da p A B K w h1 h2 ta ha hK hp q1 hN h6 hl⟩
      · simp; omega
      · rw [tnn_len, Nat.mul_comm B A]; exact h6
set_option maxRecDepth 100000 in
set_option maxHeartbeats 6000000 in
theorem matmulexact_any (bb oo len cap : Nat) (es : Nat → Mk) (w : World) (_hl : len ≤ 9223372036854775807) (hb : bb < w.heap.size) (hT : ∀ i, i < len → MkAt w bb (oo + i * 5) (es i)) (hok : ∀ i, i < len → (es i).ok w) :
    Calls Tryz.prog 7 #[.slice (some ⟨bb, oo, none⟩) len cap] w fun e w' => e = .returned (.bool true) ∧ Below w.heap.size w w' := by
  have HT := Lib.hid (And.intro hT hok)
  clear hT hok
  go_enter Tryz.func7, Tryz.ntmps7
  go_wp2
  go_loopw [3] (fun s3 wQ => ∃ k : Nat, k ≤ len ∧ s3 = .int .i64 k ∧ Below w.heap.size w wQ) (fun s3 _ => len - (intOf s3).toNat)
  case atStart => exact ⟨0, Nat.zero_le _, rfl, Below.refl _ _⟩
  case round =>
    obtain ⟨k, hk, rfl, hB⟩ := hrel
    have hBs := hB.size
    obtain ⟨w1, hw1⟩ : ∃ w1, w1 = wr := ⟨_, rfl⟩
    subst hw1
    by_cases g : k < len ∧ k < 6
    · obtain ⟨g1, g2⟩ := g
      obtain ⟨t0, t1, t2, t3, t4⟩ := (HT.out.1 k (by omega)).below hB hb
      obtain ⟨⟨hA, hX, hV, hY⟩, ⟨l0, l1, l2, l3⟩, ⟨a0, a1⟩⟩ := HT.out.2 k (by omega)
      replace hA := hA.below hB
      replace hX := hX.below hB
      replace hV := hV.below hB
      replace hY := hY.below hB
      generalize es k = p at *
      obtain ⟨vA, vX, vB, vY, sa, da, sb, db, f⟩ := p
      simp only at t0 t1 t2 t3 t4 hA hX hV hY l0 l1 l2 l3 a0 a1
      obtain ⟨oA, cA, rfl, _, _⟩ := id hA
      obtain ⟨oX, cX, rfl, _, hxX⟩ := id hX
      obtain ⟨oB, cB, rfl, _, _⟩ := id hV
      obtain ⟨oY, cY, rfl, _, hxY⟩ := id hY
      have HXX := Lib.hid (And.intro hxX hxY)
      clear hxX hxY
      have K0 := Lib.hid (fun o => (Below.refl w1.heap.size w1).alloc (Nat.le_refl _) o)
      have K4 := Lib.hid (Blk.new w1 75 #[.slice oA sa.length cA, .slice oX da.length cX, .slice oB sb.length cB, .slice oY db.length cY, .int .i64 f])
      obtain ⟨FR, hFR⟩ : ∃ FR : World → Prop, FR = fun W => Below w1.heap.size w1 W ∧ Blk W w1.heap.size 75 #[.slice oA sa.length cA, .slice oX da.length cX, .slice oB sb.length cB, .slice oY db.length cY, .int .i64 f] := ⟨_, rfl⟩
      have FRb : Hid (∀ W, FR W → Below w1.heap.size w1 W) := Lib.hid (fun W h => by rw [hFR] at h; exact h.1)
      have FRk := Lib.hid (fun (W : World) (h : FR W) => blk5m (by rw [hFR] at h; exact h.2 : Blk W w1.heap.size 75 #[.slice oA sa.length cA, .slice oX da.length cX, .slice oB sb.length cB, .slice oY db.length cY, .int .i64 f]))
      have FRn : Hid (∀ W W', FR W → Below W.heap.size W W' → FR W') := Lib.hid (fun W W' h hb => by rw [hFR] at h ⊢; exact ⟨h.1.trans (hb.mono h.1.size), h.2.below hb h.2.lt⟩)
      have FRm : Hid (∀ W W', FR W → Below (w1.heap.size + 1) W W' → FR W') := Lib.hid (fun W W' h hb => by rw [hFR] at h ⊢; exact ⟨h.1.trans (hb.mono (Nat.le_succ _)), h.2.below hb (Nat.lt_succ_self _)⟩)
      have FRl : Hid (∀ W, FR W → w1.heap.size < W.heap.size) := Lib.hid (fun W h => by rw [hFR] at h; exact h.2.lt)
      have FRs : Hid (∀ W, Below (w1.alloc (.cells #[.slice oA sa.length cA, .slice oX da.length cX, .slice oB sb.length cB, .slice oY db.length cY, .int .i64 f] 75)).heap.size (w1.alloc (.cells #[.slice oA sa.length cA, .slice oX da.length cX, .slice oB sb.length cB, .slice oY db.length cY, .int .i64 f] 75)) W → FR W) := Lib.hid (fun W h => by rw [hFR]; exact ⟨(K0.out _).trans (h.mono (by simp)), K4.out.below h K4.out.lt⟩)
      clear hFR
      have LG := Lib.hid (fun (W : World) (hW : Below w1.heap.size w1 W) => heavy10_any _ _ _ _ sa da sb db f W (hA.below hW) (hX.below hW) (hV.below hW) (hY.below hW) (by omega) (by omega) (by omega) (by omega))
      cases lg : (hv8 40 sa da || hv8 40 sb db) with
      | true =>
        as_aux_lemma =>
        rw [lg] at LG
        clear lg hA hX hV hY
        go_wp2_with (go_at_call 37; (with_reducible refine (LG.out _ (K0.out _)).mono ?_); rintro e w2 ⟨rfl, hb2⟩; have F2 := Lib.hid (FRs.out _ hb2); obtain ⟨x0, x1, x2, x3, x4⟩ := FRk.out _ F2.out; clear hb2)
        go_ret
        exact ⟨rfl, hB.trans ((FRb.out _ F2.out).mono hBs)⟩
      | false =>
        rw [lg] at LG
        have na := hv10_no lg
        have HL := Lib.hid (And.intro hA (And.intro hX (And.intro hV hY)))
        have KMA := Lib.hid (fun (W : World) (hW : Below w1.heap.size w1 W) => rmay8_any _ _ sa da W (hA.below hW) (hX.below hW) (by omega) (by omega))
        have KMB := Lib.hid (fun (W : World) (hW : Below w1.heap.size w1 W) => rmay8_any _ _ sb db W (hV.below hW) (hY.below hW) (by omega) (by omega))
        clear lg hA hX hV hY
        obtain ⟨E1, S1, D1, hE1, hN1, hL1, hP1, hR1⟩ := mul_tot sa da sb db f (by omega) (by omega) (by omega) (by omega)
        obtain ⟨TE, S2, D2, hTE, hN2, hL2, hP2, hR2⟩ := turn_tot sa da (by omega) (by omega)
        have KPM := Lib.hid hP1
        have KPT := Lib.hid hP2
        have KMF := Lib.hid (fun (W : World) => mayf_any f W)
        have KCA := Lib.hid (fun (W : World) (hW : Below w1.heap.size w1 W) => copytens_any _ _ sa da W (HL.out.1.below hW) (HL.out.2.1.below hW) (by omega) (by omega))
        have KCB := Lib.hid (fun (W : World) (hW : Below w1.heap.size w1 W) => copytens_any _ _ sb db W (HL.out.2.2.1.below hW) (HL.out.2.2.2.below hW) (by omega) (by omega))
        obtain ⟨TA, hTA⟩ : ∃ b, b = tnb sa da := ⟨_, rfl⟩
        obtain ⟨TB, hTB⟩ : ∃ b, b = tnb sb db := ⟨_, rfl⟩
        obtain ⟨FB, hFB⟩ : ∃ b, b = fb f := ⟨_, rfl⟩
        obtain ⟨OK, hOK⟩ : ∃ b, b = (TA && TB && FB) := ⟨_, rfl⟩
        obtain ⟨LO, hLO⟩ : ∃ b, b = (TA && decide ((sa.length : Int) < 2)) := ⟨_, rfl⟩
        obtain ⟨b5, hb5⟩ : ∃ x : Int, x = if OK = true then 0 else 1 := ⟨_, rfl⟩
        obtain ⟨t6, ht6⟩ : ∃ x : Int, x = if TA = true then 0 else 1 := ⟨_, rfl⟩
        rw [← hTA] at hE1 hR1 hTE KMA
        rw [← hTB] at hE1 hR1 KMB
        rw [← hFB] at hE1 hR1 KMF
        rw [← hOK] at hE1 hR1
        rw [← hLO, ← ht6] at hTE
        have KR1 := Lib.hid (fun (h : OK = true) (W : World) (hW : Below w1.heap.size w1 W) => hR1 h _ _ _ _ W (HL.out.1.below hW) (HL.out.2.1.below hW) (HL.out.2.2.1.below hW) (HL.out.2.2.2.below hW))
        have KR2 := Lib.hid (fun (h : TE = 0) (W : World) (hW : Below w1.heap.size w1 W) => hR2 h _ _ W (HL.out.1.below hW) (HL.out.2.1.below hW))
        have HNO := Lib.hid (And.intro hN1 hN2)
        have HLN := Lib.hid (And.intro hL1 hL2)
        have HE1 := Lib.hid hE1
        have HTE := Lib.hid hTE
        have HOK := Lib.hid hOK
        have HLO := Lib.hid hLO
        have HB5 := Lib.hid hb5
        have HT6 := Lib.hid ht6
        clear hE1 hN1 hL1 hP1 hR1 hTE hN2 hL2 hP2 hR2 hOK hLO hb5 ht6 hTA hTB hFB
        go_upto_region 8 with (go_at_call 37; (with_reducible refine (LG.out _ (K0.out _)).mono ?_); rintro e w2 ⟨rfl, hb2⟩; have F2 := Lib.hid (FRs.out _ hb2); obtain ⟨x0, x1, x2, x3, x4⟩ := FRk.out _ F2.out; clear hb2)
        go_cut [44] (fun s44 wx => s44 = .bool (!OK) ∧ Hid (FR wx))
        case first =>
          as_aux_lemma =>
          cases TA with
          | false =>
            go_wp2_with (go_at_call 9; (with_reducible refine (KMA.out _ (FRb.out _ F2.out)).mono ?_); rintro e w4 ⟨rfl, hb4⟩; have F4 := Lib.hid (FRn.out _ _ F2.out hb4); obtain ⟨x0, x1, x2, x3, x4⟩ := FRk.out _ F4.out; clear hb4)
            go_meet
            exact ⟨by rw [HOK.out]; rfl, F4⟩
          | true =>
            cases TB with
            | false =>
              go_wp2_with (first | (go_at_call 9; (with_reducible refine (KMA.out _ (FRb.out _ F2.out)).mono ?_); rintro e w4 ⟨rfl, hb4⟩; have F4 := Lib.hid (FRn.out _ _ F2.out hb4); obtain ⟨x0, x1, x2, x3, x4⟩ := FRk.out _ F4.out; clear hb4) | (go_at_call 9; (with_reducible refine (KMB.out _ (FRb.out _ F4.out)).mono ?_); rintro e w5 ⟨rfl, hb5⟩; have F5 := Lib.hid (FRn.out _ _ F4.out hb5); obtain ⟨x0, x1, x2, x3, x4⟩ := FRk.out _ F5.out; clear hb5))
              go_meet
              exact ⟨by rw [HOK.out]; rfl, F5⟩
            | true =>
              go_wp2_with (first | (go_at_call 9; (with_reducible refine (KMA.out _ (FRb.out _ F2.out)).mono ?_); rintro e w4 ⟨rfl, hb4⟩; have F4 := Lib.hid (FRn.out _ _ F2.out hb4); obtain ⟨x0, x1, x2, x3, x4⟩ := FRk.out _ F4.out; clear hb4) | (go_at_call 9; (with_reducible refine (KMB.out _ (FRb.out _ F4.out)).mono ?_); rintro e w5 ⟨rfl, hb5⟩; have F5 := Lib.hid (FRn.out _ _ F4.out hb5); obtain ⟨x0, x1, x2, x3, x4⟩ := FRk.out _ F5.out; clear hb5) | (go_at_call 27; (with_reducible refine (KMF.out _).mono ?_); rintro e w' ⟨rfl, rfl⟩))
              go_meet
              exact ⟨by rw [HOK.out]; cases FB <;> rfl, F5⟩
        case rest =>
          clear x0 x1 x2 x3 x4
          obtain ⟨rfl, FD⟩ := hcut
          obtain ⟨wd, hwd⟩ : ∃ v, v = wc := ⟨_, rfl⟩
          rw [← hwd] at FD ⊢
          clear hwd
          go_upto_if 44 with fail
          go_cut [5] (fun s5 wx => s5 = .int .i64 b5 ∧ Hid (wd = wx))
          case first =>
            as_aux_lemma =>
            cases OK with
            | false =>
              go_wp2
              go_meet
              exact ⟨by rw [HB5.out]; rfl, Lib.hid rfl⟩
            | true =>
              go_wp2
              go_meet
              exact ⟨by rw [HB5.out]; rfl, Lib.hid rfl⟩
          case rest =>
            obtain ⟨rfl, hq⟩ := hcut
            obtain rfl := hq.out
            clear hq
            obtain ⟨x0, x1, x2, x3, x4⟩ := FRk.out _ FD.out
            go_upto_if 48 with (go_at_call 9; (with_reducible refine (KMA.out _ (FRb.out _ FD.out)).mono ?_); rintro e w4 ⟨rfl, hb4⟩; have F4 := Lib.hid (FRn.out _ _ FD.out hb4); obtain ⟨x0, x1, x2, x3, x4⟩ := FRk.out _ F4.out; clear hb4)
            go_cut [6] (fun s6 wx => s6 = .int .i64 t6 ∧ Hid (w4 = wx))
            case first =>
              as_aux_lemma =>
              cases TA with
              | false =>
                go_wp2
                go_meet
                exact ⟨by rw [HT6.out]; rfl, Lib.hid rfl⟩
              | true =>
                go_wp2
                go_meet
                exact ⟨by rw [HT6.out]; rfl, Lib.hid rfl⟩
            case rest =>
              obtain ⟨rfl, hq⟩ := hcut
              obtain rfl := hq.out
              clear hq
              obtain ⟨wk4, hwk⟩ : ∃ v, v = w4 := ⟨_, rfl⟩
              rw [← hwk] at F4 x0 x1 x2 x3 x4 ⊢
              clear hwk
              go_upto_if 50 with fail
              obtain ⟨w5, hw5⟩ : ∃ v, v = (wk4.alloc (.cells #[.slice none 0 0, .slice none 0 0] 26)).alloc (.cells #[.slice none 0 0, .slice none 0 0] 26) := ⟨_, rfl⟩
              obtain ⟨T7, hT7⟩ : ∃ v, v = wk4.heap.size := ⟨_, rfl⟩
              rw [← hw5, ← hT7]
              have F5 : Hid (FR w5) := Lib.hid (by rw [hw5]; exact FRn.out _ _ (FRn.out _ _ F4.out (al_below _)) (al_below _))
              have K7 : Hid (Blk w5 T7 26 #[.slice none 0 0, .slice none 0 0]) := Lib.hid (by rw [hw5, hT7]; exact (Blk.new _ _ _).alloc _)
              have K8 : Hid (Blk w5 (T7 + 1) 26 #[.slice none 0 0, .slice none 0 0]) := Lib.hid (by rw [hw5, hT7]; exact blk_new1 wk4 _ _ _)
              have HTB : Hid (w1.heap.size + 1 ≤ T7) := Lib.hid (by rw [hT7]; exact FRl.out _ F4.out)
              clear hw5 hT7 x0 x1 x2 x3 x4 F4
              obtain ⟨x0, x1, x2, x3, x4⟩ := FRk.out _ F5.out
              go_cut [5] (fun s5 wx => s5 = .int .i64 E1 ∧ Hid (SBX wx T7 E1 S1 D1) ∧ Hid (Blk wx (T7 + 1) 26 #[.slice none 0 0, .slice none 0 0]) ∧ Hid (Below T7 w5 wx))
              case first =>
                as_aux_lemma =>
                cases OK with
                | false =>
                  obtain rfl : b5 = 1 := HB5.out
                  have e1 := HE1.out rfl
                  have HEE := Lib.hid e1
                  clear e1
                  go_wp2
                  go_meet
                  exact ⟨by rw [HEE.out], Lib.hid (SBX.zero K7.out (by rw [HEE.out]; decide)), K8, Lib.hid (Below.refl _ _)⟩
                | true =>
                  obtain rfl : b5 = 0 := HB5.out
                  replace KR1 := Lib.hid (KR1.out rfl)
                  go_wp2_with (go_at_call 38; (with_reducible refine (KR1.out _ (FRb.out _ F5.out)).mono ?_); rintro e w7 ⟨os1, cs1, od1, cd1, rfl, h1, h2, hb⟩; have U7 := Lib.hid (And.intro h1 (And.intro h2 hb)); have K77 := Lib.hid (K7.out.below hb K7.out.lt); obtain ⟨p0, p1, pf0, pf1⟩ := blk2 K77.out; clear h1 h2 hb)
                  go_meet
                  exact ⟨rfl, Lib.hid (SBX.put K77.out U7.out.1 U7.out.2.1), Lib.hid (blk_put2 (K8.out.below U7.out.2.2 K8.out.lt) (Nat.succ_ne_self _) _ _), Lib.hid (below_put2 (U7.out.2.2.mono (Nat.le_of_lt K7.out.lt)) (Nat.le_refl _) _ _)⟩
              case rest =>
                clear x0 x1 x2 x3 x4
                have HT5 := Lib.hid K8.out.lt
                obtain ⟨rfl, SB1, KE8, BE⟩ := hcut
                obtain ⟨we, hwd⟩ : ∃ v, v = wc := ⟨_, rfl⟩
                rw [← hwd] at SB1 KE8 BE ⊢
                clear hwd
                have FE := Lib.hid (FRm.out _ _ F5.out (BE.out.mono HTB.out))
                clear K7 K8
                have K8 := KE8
                clear KE8
                obtain ⟨x0, x1, x2, x3, x4⟩ := FRk.out _ FE.out
                go_upto_region 16 with fail
                go_cut [69] (fun s69 wx => s69 = .bool LO ∧ Hid (we = wx))
                case first =>
                  as_aux_lemma =>
                  cases TA with
                  | false =>
                    obtain rfl : t6 = 1 := HT6.out
                    go_wp2
                    go_meet
                    exact ⟨by rw [HLO.out]; rfl, Lib.hid rfl⟩
                  | true =>
                    obtain rfl : t6 = 0 := HT6.out
                    go_wp2
                    go_meet
                    exact ⟨by rw [HLO.out]; rfl, Lib.hid rfl⟩
                case rest =>
                  obtain ⟨rfl, hq⟩ := hcut
                  obtain rfl := hq.out
                  clear hq
                  go_upto_if 69 with fail
                  go_cut [6] (fun s6 wx => s6 = .int .i64 TE ∧ Hid (we = wx))
                  case first =>
                    as_aux_lemma =>
                    cases LO with
                    | false =>
                      go_wp2
                      go_meet
                      exact ⟨by rw [HTE.out]; rfl, Lib.hid rfl⟩
                    | true =>
                      go_wp2
                      go_meet
                      exact ⟨by rw [HTE.out]; rfl, Lib.hid rfl⟩
                  case rest =>
                    obtain ⟨rfl, hq⟩ := hcut
                    obtain rfl := hq.out
                    clear hq
                    go_upto_if 71 with fail
                    go_cut [6] (fun s6 wx => s6 = .int .i64 TE ∧ Hid (SBX wx T7 E1 S1 D1) ∧ Hid (SBX wx (T7 + 1) TE S2 D2) ∧ Hid (Below T7 w5 wx))
                    case first =>
                      as_aux_lemma =>
                      by_cases h0 : TE = 0
                      · have d0 : (TE == 0) = true := beq_iff_eq.2 h0
                        replace KR2 := Lib.hid (KR2.out h0)
                        clear h0
                        go_wp2_with (go_at_call 39; (with_reducible refine (KR2.out _ (FRb.out _ FE.out)).mono ?_); rintro e w8 ⟨os2, cs2, od2, cd2, rfl, h1, h2, hb⟩; have U8 := Lib.hid (And.intro h1 (And.intro h2 hb)); have K88 := Lib.hid (K8.out.below hb K8.out.lt); obtain ⟨p0, p1, pf0, pf1⟩ := blk2 K88.out; clear h1 h2 hb)
                        go_meet
                        exact ⟨rfl, Lib.hid (SBX.far (SB1.out.below U8.out.2.2) K88.out (Nat.ne_of_lt (Nat.lt_succ_self _)) _ _), Lib.hid (SBX.put K88.out U8.out.1 U8.out.2.1), Lib.hid (below_put2 (BE.out.trans (U8.out.2.2.mono (by have := BE.out.size; have := HT5.out; omega))) (Nat.le_succ _) _ _)⟩
                      · have d0 : (TE == 0) = false := beq_eq_false_iff_ne.2 h0
                        have HNE := Lib.hid h0
                        clear h0
                        go_wp2
                        go_meet
                        exact ⟨rfl, SB1, Lib.hid (SBX.zero K8.out HNE.out), BE⟩
                    case rest =>
                      clear x0 x1 x2 x3 x4 SB1
                      obtain ⟨rfl, SB1, SB2, BG⟩ := hcut
                      obtain ⟨wg, hwd⟩ : ∃ v, v = wc := ⟨_, rfl⟩
                      rw [← hwd] at SB1 SB2 BG ⊢
                      clear hwd
                      have FG := Lib.hid (FRm.out _ _ F5.out (BG.out.mono HTB.out))
                      clear K8 BE FE F5 BG
                      obtain ⟨oa1, na1, ca1, ob1, nb1, cb1, hk1, hl1⟩ := SB1.out
                      obtain ⟨oa2, na2, ca2, ob2, nb2, cb2, hk2, hl2⟩ := SB2.out
                      have HKL := Lib.hid (And.intro (And.intro hk1 hl1) (And.intro hk2 hl2))
                      clear hk1 hl1 hk2 hl2 SB1 SB2
                      obtain ⟨x0, x1, x2, x3, x4⟩ := FRk.out _ FG.out
                      go_upto_region 21 with (go_at_call 14; (with_reducible refine (KCA.out _ (FRb.out _ FG.out)).mono ?_); rintro e wh ⟨os9, cs9, od9, cd9, rfl, h1, h2, hb⟩; have UH := Lib.hid (And.intro h1 (And.intro h2 hb)); clear h1 h2 hb)
                      obtain ⟨vh, hvh⟩ : ∃ v, v = wh.alloc (.cells #[.slice os9 sa.length cs9, .slice od9 da.length cd9] 26) := ⟨_, rfl⟩
                      obtain ⟨T9, hT9⟩ : ∃ v, v = wh.heap.size := ⟨_, rfl⟩
                      rw [← hvh, ← hT9]
                      have BH : Hid (Below wg.heap.size wg vh) := Lib.hid (by rw [hvh]; exact UH.out.2.2.trans ((al_below _).mono UH.out.2.2.size))
                      have KT9 : Hid (Blk vh T9 26 #[.slice os9 sa.length cs9, .slice od9 da.length cd9]) := Lib.hid (by rw [hvh, hT9]; exact Blk.new _ _ _)
                      have HC9 : Hid (Ld vh (.slice os9 sa.length cs9) sa ∧ Ld vh (.slice od9 da.length cd9) da) := Lib.hid (by rw [hvh]; exact ⟨(own_ld UH.out.1 rfl).below (al_below _), (own_ld UH.out.2.1 rfl).below (al_below _)⟩)
                      have FH := Lib.hid (FRn.out _ _ FG.out BH.out)
                      clear hvh hT9 UH x0 x1 x2 x3 x4
                      obtain ⟨x0, x1, x2, x3, x4⟩ := FRk.out _ FH.out
                      go_upto_region 22 with (go_at_call 14; (with_reducible refine (KCB.out _ (FRb.out _ FH.out)).mono ?_); rintro e wi ⟨os10, cs10, od10, cd10, rfl, h1, h2, hb⟩; have UI := Lib.hid (And.intro h1 (And.intro h2 hb)); clear h1 h2 hb)
                      obtain ⟨w3, hw3⟩ : ∃ v, v = wi.alloc (.cells #[.slice os10 sb.length cs10, .slice od10 db.length cd10] 26) := ⟨_, rfl⟩
                      obtain ⟨T10, hT10⟩ : ∃ v, v = wi.heap.size := ⟨_, rfl⟩
                      rw [← hw3, ← hT10]
                      have BI : Hid (Below vh.heap.size vh w3) := Lib.hid (by rw [hw3]; exact UI.out.2.2.trans ((al_below _).mono UI.out.2.2.size))
                      have KT10 : Hid (Blk w3 T10 26 #[.slice os10 sb.length cs10, .slice od10 db.length cd10]) := Lib.hid (by rw [hw3, hT10]; exact Blk.new _ _ _)
                      have HC10 : Hid (Ld w3 (.slice os10 sb.length cs10) sb ∧ Ld w3 (.slice od10 db.length cd10) db) := Lib.hid (by rw [hw3]; exact ⟨(own_ld UI.out.1 rfl).below (al_below _), (own_ld UI.out.2.1 rfl).below (al_below _)⟩)
                      have FA : Hid (∀ W, Below w3.heap.size w3 W → FR W ∧ (Blk W (T7) 26 #[.slice oa1 na1 ca1, .slice ob1 nb1 cb1] ∧ LDS W E1 (.slice oa1 na1 ca1) (.slice ob1 nb1 cb1) S1 D1) ∧ (Blk W (T7 + 1) 26 #[.slice oa2 na2 ca2, .slice ob2 nb2 cb2] ∧ LDS W TE (.slice oa2 na2 ca2) (.slice ob2 nb2 cb2) S2 D2) ∧ (Blk W T9 26 #[.slice os9 sa.length cs9, .slice od9 da.length cd9] ∧ Ld W (.slice os9 sa.length cs9) sa ∧ Ld W (.slice od9 da.length cd9) da) ∧ (Blk W T10 26 #[.slice os10 sb.length cs10, .slice od10 db.length cd10] ∧ Ld W (.slice os10 sb.length cs10) sb ∧ Ld W (.slice od10 db.length cd10) db)) := Lib.hid (fun W hW => by
                        have u1 := BI.out.trans (hW.mono BI.out.size)
                        have u := BH.out.trans (u1.mono BH.out.size)
                        have q := HKL.out
                        exact ⟨FRn.out _ _ FG.out u, ⟨q.1.1.below u q.1.1.lt, q.1.2.below u⟩, ⟨q.2.1.below u q.2.1.lt, q.2.2.below u⟩, ⟨KT9.out.below u1 KT9.out.lt, HC9.out.1.below u1, HC9.out.2.below u1⟩, ⟨KT10.out.below hW KT10.out.lt, HC10.out.1.below hW, HC10.out.2.below hW⟩⟩)
                      clear hw3 hT10 BI BH KT9 HC9 KT10 HC10 UI HKL FH FG x0 x1 x2 x3 x4
                      have A3 := FA.out w3 (Below.refl _ _)
                      obtain ⟨y0, y1, _⟩ := blk2 A3.2.2.2.1.1
                      obtain ⟨y2, y3, _⟩ := blk2 A3.2.2.2.2.1
                      obtain ⟨x0, x1, x2, x3, x4⟩ := FRk.out _ A3.1
                      have KM3 := Lib.hid (KPM.out _ _ _ _ w3 A3.2.2.2.1.2.1 A3.2.2.2.1.2.2 A3.2.2.2.2.2.1 A3.2.2.2.2.2.2)
                      clear A3
                      go_upto_region 23 with (go_at_call 40; (with_reducible refine KM3.out.mono ?_); rintro e w4 ⟨os, cs, ox, cx, rfl, h1, h2, hb⟩; have U4 := Lib.hid (And.intro h1 (And.intro h2 hb)); clear h1 h2 hb)
                      obtain ⟨v4, hv4⟩ : ∃ v, v = w4.alloc (.cells #[.slice os S1.length cs, .slice ox D1.length cx] 26) := ⟨_, rfl⟩
                      obtain ⟨T14, hT14⟩ : ∃ v, v = w4.heap.size := ⟨_, rfl⟩
                      rw [← hv4, ← hT14]
                      have BX4 : Hid (Below w3.heap.size w3 v4) := Lib.hid (by rw [hv4]; exact U4.out.2.2.alloc U4.out.2.2.size _)
                      have KX4 : Hid (Blk v4 T14 26 #[.slice os S1.length cs, .slice ox D1.length cx]) := Lib.hid (by rw [hv4, hT14]; exact Blk.new _ _ _)
                      have HT14 : Hid (w3.heap.size ≤ T14) := Lib.hid (by rw [hT14]; exact U4.out.2.2.size)
                      have KI1 := Lib.hid (is8_any w3.heap.size (.slice os S1.length cs) (.slice ox D1.length cx) (.slice oa1 na1 ca1) (.slice ob1 nb1 cb1) S1 D1 E1 v4 (by rw [hv4]; exact U4.out.1.alloc _) (by rw [hv4]; exact U4.out.2.1.alloc _) BX4.out.size HLN.out.1.1 HLN.out.1.2 ⟨_, _, _, rfl⟩ ⟨_, _, _, rfl⟩ (FA.out v4 BX4.out).2.1.2 HNO.out.1)
                      clear hv4 hT14 U4 KM3 y0 y1 y2 y3 x0 x1 x2 x3 x4
                      obtain ⟨z0, z1, _⟩ := blk2 KX4.out
                      obtain ⟨u0, u1, _⟩ := blk2 (FA.out v4 BX4.out).2.1.1
                      go_upto_region 25 with (go_at_call 17; (with_reducible refine KI1.out.mono ?_); rintro e w6 ⟨rfl, hb, hk⟩; have BX6 := Lib.hid (BX4.out.trans hb); have KX6 := Lib.hid (hk _ _ KX4.out); clear hb hk)
                      clear z0 z1 u0 u1 KI1 BX4 KX4
                      have A6 := FA.out w6 BX6.out
                      obtain ⟨y0, y1, _⟩ := blk2 A6.2.2.2.1.1
                      obtain ⟨x0, x1, x2, x3, x4⟩ := FRk.out _ A6.1
                      have KT6 := Lib.hid (KPT.out _ _ w6 A6.2.2.2.1.2.1 A6.2.2.2.1.2.2)
                      clear A6
                      go_upto_region 26 with (go_at_call 41; (with_reducible refine KT6.out.mono ?_); rintro e w7 ⟨os7, cs7, ox7, cx7, rfl, h1, h2, hb⟩; have U7 := Lib.hid (And.intro h1 (And.intro h2 hb)); have KX7 := Lib.hid (KX6.out.below hb KX6.out.lt); obtain ⟨z0, z1, zf0, zf1⟩ := blk2 KX7.out; clear h1 h2 hb)
                      obtain ⟨v7, hv⟩ : ∃ v, v = ((w7.setCell ⟨T14, 0, none⟩ (.slice os7 S2.length cs7)).setCell ⟨T14, 1, none⟩ (.slice ox7 D2.length cx7)) := ⟨_, rfl⟩
                      rw [← hv]
                      have BXv7 : Hid (Below w3.heap.size w3 v7) := Lib.hid (by rw [hv]; exact below_put2 (BX6.out.trans (U7.out.2.2.mono BX6.out.size)) HT14.out _ _)
                      have KXv7 : Hid (Blk v7 T14 26 #[.slice os7 S2.length cs7, .slice ox7 D2.length cx7]) := Lib.hid (by rw [hv]; exact (KX7.out.set_ 0 _).set_ 1 _)
                      have RO7 : Hid (v7.ownsRow w3.heap.size 3 1 (.slice os7 S2.length cs7) S2.length (ints S2) ∧ v7.ownsRow w3.heap.size 2 1 (.slice ox7 D2.length cx7) D2.length (ints D2)) := Lib.hid (by rw [hv]; exact ⟨own_put9 (own_base U7.out.1 BX6.out.size) KX7.out (by decide), own_put9 (own_base U7.out.2.1 BX6.out.size) KX7.out (by decide)⟩)
                      have KI2 := Lib.hid (is8_any w3.heap.size (.slice os7 S2.length cs7) (.slice ox7 D2.length cx7) (.slice oa2 na2 ca2) (.slice ob2 nb2 cb2) S2 D2 TE v7 RO7.out.1 RO7.out.2 BXv7.out.size HLN.out.2.1 HLN.out.2.2 ⟨_, _, _, rfl⟩ ⟨_, _, _, rfl⟩ (FA.out v7 BXv7.out).2.2.1.2 HNO.out.2)
                      have KEA := Lib.hid (fun (W : World) (hW : Below w3.heap.size w3 W) => eqtensor_same _ _ _ _ sa da W (FA.out W hW).2.2.2.1.2.1 (FA.out W hW).2.2.2.1.2.2 (HL.out.1.below (FRb.out _ (FA.out W hW).1)) (HL.out.2.1.below (FRb.out _ (FA.out W hW).1)) (by omega) (by omega))
                      have KEB := Lib.hid (fun (W : World) (hW : Below w3.heap.size w3 W) => eqtensor_same _ _ _ _ sb db W (FA.out W hW).2.2.2.2.2.1 (FA.out W hW).2.2.2.2.2.2 (HL.out.2.2.1.below (FRb.out _ (FA.out W hW).1)) (HL.out.2.2.2.below (FRb.out _ (FA.out W hW).1)) (by omega) (by omega))
                      clear hv U7 KX7 KT6 z0 z1 zf0 zf1 y0 y1 x0 x1 x2 x3 x4 RO7 BX6 KX6
                      obtain ⟨z0, z1, _⟩ := blk2 KXv7.out
                      obtain ⟨u0, u1, _⟩ := blk2 (FA.out v7 BXv7.out).2.2.1.1
                      go_wp2_with (first
                        | (go_at_call 17; (with_reducible refine KI2.out.mono ?_); rintro e w12 ⟨rfl, hb, _⟩; have BX12 := Lib.hid (BXv7.out.trans hb); obtain ⟨y0, y1, _⟩ := blk2 (FA.out w12 BX12.out).2.2.2.1.1; obtain ⟨x0, x1, x2, x3, x4⟩ := FRk.out _ (FA.out w12 BX12.out).1; clear hb)
                        | (go_at_call 19; (with_reducible refine (KEA.out _ BX12.out).mono ?_); rintro e w13 ⟨rfl, hb⟩; have BX13 := Lib.hid (BX12.out.trans (hb.mono BX12.out.size)); obtain ⟨y2, y3, _⟩ := blk2 (FA.out w13 BX13.out).2.2.2.2.1; obtain ⟨x0, x1, x2, x3, x4⟩ := FRk.out _ (FA.out w13 BX13.out).1; clear hb)
                        | (go_at_call 19; (with_reducible refine (KEB.out _ BX13.out).mono ?_); rintro e w14 ⟨rfl, hb⟩; have F14 := Lib.hid (FRn.out _ _ (FA.out w13 BX13.out).1 hb); clear hb))
                      exact ⟨⟨k + 1, by omega, by go_num, hB.trans ((FRb.out _ F14.out).mono hBs)⟩, by simp [intOf]; omega⟩
    · as_aux_lemma =>
      by_cases g1 : k < len
      · have g2 : 6 ≤ k := by omega
        clear g
        go_wp2_with (go_at_call 42; (with_reducible refine (wakes10_any _).mono ?_); rintro e w9 ⟨rfl, hb9⟩)
        go_ret
        exact ⟨rfl, hB.trans (hb9.mono hBs)⟩
      · have g2 : len ≤ k := by omega
        clear g g1
        go_wp2_with (go_at_call 42; (with_reducible refine (wakes10_any _).mono ?_); rintro e w9 ⟨rfl, hb9⟩)
        go_ret
        exact ⟨rfl, hB.trans (hb9.mono hBs)⟩
end Go.Proofs.YtmafgdinegboeaaGreat
