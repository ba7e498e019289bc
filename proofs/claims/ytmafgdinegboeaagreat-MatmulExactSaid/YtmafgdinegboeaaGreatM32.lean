
import Derived.Test.YtmafgdinegboeaaGreatM01
import Derived.Test.YtmafgdinegboeaaGreatM06
import Derived.Test.YtmafgdinegboeaaGreatM18
import Derived.Test.YtmafgdinegboeaaGreatM19
import Derived.Test.YtmafgdinegboeaaGreatM21
import Derived.Test.YtmafgdinegboeaaGreatM31
namespace Go.Proofs.YtmafgdinegboeaaGreat
open Go Go.RowKit Go.Shelf
attribute [local go_sem] Oper.semAt_some

def IBX (W : World) (B : Nat) (b : Bool) (o : Option Addr) (l c : Nat) (z : Int) : Prop := Blk W B 95 #[.bool b, .slice o l c] ∧ IsI W (Iv b (.slice o l c)) z
theorem IBX.below {W W' : World} {B : Nat} {b : Bool} {o : Option Addr} {l c : Nat} {z : Int} (h : IBX W B b o l c z) (hb : Below W.heap.size W W') : IBX W' B b o l c z := ⟨h.1.below hb h.1.lt, h.2.below hb⟩
theorem IBX.num {W : World} {B : Nat} {b : Bool} {o : Option Addr} {l c : Nat} {z : Int} (h : IBX W B b o l c z) : IsI W (Iv b (.slice o l c)) z := h.2
theorem IBX.box {W : World} {B : Nat} {b : Bool} {o : Option Addr} {l c : Nat} {z : Int} (h : IBX W B b o l c z) : Blk W B 95 #[.bool b, .slice o l c] := h.1
theorem IBX.put {W : World} {B : Nat} {b b2 : Bool} {o o2 : Option Addr} {l c l2 c2 : Nat} {z z2 : Int} (h : IBX W B b o l c z) (hz : IsI W (Iv b2 (.slice o2 l2 c2)) z2) : IBX ((W.setCell ⟨B, 0, none⟩ (.bool b2)).setCell ⟨B, 1, none⟩ (.slice o2 l2 c2)) B b2 o2 l2 c2 z2 :=
  ⟨(h.1.set_ 0 _).set_ 1 _, hz.put (h.1.cell 0) (by simp) (h.1.cell 1) (by simp)⟩
theorem mul_low {d : Nat → Int} {n : Nat} (hn : n ≤ 4096) (h : ∀ k, k < n → -19807040628566084398385987584 ≤ d k ∧ d k ≤ 19807040628566084398385987584) : (smA d n).natAbs < LOW := by
  have := smA_bd (B := 19807040628566084398385987584) (by decide) h
  exact low_of (k := 120) (by omega) (by decide)
set_option maxRecDepth 100000 in
set_option maxHeartbeats 8000000 in
theorem rmul_any (vs vd vt ve : Value) (a da b db : List Int) (f : Nat) (w : World) (hs : Ld w vs a) (hd : Ld w vd da) (ht : Ld w vt b) (he : Ld w ve db) (ta : tnb a da = true) (tb : tnb b db = true) (hf : fb (f : Nat) = true) :
    Calls Tryz.prog 38 #[.agg #[vs, vd], .agg #[vt, ve], .int .i64 (f : Nat)] w (Ty w (mue a da b db f) (unl (mue a da b db f) (msh a b)) (unl (mue a da b db f) (muw a da b db f))) := by
  obtain ⟨i0, hi0, hz0, hz1, hz2⟩ := info_parts infoW
  have ka := tnb_parts ta
  have kb := tnb_parts tb
  have hf32 : f ≤ 32 := by simp only [fb, decide_eq_true_eq] at hf; omega
  obtain ⟨w2, hw2⟩ : ∃ w2, w2 = ((w.alloc (.cells #[vs, vd] 26)).alloc (.cells #[vt, ve] 26)).alloc (.cells #[.slice none 0 0, .slice none 0 0] 26) := ⟨_, rfl⟩
  have hsz : w2.heap.size = w.heap.size + 3 := by rw [hw2]; simp
  have B2 : Hid (Below w.heap.size w w2) := Lib.hid (by rw [hw2]; exact (((Below.refl _ _).alloc (Nat.le_refl _) _).alloc (by simp) _).alloc (by simp; omega) _)
  have K0 : Hid (Blk w2 w.heap.size 26 #[vs, vd]) := Lib.hid (by rw [hw2]; exact ((Blk.new w _ _).alloc _).alloc _)
  have K1 : Hid (Blk w2 (w.heap.size + 1) 26 #[vt, ve]) := Lib.hid (by rw [hw2]; exact (blk_new1 w _ _ _).alloc _)
  have K2 : Hid (Blk w2 (w.heap.size + 2) 26 #[.slice none 0 0, .slice none 0 0]) := Lib.hid (by
    rw [hw2]
    have q := Blk.new ((w.alloc (.cells #[vs, vd] 26)).alloc (.cells #[vt, ve] 26)) 26 #[.slice none 0 0, .slice none 0 0]
    rwa [World.size_alloc, World.size_alloc] at q)
  have CS := Lib.hid (rmulshape_any vs vt a b w2 (hs.below B2.out) (ht.below B2.out) ka.1 kb.1)
  have HLd := Lib.hid (And.intro hs (And.intro hd (And.intro ht he)))
  obtain ⟨o1, n1, rfl, _, _⟩ := hs
  obtain ⟨o2, n2, rfl, _, hdx⟩ := hd
  obtain ⟨o3, n3, rfl, _, _⟩ := ht
  obtain ⟨o4, n4, rfl, _, hdy⟩ := he
  have HDX := Lib.hid (And.intro hdx hdy)
  have HW := Lib.hid hw2
  have HSZ := Lib.hid hsz
  rw [hw2] at CS
  by_cases hms : mse a b = 0
  · have hfit : mfit a b = true := by
      cases c : mfit a b with
      | true => rfl
      | false => unfold mse at hms; rw [c, if_neg (by decide : ¬ (false = true))] at hms; exact absurd hms (by decide)
    have hmay : may (msh a b) = true := by
      cases c : may (msh a b) with
      | true => rfl
      | false => unfold mse at hms; rw [hfit, c, if_pos rfl, if_neg (by decide : ¬ (false = true))] at hms; exact absurd hms (by decide)
    obtain ⟨D, C, Rb, NB, eD, eC, eD2, eR, p1, p2, p3, hD, hC, hR, hN, h6, h7, h8⟩ := mul_parts hfit ka.1 kb.1 hmay
    have e0 : mun a b = NB * Rb * C := by unfold mun; rw [p3]; rfl
    have hNm := mun_msh hmay
    obtain ⟨N, hNe⟩ : ∃ N, N = mun a b := ⟨_, rfl⟩
    have hE : mue a da b db f = fer (fun n => te (rd (mux a da b db n) (2 ^ f))) N := by unfold mue; rw [if_pos hfit, if_pos hmay, hNe]
    obtain ⟨E, hEe⟩ : ∃ E, E = mue a da b db f := ⟨_, rfl⟩
    obtain ⟨VL, hVL⟩ : ∃ VL, VL = muw a da b db f := ⟨_, rfl⟩
    rw [← hEe, ← hVL]
    have HE : Hid (E = fer (fun n => te (rd (mux a da b db n) (2 ^ f))) N) := Lib.hid (by rw [hEe]; exact hE)
    have HVL := Lib.hid (And.intro (show VL.length = N by rw [hVL, muw_len, hNe]) (show ∀ k, k < N → VL.take (k + 1) = VL.take k ++ [tw (rd (mux a da b db k) (2 ^ f))] from fun k hk => by rw [hVL]; unfold muw; exact vls_snoc _ (by rw [← hNe]; exact hk)))
    have HMUX : Hid (∀ n, mux a da b db n = smA (fun k => da.getD (n / C * D + k) 0 * db.getD (n / C / Rb * (D * C) + (k * C + n % C)) 0) D) := Lib.hid (fun n => by unfold mux; rw [eD, eC, eR]; rfl)
    have HAT := Lib.hid (fun (n k : Nat) (hn : n < N) (hk : k < D) => mul_at (NB := NB) hfit ka.1 kb.1 eD eC eD2 eR p3 hR (by rw [← e0, ← hNe]; exact hn) hk hC.1)
    have HBD : Hid (∀ n k, n < N → k < D → n / C * D + k < da.length ∧ n / C / Rb * (D * C) + (k * C + n % C) < db.length) := Lib.hid (fun n k hn hk => by
      have h := HAT.out n k hn hk
      have ra := ix_bd h.row.1
      rw [h.row.2, ← ka.2.1] at ra
      have rb : 0 ≤ ((n / C / Rb * (D * C) + (k * C + n % C) : Nat) : Int) ∧ ((n / C / Rb * (D * C) + (k * C + n % C) : Nat) : Int) < prod b := by
        rcases (mfit_len hfit).2.2.1 with c | c
        · have := ix_bd (h.col2 c).1; rwa [(h.col2 c).2] at this
        · have := ix_bd (h.col3 c).1; rwa [(h.col3 c).2] at this
      rw [← kb.2.1] at rb
      omega)
    have HWW := Lib.hid (And.intro (fun k (hk : k < da.length) => wds_wd ka.2.2 hk) (fun k (hk : k < db.length) => wds_wd kb.2.2 hk))
    have CT := Lib.hid (fun (W : World) (v : Value) (n : Nat) (hv : Ld W v (msh a b)) (hn : n < N) => rat_any v (msh a b) n W hv hmay (by omega) (by rw [← hNm.1, ← hNe]; omega))
    have CC : Hid (∀ (W : World) (v : Value), Ld W v (msh a b) → Calls Tryz.prog 46 #[v] W fun e w' => e = .returned (.int .i64 (N : Int)) ∧ W = w') := Lib.hid (fun W v h => by
      have := rcount_any v (msh a b) W h (may_dms hmay) (by have := may_len hmay; omega)
      rwa [rct_may hmay, ← hNm.1, ← hNe] at this)
    have CP := Lib.hid (fun (W : World) (vi : Value) (n k : Nat) (hW : Below w.heap.size w W) (hi : Ld W vi (atl (msh a b) (n : Nat))) (hn : n < N) (hk : k < D) => rpair_any _ _ vi a b _ k _ _ _ W (HLd.out.1.below hW) (HLd.out.2.2.1.below hW) hi ka.1 kb.1 (mfit_len hfit).1 (mfit_len hfit).2.2.1 (HAT.out n k hn hk).len (by omega) (HAT.out n k hn hk).row (HAT.out n k hn hk).last (HAT.out n k hn hk).col2 (HAT.out n k hn hk).col3)
    have HSH : Hid ((msh a b).length = a.length ∧ 2 ≤ a.length ∧ a.length ≤ 4) := Lib.hid ⟨msh_len a b, (mfit_len hfit).1, may_len ka.1⟩
    have HD := Lib.hid (And.intro hD (And.intro eD (show N ≤ 65536 by rw [hNe]; exact hNm.2)))
    have HF := Lib.hid hf32
    have u0 : unl (mse a b) (msh a b) = msh a b := by rw [hms]; exact if_pos rfl
    rw [hms, show unl 0 (msh a b) = msh a b from if_pos rfl] at CS
    clear hw2 hsz hdx hdy ka kb hf hf32 hms hfit hmay eD eC eD2 eR p1 p2 p3 hD hC hR hN h6 h7 h8 e0 hNm hNe hE hEe hVL u0 ta tb
    obtain ⟨L6, hL6⟩ : ∃ L6, L6 = msh a b := ⟨_, rfl⟩
    rw [← hL6] at CS CT CC CP HSH ⊢
    clear hL6
    go_enter Tryz.func38, Tryz.ntmps38
    go_upto_region 5 with (go_at_call 97; (with_reducible refine CS.out.mono ?_); rintro e w3 ⟨oS, cS, rfl, h1, hb1⟩; rw [← HW.out] at hb1; have B3 := Lib.hid hb1; have H1 := Lib.hid h1; clear hb1 h1)
    obtain ⟨w4, hw4⟩ : ∃ v, v = w3.alloc (.cells #[.slice oS L6.length cS, .slice none 0 0] 26) := ⟨_, rfl⟩
    obtain ⟨T10, hT10⟩ : ∃ v, v = w3.heap.size := ⟨_, rfl⟩
    rw [← hw4, ← hT10]
    have KT0 : Hid (Blk w4 T10 26 #[.slice oS L6.length cS, .slice none 0 0]) := Lib.hid (by rw [hw4, hT10]; exact Blk.new _ _ _)
    have BT0 : Hid (Below T10 w3 w4) := Lib.hid (by rw [hw4, hT10]; exact (Below.refl _ _).alloc (Nat.le_refl _) _)
    have HS4 : Hid (w4.heap.size = T10 + 1) := Lib.hid (by rw [hw4, hT10]; simp)
    have KF : Hid (∀ W, Below T10 w3 W → Below w.heap.size w W ∧ Blk W w.heap.size 26 #[.slice o1 a.length n1, .slice o2 da.length n2] ∧ Blk W (w.heap.size + 1) 26 #[.slice o3 b.length n3, .slice o4 db.length n4] ∧ Blk W (w.heap.size + 2) 26 #[.slice none 0 0, .slice none 0 0] ∧ Ld W (.slice oS L6.length cS) L6) := Lib.hid (fun W hW => by
      rw [hT10] at hW
      have b := B3.out
      have hs := b.size
      have e2 := HSZ.out
      have b2 := b.trans (hW.mono hs)
      exact ⟨B2.out.trans (b2.mono (by omega)), K0.out.below b2 (by omega), K1.out.below b2 (by omega), K2.out.below b2 (by omega), H1.out.below hW⟩)
    have HTT : Hid (w.heap.size + 3 ≤ T10) := Lib.hid (by have := B3.out.size; have := HSZ.out; omega)
    clear hw4 hT10 H1 B3 K0 K1 K2 B2 HW HSZ CS
    go_wp2
    go_loopw [11] (fun s11 wr => ∃ (n : Nat) (us : Value), n ≤ N ∧ s11 = .int .i64 n ∧ Hid (∀ j, j < n → te (rd (mux a da b db j) (2 ^ f)) = 0) ∧ Hid (Blk wr T10 26 #[.slice oS L6.length cS, us]) ∧ Hid (wr.ownsRow (T10 + 1) 2 1 us n (ints (VL.take n))) ∧ Hid (Below T10 w3 wr) ∧ Hid (T10 + 1 ≤ wr.heap.size)) (fun s11 _ => N - (intOf s11).toNat)
    case atStart => exact ⟨0, .slice none 0 0, Nat.zero_le _, rfl, Lib.hid (fun j hj => absurd hj (Nat.not_lt_zero _)), KT0, Lib.hid (World.ownsRow_nil _ _ _ _), BT0, Lib.hid (Nat.le_of_eq HS4.out.symm)⟩
    case round =>
      clear KT0 BT0 HS4
      obtain ⟨wo, hwo⟩ : ∃ v, v = wr := ⟨_, rfl⟩
      subst hwo
      obtain ⟨n, us, hn, rfl, HR, KT, KU, KB, KZ⟩ := hrel
      have hnb : n ≤ 65536 := by have := HD.out.2.2; omega
      have HQ0 := Lib.hid (KF.out wo KB.out)
      by_cases hlt : n < N
      · as_aux_lemma =>
        obtain ⟨d, hd⟩ : ∃ d : Nat → Int, d = fun k => da.getD (n / C * D + k) 0 * db.getD (n / C / Rb * (D * C) + (k * C + n % C)) 0 := ⟨_, rfl⟩
        have HMX : Hid (mux a da b db n = smA d D) := Lib.hid (by rw [hd]; exact HMUX.out n)
        have HDB : Hid (∀ k, k < D → -19807040628566084398385987584 ≤ d k ∧ d k ≤ 19807040628566084398385987584) := Lib.hid (fun k hk => by rw [hd]; have q := HBD.out n k hlt hk; exact word_mul (HWW.out.1 _ q.1) (HWW.out.2 _ q.2))
        have HDE : Hid (∀ k, d k = da.getD (n / C * D + k) 0 * db.getD (n / C / Rb * (D * C) + (k * C + n % C)) 0) := Lib.hid (fun k => by rw [hd])
        have HLN := Lib.hid hlt
        have hltI : (n : Int) < (N : Int) := by omega
        have KZR := Lib.hid (fun (W : World) => ifrom_any 0 W (by decide) (by decide))
        clear hd
        go_upto_region 9 with (first
          | (go_at_call 46; (with_reducible refine (CC.out _ _ HQ0.out.2.2.2.2).mono ?_); rintro e w' ⟨rfl, rfl⟩)
          | (go_at_call 53; (with_reducible refine (KZR.out _).mono ?_); rintro e w5 ⟨vf, rfl, hf, hb⟩; obtain ⟨b0, of, lf0, cf, rfl, Hf⟩ := hf.open; have U5 := Lib.hid (And.intro hb (IsI.mk Hf.out.1 Hf.out.2.1)); clear hb hf Hf))
        obtain ⟨v12, hv12⟩ : ∃ v, v = w5.alloc (.cells #[.bool b0, .slice of lf0 cf] 95) := ⟨_, rfl⟩
        obtain ⟨T12, hT12⟩ : ∃ v, v = w5.heap.size := ⟨_, rfl⟩
        rw [← hv12, ← hT12]
        have HQI : Hid (IBX v12 T12 b0 of lf0 cf (smA d 0)) := Lib.hid (by rw [hv12, hT12]; exact ⟨Blk.new _ _ _, U5.out.2.below (al_below _)⟩)
        have BGI : Hid (Below T12 v12 v12) := Lib.hid (Below.refl _ _)
        have BO12 : Hid (Below wo.heap.size wo v12) := Lib.hid (by rw [hv12]; exact U5.out.1.trans ((al_below _).mono U5.out.1.size))
        have HT12 : Hid (wo.heap.size ≤ T12 ∧ T12 < v12.heap.size) := Lib.hid ⟨by rw [hT12]; exact U5.out.1.size, by rw [hv12, hT12]; simp⟩
        have KW : Hid (∀ W, Below T12 v12 W → Below wo.heap.size wo W ∧ Below w.heap.size w W ∧ Blk W w.heap.size 26 #[.slice o1 a.length n1, .slice o2 da.length n2] ∧ Blk W (w.heap.size + 1) 26 #[.slice o3 b.length n3, .slice o4 db.length n4] ∧ Ld W (.slice oS L6.length cS) L6) := Lib.hid (fun W hW => by
          have u := BO12.out.trans (hW.mono HT12.out.1)
          have q := KF.out W (KB.out.trans (u.mono (by have := KZ.out; omega)))
          exact ⟨u, q.1, q.2.1, q.2.2.1, q.2.2.2.2⟩)
        have HQ0 := ()
        clear HQ0 hv12 hT12 U5
        obtain ⟨gA, fA, hoA, zA⟩ := ld_at HLd.out.1 (k := a.length - 1) (by have := HSH.out; omega)
        subst hoA
        obtain ⟨la1, hla1⟩ : ∃ m, m = a.length - 1 := ⟨_, rfl⟩
        rw [HD.out.2.1] at zA
        rw [← hla1] at zA
        have hgA : gA < w.heap.size := World.block_lt_of_cell? _ _ zA
        obtain ⟨e1, e2⟩ := nat_wrap_sub (a := a.length) (k := 1) (c := la1) (by have := HSH.out; omega) (by have := HSH.out; omega) (by decide)
        have i1 : (la1 : Int) < (a.length : Int) := by have := HSH.out; omega
        have HZA : Hid (∀ W, Below w.heap.size w W → W.cell? ⟨gA, fA + la1, none⟩ = some (.int .i64 (D : Nat))) := Lib.hid (fun W hW => (hW.cell (p := ⟨gA, fA + la1, none⟩) hgA).trans zA)
        clear zA hla1
        go_wp2
        go_loopw [13] (fun s13 wr => ∃ (k : Nat) (b : Bool) (o : Option Addr) (l c : Nat), k ≤ D ∧ s13 = .int .i64 k ∧ Hid (IBX wr T12 b o l c (smA d k)) ∧ Hid (Below T12 v12 wr)) (fun s13 _ => D - (intOf s13).toNat)
        case atStart => exact ⟨0, b0, of, lf0, cf, Nat.zero_le _, rfl, HQI, BGI⟩
        case round =>
          clear HQI BGI
          obtain ⟨wk, hwk⟩ : ∃ v, v = wr := ⟨_, rfl⟩
          subst hwk
          obtain ⟨k, ba, oa, la, ca, hk, rfl, HQ, BG⟩ := hrel
          have hkb : k ≤ 4096 := by have := HD.out.1; omega
          have qk := KW.out wk BG.out
          have t0 : wk.cell? ⟨w.heap.size, 0, none⟩ = some (.slice (some ⟨gA, fA, none⟩) a.length n1) := qk.2.2.1.cell 0
          have zA := HZA.out wk qk.2.1
          clear qk
          by_cases hlk : k < D
          · as_aux_lemma =>
            obtain ⟨P, hP⟩ : ∃ P, P = n / C * D + k := ⟨_, rfl⟩
            obtain ⟨Q, hQ⟩ : ∃ Q, Q = n / C / Rb * (D * C) + (k * C + n % C) := ⟨_, rfl⟩
            have hb0 := HBD.out n k HLN.out hlk
            have hdk := HDE.out k
            rw [← hP, ← hQ] at hb0 hdk
            have KPR := Lib.hid (fun (W : World) (vi : Value) (hW : Below wk.heap.size wk W) (hi : Ld W vi (atl L6 (n : Nat))) => CP.out W vi n k (KW.out wk BG.out |>.2.1.trans (hW.mono (KW.out wk BG.out).2.1.size)) hi HLN.out hlk)
            rw [← hP, ← hQ] at KPR
            have KAT := Lib.hid (fun (W : World) (hW : Below wk.heap.size wk W) => CT.out W _ n ((KW.out wk BG.out).2.2.2.2.below hW) HLN.out)
            obtain ⟨bX, fX, rfl, hbX, hcX⟩ := HDX.out.1 P hb0.1
            obtain ⟨bY, fY, rfl, hbY, hcY⟩ := HDX.out.2 Q hb0.2
            have wx := HWW.out.1 P hb0.1
            have wy := HWW.out.2 Q hb0.2
            obtain ⟨x, hx⟩ : ∃ x, x = da.getD P 0 := ⟨_, rfl⟩
            obtain ⟨y, hy⟩ : ∃ y, y = db.getD Q 0 := ⟨_, rfl⟩
            rw [← hx] at hcX wx hdk
            rw [← hy] at hcY wy hdk
            have bx := wd_bd wx
            have byy := wd_bd wy
            have bxy := word_mul wx wy
            have KFA := Lib.hid (fun (W : World) => ifrom_any x W (by omega) (by omega))
            have KFB := Lib.hid (fun (W : World) => ifrom_any y W (by omega) (by omega))
            have KTM := Lib.hid (fun (W : World) (u v : Value) (hu : IsI W u x) (hv : IsI W v y) => itimes_any u v x y W hu hv (big_of (k := 64) (by omega) (by decide)) (big_of (k := 64) (by omega) (by decide)))
            have sl := mul_low (d := d) (n := k) (by omega) (fun j hj => HDB.out j (by omega))
            have KPL : Hid (∀ (W : World) (u v : Value), IsI W u (smA d k) → IsI W v (x * y) → Calls Tryz.prog 54 #[u, v] W (SomeI W (smA d (k + 1)))) := Lib.hid (fun W u v hu hv => by
              have q := iplus_any u v _ _ W hu hv (low_big sl).1 (big_of (k := 120) (by omega) (by decide))
              rwa [← hdk] at q)
            have KSW : Hid (∀ W, Below wk.heap.size wk W → W.cell? ⟨w.heap.size, 1, none⟩ = some (.slice (some ⟨bX, fX, none⟩) da.length n2) ∧ W.cell? ⟨bX, fX + P, none⟩ = some (.int .i64 x) ∧ W.cell? ⟨w.heap.size + 1, 1, none⟩ = some (.slice (some ⟨bY, fY, none⟩) db.length n4) ∧ W.cell? ⟨bY, fY + Q, none⟩ = some (.int .i64 y)) := Lib.hid (fun W hW => by
              have q := KW.out wk BG.out
              have bw := q.2.1.trans (hW.mono q.2.1.size)
              exact ⟨(q.2.2.1.below hW q.2.2.1.lt).cell 1, (bw.cell (p := ⟨bX, fX + P, none⟩) hbX).trans hcX, (q.2.2.2.1.below hW q.2.2.2.1.lt).cell 1, (bw.cell (p := ⟨bY, fY + Q, none⟩) hbY).trans hcY⟩)
            have KSX : Hid (∀ (W : World) (u v : Value), Below wk.heap.size wk W → ((W.setCell ⟨T12, 0, none⟩ u).setCell ⟨T12, 1, none⟩ v).cell? ⟨w.heap.size, 1, none⟩ = some (.slice (some ⟨bX, fX, none⟩) da.length n2) ∧ ((W.setCell ⟨T12, 0, none⟩ u).setCell ⟨T12, 1, none⟩ v).cell? ⟨bX, fX + P, none⟩ = some (.int .i64 x) ∧ ((W.setCell ⟨T12, 0, none⟩ u).setCell ⟨T12, 1, none⟩ v).cell? ⟨w.heap.size + 1, 1, none⟩ = some (.slice (some ⟨bY, fY, none⟩) db.length n4) ∧ ((W.setCell ⟨T12, 0, none⟩ u).setCell ⟨T12, 1, none⟩ v).cell? ⟨bY, fY + Q, none⟩ = some (.int .i64 y)) := Lib.hid (fun W u v hW => by
              have q := KW.out _ (((BG.out.trans (hW.mono (Nat.le_of_lt HQ.out.1.lt))).setCell (p := ⟨T12, 0, none⟩) (Nat.le_refl _) u).setCell (p := ⟨T12, 1, none⟩) (Nat.le_refl _) v)
              exact ⟨q.2.2.1.cell 1, (q.2.1.cell (p := ⟨bX, fX + P, none⟩) hbX).trans hcX, q.2.2.2.1.cell 1, (q.2.1.cell (p := ⟨bY, fY + Q, none⟩) hbY).trans hcY⟩)
            have KS12 : Hid (∀ W, Below wk.heap.size wk W → W.cell? ⟨w.heap.size, 0, none⟩ = some (.slice (some ⟨gA, fA, none⟩) a.length n1) ∧ W.cell? ⟨w.heap.size + 1, 0, none⟩ = some (.slice o3 b.length n3)) := Lib.hid (fun W hW => by
              have q := KW.out wk BG.out
              exact ⟨(q.2.2.1.below hW q.2.2.1.lt).cell 0, (q.2.2.2.1.below hW q.2.2.2.1.lt).cell 0⟩)
            have HGT : Hid (T12 ≤ wk.heap.size) := Lib.hid (Nat.le_of_lt HQ.out.1.lt)
            have i3 : (P : Int) < (da.length : Int) := by omega
            have i4 : (Q : Int) < (db.length : Int) := by omega
            have hlkI : (k : Int) < (D : Int) := by omega
            clear hP hQ hb0 hdk hbX hcX hbY hcY wx wy hx hy bx byy bxy sl CP CT
            go_upto_region 12 with fail
            clear t0 zA
            have B_0 : Hid (Below wk.heap.size wk wk.drew) := Lib.hid (below_drw (Below.refl _ _) 1)
            refine wp_region_held_drew (S := fun W => W.cell? ⟨w.heap.size, 0, none⟩ = some (.slice (some ⟨gA, fA, none⟩) a.length n1) ∧ W.cell? ⟨w.heap.size + 1, 0, none⟩ = some (.slice o3 b.length n3)) (by kernel_rfl) ?_ (fun hHeld => ?_)
            · exact KS12.out _ B_0.out
            have hHd := hHeld
            generalize wk.drew = w_0 at *
            (refine tk (i := 0) (oi := ⟨some 52, _, _, _, _, _⟩) (v := ?v0_r1) rfl ?hy0_r1 ?rest0_r1; (case hy0_r1 => intro w hSw; (try dsimp only at hSw); go_simp; first | done | with_reducible rfl))
            (try simp only [Act.put, pq])
            (refine tk (i := 1) (oi := ⟨some 53, _, _, _, _, _⟩) (v := ?v1_r2) rfl ?hy1_r2 ?rest1_r2; (case hy1_r2 => intro w hSw; (try dsimp only at hSw); go_simp; first | done | with_reducible rfl))
            (try simp only [Act.put, pq])
            (refine tk (i := 2) (oi := ⟨some 54, _, _, _, _, _⟩) (v := ?v2_r3) rfl ?hy2_r3 ?rest2_r3; (case hy2_r3 => intro w hSw; (try dsimp only at hSw); go_simp; first | done | with_reducible rfl))
            (try simp only [Act.put, pq])
            (refine tk (i := 3) (oi := ⟨some 55, _, _, _, _, _⟩) (v := ?v3_r4) rfl ?hy3_r4 ?rest3_r4; (case hy3_r4 => intro w hSw; (try dsimp only at hSw); go_simp; first | done | with_reducible rfl))
            (try simp only [Act.put, pq])
            (refine tk (i := 4) (oi := ⟨some 56, _, _, _, _, _⟩) (v := ?v4_r5) rfl ?hy4_r5 ?rest4_r5; (case hy4_r5 => intro w hSw; (try dsimp only at hSw); go_simp; first | done | with_reducible rfl))
            (try simp only [Act.put, pq])
            (refine tk (i := 5) (oi := ⟨some 57, _, _, _, _, _⟩) (v := ?v5_r6) rfl ?hy5_r6 ?rest5_r6; (case hy5_r6 => intro w hSw; (try dsimp only at hSw); go_simp; first | done | with_reducible rfl))
            (try simp only [Act.put, pq])
            (refine tk (i := 7) (oi := ⟨some 59, _, _, _, _, _⟩) (v := ?v7_r7) rfl ?hy7_r7 ?rest7_r7; (case hy7_r7 => intro w hSw; (try dsimp only at hSw); go_simp; first | done | with_reducible rfl))
            (try simp only [Act.put, pq])
            refine wpAnyH_ready (rs := [6]) (by kernel_rfl) (by simp) ?_
            refine AllReadyH.cons (o := ⟨some 58, _, _, _, _, _⟩) rfl (fun K hK => ?_) (AllReadyH.nil)
            go_simp
            (go_at_call 50; (with_reducible refine (KAT.out _ B_0.out).mono ?_); rintro e w_1 ⟨v5, rfl, h5, hb⟩; obtain ⟨o5, c5, rfl, _, _⟩ := id h5; have H5 := Lib.hid h5; have B_1 := Lib.hid (B_0.out.trans (hb.mono B_0.out.size)); clear h5 hb)
            refine hK.out _ _ ?_ (fun hHeld => ?_)
            · (try dsimp only)
              exact KS12.out _ B_1.out
            clear hK K
            (try simp only [Act.put, pq])
            refine wpAnyH_ready (rs := [8]) (by kernel_rfl) (by simp) ?_
            refine AllReadyH.cons (o := ⟨some 60, _, _, _, _, _⟩) rfl (fun K hK => ?_) (AllReadyH.nil)
            go_simp
            (go_at_call 98; (with_reducible refine (KPR.out _ _ B_1.out H5.out).mono ?_); rintro e w_2 ⟨rfl, hb⟩; have B_2 := Lib.hid (B_1.out.trans (hb.mono B_1.out.size)); clear hb)
            refine hK.out _ _ ?_ (fun hHeld => ?_)
            · (try dsimp only)
              exact KS12.out _ B_2.out
            clear hK K
            (try simp only [Act.put, pq])
            (refine tk (i := 9) (oi := ⟨some 51, _, _, _, _, _⟩) (v := ?v9_r8) rfl ?hy9_r8 ?rest9_r8; (case hy9_r8 => intro w hSw; (try dsimp only at hSw); go_simp; first | done | with_reducible rfl))
            (try simp only [Act.put, pq])
            (refine tk (i := 10) (oi := ⟨some 61, _, _, _, _, _⟩) (v := ?v10_r9) rfl ?hy10_r9 ?rest10_r9; (case hy10_r9 => intro w hSw; (try dsimp only at hSw); go_simp; first | done | with_reducible rfl))
            (try simp only [Act.put, pq])
            (refine tk (i := 11) (oi := ⟨some 62, _, _, _, _, _⟩) (v := ?v11_r10) rfl ?hy11_r10 ?rest11_r10; (case hy11_r10 => intro w hSw; (try dsimp only at hSw); go_simp; first | done | with_reducible rfl))
            (try simp only [Act.put, pq])
            (refine tk (i := 12) (oi := ⟨some 14, _, _, _, _, _⟩) (v := ?v12_r11) rfl ?hy12_r11 ?rest12_r11; (case hy12_r11 => intro w hSw; (try dsimp only at hSw); go_simp; first | done | with_reducible rfl))
            (try simp only [Act.put, pq])
            (refine tk (i := 13) (oi := ⟨some 15, _, _, _, _, _⟩) (v := ?v13_r12) rfl ?hy13_r12 ?rest13_r12; (case hy13_r12 => intro w hSw; (try dsimp only at hSw); go_simp; first | done | with_reducible rfl))
            (try simp only [Act.put, pq])
            refine wpAnyH_done (by kernel_rfl) ?_ _
            go_upto_region 13 with fail
            have X_0 : Hid (Below w_2.heap.size w_2 w_2.drew) := Lib.hid (below_drw (Below.refl _ _) 1)
            have HQ0 : Hid (IBX w_2.drew T12 ba oa la ca (smA d k)) := Lib.hid (IBX.below (IBX.below HQ.out B_2.out) X_0.out)
            have KS13 : Hid (∀ W, Below w_2.heap.size w_2 W → W.cell? ⟨w.heap.size, 1, none⟩ = some (.slice (some ⟨bX, fX, none⟩) da.length n2) ∧ W.cell? ⟨bX, fX + P, none⟩ = some (.int .i64 x) ∧ W.cell? ⟨w.heap.size + 1, 1, none⟩ = some (.slice (some ⟨bY, fY, none⟩) db.length n4) ∧ W.cell? ⟨bY, fY + Q, none⟩ = some (.int .i64 y)) := Lib.hid (fun W hW => KSW.out W (B_2.out.trans (hW.mono B_2.out.size)))
            have KS13b : Hid (∀ (W : World) (u v : Value), Below w_2.heap.size w_2 W → ((W.setCell ⟨T12, 0, none⟩ u).setCell ⟨T12, 1, none⟩ v).cell? ⟨w.heap.size, 1, none⟩ = some (.slice (some ⟨bX, fX, none⟩) da.length n2) ∧ ((W.setCell ⟨T12, 0, none⟩ u).setCell ⟨T12, 1, none⟩ v).cell? ⟨bX, fX + P, none⟩ = some (.int .i64 x) ∧ ((W.setCell ⟨T12, 0, none⟩ u).setCell ⟨T12, 1, none⟩ v).cell? ⟨w.heap.size + 1, 1, none⟩ = some (.slice (some ⟨bY, fY, none⟩) db.length n4) ∧ ((W.setCell ⟨T12, 0, none⟩ u).setCell ⟨T12, 1, none⟩ v).cell? ⟨bY, fY + Q, none⟩ = some (.int .i64 y)) := Lib.hid (fun W u v hW => KSX.out W u v (B_2.out.trans (hW.mono B_2.out.size)))
            refine wp_region_held_drew (S := fun W => W.cell? ⟨w.heap.size, 1, none⟩ = some (.slice (some ⟨bX, fX, none⟩) da.length n2) ∧ W.cell? ⟨bX, fX + P, none⟩ = some (.int .i64 x) ∧ W.cell? ⟨w.heap.size + 1, 1, none⟩ = some (.slice (some ⟨bY, fY, none⟩) db.length n4) ∧ W.cell? ⟨bY, fY + Q, none⟩ = some (.int .i64 y)) (by kernel_rfl) ?_ (fun hHeld => ?_)
            · exact KS13.out _ X_0.out
            have hHd := hHeld
            generalize w_2.drew = x_0 at *
            (refine tk (i := 1) (oi := ⟨some 64, _, _, _, _, _⟩) (v := ?v1_s1) rfl ?hy1_s1 ?rest1_s1; (case hy1_s1 => intro w hSw; (try dsimp only at hSw); go_simp; first | done | with_reducible rfl))
            (try simp only [Act.put, pq])
            (refine tk (i := 2) (oi := ⟨some 65, _, _, _, _, _⟩) (v := ?v2_s2) rfl ?hy2_s2 ?rest2_s2; (case hy2_s2 => intro w hSw; (try dsimp only at hSw); go_simp; first | done | with_reducible rfl))
            (try simp only [Act.put, pq])
            (refine tk (i := 3) (oi := ⟨some 66, _, _, _, _, _⟩) (v := ?v3_s3) rfl ?hy3_s3 ?rest3_s3; (case hy3_s3 => intro w hSw; (try dsimp only at hSw); go_simp; first | done | with_reducible rfl))
            (try simp only [Act.put, pq])
            (refine tk (i := 4) (oi := ⟨some 67, _, _, _, _, _⟩) (v := ?v4_s4) rfl ?hy4_s4 ?rest4_s4; (case hy4_s4 => intro w hSw; (try dsimp only at hSw); go_simp; first | done | with_reducible rfl))
            (try simp only [Act.put, pq])
            (refine tk (i := 5) (oi := ⟨some 68, _, _, _, _, _⟩) (v := ?v5_s5) rfl ?hy5_s5 ?rest5_s5; (case hy5_s5 => intro w hSw; (try dsimp only at hSw); go_simp; first | done | with_reducible rfl))
            (try simp only [Act.put, pq])
            (refine tk (i := 7) (oi := ⟨some 70, _, _, _, _, _⟩) (v := ?v7_s6) rfl ?hy7_s6 ?rest7_s6; (case hy7_s6 => intro w hSw; (try dsimp only at hSw); go_simp; first | done | with_reducible rfl))
            (try simp only [Act.put, pq])
            (refine tk (i := 8) (oi := ⟨some 71, _, _, _, _, _⟩) (v := ?v8_s7) rfl ?hy8_s7 ?rest8_s7; (case hy8_s7 => intro w hSw; (try dsimp only at hSw); go_simp; first | done | with_reducible rfl))
            (try simp only [Act.put, pq])
            (refine tk (i := 9) (oi := ⟨some 72, _, _, _, _, _⟩) (v := ?v9_s8) rfl ?hy9_s8 ?rest9_s8; (case hy9_s8 => intro w hSw; (try dsimp only at hSw); go_simp; first | done | with_reducible rfl))
            (try simp only [Act.put, pq])
            (refine tk (i := 10) (oi := ⟨some 73, _, _, _, _, _⟩) (v := ?v10_s9) rfl ?hy10_s9 ?rest10_s9; (case hy10_s9 => intro w hSw; (try dsimp only at hSw); go_simp; first | done | with_reducible rfl))
            (try simp only [Act.put, pq])
            (refine tk (i := 11) (oi := ⟨some 74, _, _, _, _, _⟩) (v := ?v11_s10) rfl ?hy11_s10 ?rest11_s10; (case hy11_s10 => intro w hSw; (try dsimp only at hSw); go_simp; first | done | with_reducible rfl))
            (try simp only [Act.put, pq])
            refine wpAnyH_ready (rs := [0, 6]) (by kernel_rfl) (by simp) ?_
            refine AllReadyH.cons (o := ⟨some 63, _, _, _, _, _⟩) rfl (fun K hK => ?_) (AllReadyH.cons (o := ⟨some 69, _, _, _, _, _⟩) rfl (fun K hK => ?_) (AllReadyH.nil))
            · have l0 := (IBX.box HQ0.out).cell 0
              have l1 := (IBX.box HQ0.out).cell 1
              go_simp
              refine hK.out _ _ ?_ (fun hHeld => ?_)
              · (try dsimp only)
                exact KS13.out _ X_0.out
              clear hK K
              (try simp only [Act.put, pq])
              refine wpAnyH_ready (rs := [6]) (by kernel_rfl) (by simp) ?_
              refine AllReadyH.cons (o := ⟨some 69, _, _, _, _, _⟩) rfl (fun K hK => ?_) (AllReadyH.nil)
              go_simp
              (go_at_call 53; (with_reducible refine (KFA.out _).mono ?_); rintro e x_1 ⟨vf, rfl, hf, hb⟩; obtain ⟨bf, of, lf_, cf, rfl, Hf⟩ := hf.open; have X_1 := Lib.hid (X_0.out.trans (hb.mono X_0.out.size)); have HQ1 := Lib.hid (IBX.below HQ0.out hb); have HF := Lib.hid (IsI.mk Hf.out.1 Hf.out.2.1); clear hb hf Hf)
              refine hK.out _ _ ?_ (fun hHeld => ?_)
              · (try dsimp only)
                exact KS13.out _ X_1.out
              clear hK K
              (try simp only [Act.put, pq])
              refine wpAnyH_ready (rs := [12]) (by kernel_rfl) (by simp) ?_
              refine AllReadyH.cons (o := ⟨some 75, _, _, _, _, _⟩) rfl (fun K hK => ?_) (AllReadyH.nil)
              go_simp
              (go_at_call 53; (with_reducible refine (KFB.out _).mono ?_); rintro e x_2 ⟨vg, rfl, hf, hb⟩; obtain ⟨bg, og, lg_, cg, rfl, Hg⟩ := hf.open; have X_2 := Lib.hid (X_1.out.trans (hb.mono X_1.out.size)); have HQ2 := Lib.hid (IBX.below HQ1.out hb); have HF2 := Lib.hid (HF.out.below hb); have HG2 := Lib.hid (IsI.mk Hg.out.1 Hg.out.2.1); clear hb hf Hg)
              refine hK.out _ _ ?_ (fun hHeld => ?_)
              · (try dsimp only)
                exact KS13.out _ X_2.out
              clear hK K
              (try simp only [Act.put, pq])
              refine wpAnyH_ready (rs := [13]) (by kernel_rfl) (by simp) ?_
              refine AllReadyH.cons (o := ⟨some 76, _, _, _, _, _⟩) rfl (fun K hK => ?_) (AllReadyH.nil)
              go_simp
              (go_at_call 81; (with_reducible refine (KTM.out _ _ _ HF2.out HG2.out).mono ?_); rintro e x_3 ⟨vh, rfl, hf, hb⟩; obtain ⟨bh, oh, lh_, ch, rfl, Hh⟩ := hf.open; have X_3 := Lib.hid (X_2.out.trans (hb.mono X_2.out.size)); have HQ3 := Lib.hid (IBX.below HQ2.out hb); have HH := Lib.hid (IsI.mk Hh.out.1 Hh.out.2.1); clear hb hf Hh)
              refine hK.out _ _ ?_ (fun hHeld => ?_)
              · (try dsimp only)
                exact KS13.out _ X_3.out
              clear hK K
              (try simp only [Act.put, pq])
              refine wpAnyH_ready (rs := [14]) (by kernel_rfl) (by simp) ?_
              refine AllReadyH.cons (o := ⟨some 77, _, _, _, _, _⟩) rfl (fun K hK => ?_) (AllReadyH.nil)
              go_simp
              (go_at_call 54; (with_reducible refine (KPL.out _ _ _ (IBX.num HQ3.out) HH.out).mono ?_); rintro e x_4 ⟨vp, rfl, hf, hb⟩; obtain ⟨bp, op, lp, cp, rfl, Hp⟩ := hf.open; have X_4 := Lib.hid (X_3.out.trans (hb.mono X_3.out.size)); have HQ4 := Lib.hid (IBX.below HQ3.out hb); have HP := Lib.hid (IsI.mk Hp.out.1 Hp.out.2.1); clear hb hf Hp)
              refine hK.out _ _ ?_ (fun hHeld => ?_)
              · (try dsimp only)
                exact KS13.out _ X_4.out
              clear hK K
              (try simp only [Act.put, pq])
              refine wpAnyH_ready (rs := [15]) (by kernel_rfl) (by simp) ?_
              refine AllReadyH.cons (o := ⟨none, _, _, _, _, _⟩) rfl (fun K hK => ?_) (AllReadyH.nil)
              have c0 := (IBX.box HQ4.out).cell 0
              have c1 := (IBX.box HQ4.out).cell 1
              have f0 := (IBX.box HQ4.out).frozen 0
              have f1 := (IBX.box HQ4.out).frozen 1
              unfold Iv
              go_simp
              refine hK.out _ _ ?_ (fun hHeld => ?_)
              · (try dsimp only)
                exact KS13b.out _ _ _ X_4.out
              clear hK K
              (try simp only [Act.put, pq])
              refine wpAnyH_done (by kernel_rfl) ?_ _
              have H9 := Lib.hid (IBX.put HQ4.out HP.out)
              have BG9 : Hid (Below T12 v12 ((x_4.setCell ⟨T12, 0, none⟩ (.bool bp)).setCell ⟨T12, 1, none⟩ (.slice op lp cp))) := Lib.hid (((BG.out.trans ((B_2.out.trans (X_4.out.mono B_2.out.size)).mono HGT.out)).setCell (p := ⟨T12, 0, none⟩) (Nat.le_refl _) _).setCell (p := ⟨T12, 1, none⟩) (Nat.le_refl _) _)
              clear c0 c1 f0 f1
              go_wp2
              refine ⟨?_, by simp [intOf]; omega⟩
              (repeat apply Exists.intro)
              exact ⟨⟨k + 1, bp, op, lp, cp, by omega, by go_num, H9, BG9⟩, rfl⟩
            · go_simp
              (go_at_call 53; (with_reducible refine (KFA.out _).mono ?_); rintro e x_1 ⟨vf, rfl, hf, hb⟩; obtain ⟨bf, of, lf_, cf, rfl, Hf⟩ := hf.open; have X_1 := Lib.hid (X_0.out.trans (hb.mono X_0.out.size)); have HQ1 := Lib.hid (IBX.below HQ0.out hb); have HF := Lib.hid (IsI.mk Hf.out.1 Hf.out.2.1); clear hb hf Hf)
              refine hK.out _ _ ?_ (fun hHeld => ?_)
              · (try dsimp only)
                exact KS13.out _ X_1.out
              clear hK K
              (try simp only [Act.put, pq])
              refine wpAnyH_ready (rs := [0, 12]) (by kernel_rfl) (by simp) ?_
              refine AllReadyH.cons (o := ⟨some 63, _, _, _, _, _⟩) rfl (fun K hK => ?_) (AllReadyH.cons (o := ⟨some 75, _, _, _, _, _⟩) rfl (fun K hK => ?_) (AllReadyH.nil))
              · have l0 := (IBX.box HQ1.out).cell 0
                have l1 := (IBX.box HQ1.out).cell 1
                go_simp
                refine hK.out _ _ ?_ (fun hHeld => ?_)
                · (try dsimp only)
                  exact KS13.out _ X_1.out
                clear hK K
                (try simp only [Act.put, pq])
                refine wpAnyH_ready (rs := [12]) (by kernel_rfl) (by simp) ?_
                refine AllReadyH.cons (o := ⟨some 75, _, _, _, _, _⟩) rfl (fun K hK => ?_) (AllReadyH.nil)
                go_simp
                (go_at_call 53; (with_reducible refine (KFB.out _).mono ?_); rintro e x_2 ⟨vg, rfl, hf, hb⟩; obtain ⟨bg, og, lg_, cg, rfl, Hg⟩ := hf.open; have X_2 := Lib.hid (X_1.out.trans (hb.mono X_1.out.size)); have HQ2 := Lib.hid (IBX.below HQ1.out hb); have HF2 := Lib.hid (HF.out.below hb); have HG2 := Lib.hid (IsI.mk Hg.out.1 Hg.out.2.1); clear hb hf Hg)
                refine hK.out _ _ ?_ (fun hHeld => ?_)
                · (try dsimp only)
                  exact KS13.out _ X_2.out
                clear hK K
                (try simp only [Act.put, pq])
                refine wpAnyH_ready (rs := [13]) (by kernel_rfl) (by simp) ?_
                refine AllReadyH.cons (o := ⟨some 76, _, _, _, _, _⟩) rfl (fun K hK => ?_) (AllReadyH.nil)
                go_simp
                (go_at_call 81; (with_reducible refine (KTM.out _ _ _ HF2.out HG2.out).mono ?_); rintro e x_3 ⟨vh, rfl, hf, hb⟩; obtain ⟨bh, oh, lh_, ch, rfl, Hh⟩ := hf.open; have X_3 := Lib.hid (X_2.out.trans (hb.mono X_2.out.size)); have HQ3 := Lib.hid (IBX.below HQ2.out hb); have HH := Lib.hid (IsI.mk Hh.out.1 Hh.out.2.1); clear hb hf Hh)
                refine hK.out _ _ ?_ (fun hHeld => ?_)
                · (try dsimp only)
                  exact KS13.out _ X_3.out
                clear hK K
                (try simp only [Act.put, pq])
                refine wpAnyH_ready (rs := [14]) (by kernel_rfl) (by simp) ?_
                refine AllReadyH.cons (o := ⟨some 77, _, _, _, _, _⟩) rfl (fun K hK => ?_) (AllReadyH.nil)
                go_simp
                (go_at_call 54; (with_reducible refine (KPL.out _ _ _ (IBX.num HQ3.out) HH.out).mono ?_); rintro e x_4 ⟨vp, rfl, hf, hb⟩; obtain ⟨bp, op, lp, cp, rfl, Hp⟩ := hf.open; have X_4 := Lib.hid (X_3.out.trans (hb.mono X_3.out.size)); have HQ4 := Lib.hid (IBX.below HQ3.out hb); have HP := Lib.hid (IsI.mk Hp.out.1 Hp.out.2.1); clear hb hf Hp)
                refine hK.out _ _ ?_ (fun hHeld => ?_)
                · (try dsimp only)
                  exact KS13.out _ X_4.out
                clear hK K
                (try simp only [Act.put, pq])
                refine wpAnyH_ready (rs := [15]) (by kernel_rfl) (by simp) ?_
                refine AllReadyH.cons (o := ⟨none, _, _, _, _, _⟩) rfl (fun K hK => ?_) (AllReadyH.nil)
                have c0 := (IBX.box HQ4.out).cell 0
                have c1 := (IBX.box HQ4.out).cell 1
                have f0 := (IBX.box HQ4.out).frozen 0
                have f1 := (IBX.box HQ4.out).frozen 1
                unfold Iv
                go_simp
                refine hK.out _ _ ?_ (fun hHeld => ?_)
                · (try dsimp only)
                  exact KS13b.out _ _ _ X_4.out
                clear hK K
                (try simp only [Act.put, pq])
                refine wpAnyH_done (by kernel_rfl) ?_ _
                have H9 := Lib.hid (IBX.put HQ4.out HP.out)
                have BG9 : Hid (Below T12 v12 ((x_4.setCell ⟨T12, 0, none⟩ (.bool bp)).setCell ⟨T12, 1, none⟩ (.slice op lp cp))) := Lib.hid (((BG.out.trans ((B_2.out.trans (X_4.out.mono B_2.out.size)).mono HGT.out)).setCell (p := ⟨T12, 0, none⟩) (Nat.le_refl _) _).setCell (p := ⟨T12, 1, none⟩) (Nat.le_refl _) _)
                clear c0 c1 f0 f1
                go_wp2
                refine ⟨?_, by simp [intOf]; omega⟩
                (repeat apply Exists.intro)
                exact ⟨⟨k + 1, bp, op, lp, cp, by omega, by go_num, H9, BG9⟩, rfl⟩
              · go_simp
                (go_at_call 53; (with_reducible refine (KFB.out _).mono ?_); rintro e x_2 ⟨vg, rfl, hf, hb⟩; obtain ⟨bg, og, lg_, cg, rfl, Hg⟩ := hf.open; have X_2 := Lib.hid (X_1.out.trans (hb.mono X_1.out.size)); have HQ2 := Lib.hid (IBX.below HQ1.out hb); have HF2 := Lib.hid (HF.out.below hb); have HG2 := Lib.hid (IsI.mk Hg.out.1 Hg.out.2.1); clear hb hf Hg)
                refine hK.out _ _ ?_ (fun hHeld => ?_)
                · (try dsimp only)
                  exact KS13.out _ X_2.out
                clear hK K
                (try simp only [Act.put, pq])
                refine wpAnyH_ready (rs := [0, 13]) (by kernel_rfl) (by simp) ?_
                refine AllReadyH.cons (o := ⟨some 63, _, _, _, _, _⟩) rfl (fun K hK => ?_) (AllReadyH.cons (o := ⟨some 76, _, _, _, _, _⟩) rfl (fun K hK => ?_) (AllReadyH.nil))
                · have l0 := (IBX.box HQ2.out).cell 0
                  have l1 := (IBX.box HQ2.out).cell 1
                  go_simp
                  refine hK.out _ _ ?_ (fun hHeld => ?_)
                  · (try dsimp only)
                    exact KS13.out _ X_2.out
                  clear hK K
                  (try simp only [Act.put, pq])
                  refine wpAnyH_ready (rs := [13]) (by kernel_rfl) (by simp) ?_
                  refine AllReadyH.cons (o := ⟨some 76, _, _, _, _, _⟩) rfl (fun K hK => ?_) (AllReadyH.nil)
                  go_simp
                  (go_at_call 81; (with_reducible refine (KTM.out _ _ _ HF2.out HG2.out).mono ?_); rintro e x_3 ⟨vh, rfl, hf, hb⟩; obtain ⟨bh, oh, lh_, ch, rfl, Hh⟩ := hf.open; have X_3 := Lib.hid (X_2.out.trans (hb.mono X_2.out.size)); have HQ3 := Lib.hid (IBX.below HQ2.out hb); have HH := Lib.hid (IsI.mk Hh.out.1 Hh.out.2.1); clear hb hf Hh)
                  refine hK.out _ _ ?_ (fun hHeld => ?_)
                  · (try dsimp only)
                    exact KS13.out _ X_3.out
                  clear hK K
                  (try simp only [Act.put, pq])
                  refine wpAnyH_ready (rs := [14]) (by kernel_rfl) (by simp) ?_
                  refine AllReadyH.cons (o := ⟨some 77, _, _, _, _, _⟩) rfl (fun K hK => ?_) (AllReadyH.nil)
                  go_simp
                  (go_at_call 54; (with_reducible refine (KPL.out _ _ _ (IBX.num HQ3.out) HH.out).mono ?_); rintro e x_4 ⟨vp, rfl, hf, hb⟩; obtain ⟨bp, op, lp, cp, rfl, Hp⟩ := hf.open; have X_4 := Lib.hid (X_3.out.trans (hb.mono X_3.out.size)); have HQ4 := Lib.hid (IBX.below HQ3.out hb); have HP := Lib.hid (IsI.mk Hp.out.1 Hp.out.2.1); clear hb hf Hp)
                  refine hK.out _ _ ?_ (fun hHeld => ?_)
                  · (try dsimp only)
                    exact KS13.out _ X_4.out
                  clear hK K
                  (try simp only [Act.put, pq])
                  refine wpAnyH_ready (rs := [15]) (by kernel_rfl) (by simp) ?_
                  refine AllReadyH.cons (o := ⟨none, _, _, _, _, _⟩) rfl (fun K hK => ?_) (AllReadyH.nil)
                  have c0 := (IBX.box HQ4.out).cell 0
                  have c1 := (IBX.box HQ4.out).cell 1
                  have f0 := (IBX.box HQ4.out).frozen 0
                  have f1 := (IBX.box HQ4.out).frozen 1
                  unfold Iv
                  go_simp
                  refine hK.out _ _ ?_ (fun hHeld => ?_)
                  · (try dsimp only)
                    exact KS13b.out _ _ _ X_4.out
                  clear hK K
                  (try simp only [Act.put, pq])
                  refine wpAnyH_done (by kernel_rfl) ?_ _
                  have H9 := Lib.hid (IBX.put HQ4.out HP.out)
                  have BG9 : Hid (Below T12 v12 ((x_4.setCell ⟨T12, 0, none⟩ (.bool bp)).setCell ⟨T12, 1, none⟩ (.slice op lp cp))) := Lib.hid (((BG.out.trans ((B_2.out.trans (X_4.out.mono B_2.out.size)).mono HGT.out)).setCell (p := ⟨T12, 0, none⟩) (Nat.le_refl _) _).setCell (p := ⟨T12, 1, none⟩) (Nat.le_refl _) _)
                  clear c0 c1 f0 f1
                  go_wp2
                  refine ⟨?_, by simp [intOf]; omega⟩
                  (repeat apply Exists.intro)
                  exact ⟨⟨k + 1, bp, op, lp, cp, by omega, by go_num, H9, BG9⟩, rfl⟩
                · go_simp
                  (go_at_call 81; (with_reducible refine (KTM.out _ _ _ HF2.out HG2.out).mono ?_); rintro e x_3 ⟨vh, rfl, hf, hb⟩; obtain ⟨bh, oh, lh_, ch, rfl, Hh⟩ := hf.open; have X_3 := Lib.hid (X_2.out.trans (hb.mono X_2.out.size)); have HQ3 := Lib.hid (IBX.below HQ2.out hb); have HH := Lib.hid (IsI.mk Hh.out.1 Hh.out.2.1); clear hb hf Hh)
                  refine hK.out _ _ ?_ (fun hHeld => ?_)
                  · (try dsimp only)
                    exact KS13.out _ X_3.out
                  clear hK K
                  (try simp only [Act.put, pq])
                  refine wpAnyH_ready (rs := [0]) (by kernel_rfl) (by simp) ?_
                  refine AllReadyH.cons (o := ⟨some 63, _, _, _, _, _⟩) rfl (fun K hK => ?_) (AllReadyH.nil)
                  have l0 := (IBX.box HQ3.out).cell 0
                  have l1 := (IBX.box HQ3.out).cell 1
                  go_simp
                  refine hK.out _ _ ?_ (fun hHeld => ?_)
                  · (try dsimp only)
                    exact KS13.out _ X_3.out
                  clear hK K
                  (try simp only [Act.put, pq])
                  refine wpAnyH_ready (rs := [14]) (by kernel_rfl) (by simp) ?_
                  refine AllReadyH.cons (o := ⟨some 77, _, _, _, _, _⟩) rfl (fun K hK => ?_) (AllReadyH.nil)
                  go_simp
                  (go_at_call 54; (with_reducible refine (KPL.out _ _ _ (IBX.num HQ3.out) HH.out).mono ?_); rintro e x_4 ⟨vp, rfl, hf, hb⟩; obtain ⟨bp, op, lp, cp, rfl, Hp⟩ := hf.open; have X_4 := Lib.hid (X_3.out.trans (hb.mono X_3.out.size)); have HQ4 := Lib.hid (IBX.below HQ3.out hb); have HP := Lib.hid (IsI.mk Hp.out.1 Hp.out.2.1); clear hb hf Hp)
                  refine hK.out _ _ ?_ (fun hHeld => ?_)
                  · (try dsimp only)
                    exact KS13.out _ X_4.out
                  clear hK K
                  (try simp only [Act.put, pq])
                  refine wpAnyH_ready (rs := [15]) (by kernel_rfl) (by simp) ?_
                  refine AllReadyH.cons (o := ⟨none, _, _, _, _, _⟩) rfl (fun K hK => ?_) (AllReadyH.nil)
                  have c0 := (IBX.box HQ4.out).cell 0
                  have c1 := (IBX.box HQ4.out).cell 1
                  have f0 := (IBX.box HQ4.out).frozen 0
                  have f1 := (IBX.box HQ4.out).frozen 1
                  unfold Iv
                  go_simp
                  refine hK.out _ _ ?_ (fun hHeld => ?_)
                  · (try dsimp only)
                    exact KS13b.out _ _ _ X_4.out
                  clear hK K
                  (try simp only [Act.put, pq])
                  refine wpAnyH_done (by kernel_rfl) ?_ _
                  have H9 := Lib.hid (IBX.put HQ4.out HP.out)
                  have BG9 : Hid (Below T12 v12 ((x_4.setCell ⟨T12, 0, none⟩ (.bool bp)).setCell ⟨T12, 1, none⟩ (.slice op lp cp))) := Lib.hid (((BG.out.trans ((B_2.out.trans (X_4.out.mono B_2.out.size)).mono HGT.out)).setCell (p := ⟨T12, 0, none⟩) (Nat.le_refl _) _).setCell (p := ⟨T12, 1, none⟩) (Nat.le_refl _) _)
                  clear c0 c1 f0 f1
                  go_wp2
                  refine ⟨?_, by simp [intOf]; omega⟩
                  (repeat apply Exists.intro)
                  exact ⟨⟨k + 1, bp, op, lp, cp, by omega, by go_num, H9, BG9⟩, rfl⟩
          · as_aux_lemma =>
            obtain rfl : k = D := by omega
            obtain ⟨z, hz⟩ : ∃ z, z = rd (mux a da b db n) (2 ^ f) := ⟨_, rfl⟩
            have sl := mul_low (d := d) (n := k) (by omega) (fun j hj => HDB.out j hj)
            rw [← HMX.out] at sl
            obtain ⟨p, q, hp, hq, h1, h2, h3, h4, h5, h6, h7⟩ := pow_quo (mux a da b db n) f sl (by have := HF.out; omega)
            have KN1 := Lib.hid (show ∀ W : World, Calls Tryz.prog 57 #[.int .u64 1] W (SomeN W 1) from fun W => nof_num 1 W (by decide))
            have KU2 : Hid (∀ (W : World) (v : Value), IsN W v 1 → Calls Tryz.prog 82 #[v, .int .i64 f] W (SomeN W (1 * 2 ^ f))) := Lib.hid (fun W v h => up2_any v 1 f W h (big_of (k := 1) (by decide) (by decide)) (by have := HF.out; omega))
            have KMK : Hid (∀ (W : World) (x v : Value), IsI W x (smA d k) → IsN W v (1 * 2 ^ f) → Calls Tryz.prog 56 #[x, v] W (SomeR W p q)) := Lib.hid (fun W x v h k => by rw [hp, hq]; exact make_any x v _ _ W (by rw [HMX.out]; exact h) k h5 h6 h7)
            obtain ⟨yv, hyv⟩ : ∃ y, y = tw z := ⟨_, rfl⟩
            obtain ⟨er, her⟩ : ∃ e, e = te z := ⟨_, rfl⟩
            have KNR : Hid (∀ (W : World) (o1 o2 : Option Addr) (bv : Bool) (l1 c1 l2 c2 : Nat), (bv = decide (p < 0) ∧ IsN W (.slice o1 l1 c1) p.natAbs ∧ IsN W (.slice o2 l2 c2) q) → Calls Tryz.prog 55 #[Rv bv (.slice o1 l1 c1) (.slice o2 l2 c2)] W fun e w' => e = .returned (.tuple #[.int .i64 yv, .int .i64 er]) ∧ Below W.heap.size W w') := Lib.hid (fun W o1 o2 bv l1 c1 l2 c2 hv => by
              rw [hyv, her]
              exact r2near_any bv o1 o2 l1 c1 l2 c2 p q z W hv h3 h4 h2 (by rw [h1, hz]))
            have EA : Hid (VL.take (n + 1) = VL.take n ++ [yv]) := Lib.hid (by rw [hyv, hz]; exact HVL.out.2 n HLN.out)
            have HEF : Hid (er ≠ 0 → E = er) := Lib.hid (fun he => by
              rw [HE.out, her, hz]
              exact fer_first (er := fun j => te (rd (mux a da b db j) (2 ^ f))) HR.out (by show te _ ≠ 0; rw [← hz, ← her]; exact he) N HLN.out)
            have HR2 : Hid (er = 0 → ∀ j, j < n + 1 → te (rd (mux a da b db j) (2 ^ f)) = 0) := Lib.hid (fun he j hj => by
              by_cases e : j = n
              · rw [e, ← hz, ← her]; exact he
              · exact HR.out j (by omega))
            clear hz sl hp hq h1 h2 h3 h4 h5 h6 h7 hyv her HDB HDE HMX CP CT
            go_upto_region 14 with fail
            clear t0 zA
            have Y_0 : Hid (Below wk.heap.size wk wk.drew) := Lib.hid (below_drw (Below.refl _ _) 1)
            have KS14 : Hid (∀ W, Below wk.heap.size wk W → W.cell? ⟨T12, 0, none⟩ = some (.bool ba) ∧ W.cell? ⟨T12, 1, none⟩ = some (.slice oa la ca)) := Lib.hid (fun W hW => ⟨(IBX.box (IBX.below HQ.out hW)).cell 0, (IBX.box (IBX.below HQ.out hW)).cell 1⟩)
            refine wp_region_held_drew (S := fun W => W.cell? ⟨T12, 0, none⟩ = some (.bool ba) ∧ W.cell? ⟨T12, 1, none⟩ = some (.slice oa la ca)) (by kernel_rfl) ?_ (fun hHeld => ?_)
            · exact KS14.out _ Y_0.out
            have hHd := hHeld
            generalize wk.drew = y_0 at *
            (refine tk (i := 0) (oi := ⟨some 79, _, _, _, _, _⟩) (v := ?v0_t1) rfl ?hy0_t1 ?rest0_t1; (case hy0_t1 => intro w hSw; (try dsimp only at hSw); go_simp; first | done | with_reducible rfl))
            (try simp only [Act.put, pq])
            (refine tk (i := 2) (oi := ⟨some 81, _, _, _, _, _⟩) (v := ?v2_t2) rfl ?hy2_t2 ?rest2_t2; (case hy2_t2 => intro w hSw; (try dsimp only at hSw); go_simp; first | done | with_reducible rfl))
            (try simp only [Act.put, pq])
            refine wpAnyH_ready (rs := [1]) (by kernel_rfl) (by simp) ?_
            refine AllReadyH.cons (o := ⟨some 80, _, _, _, _, _⟩) rfl (fun K hK => ?_) (AllReadyH.nil)
            go_simp
            (go_at_call 57; (with_reducible refine (KN1.out _).mono ?_); rintro e y_1 ⟨vo, rfl, ho, hb⟩; have Y_1 := Lib.hid (Y_0.out.trans (hb.mono Y_0.out.size)); have HO := Lib.hid ho; clear ho hb)
            refine hK.out _ _ ?_ (fun hHeld => ?_)
            · (try dsimp only)
              exact KS14.out _ Y_1.out
            clear hK K
            (try simp only [Act.put, pq])
            refine wpAnyH_ready (rs := [3]) (by kernel_rfl) (by simp) ?_
            refine AllReadyH.cons (o := ⟨some 82, _, _, _, _, _⟩) rfl (fun K hK => ?_) (AllReadyH.nil)
            go_simp
            (go_at_call 82; (with_reducible refine (KU2.out _ _ HO.out).mono ?_); rintro e y_2 ⟨vu, rfl, hu, hb⟩; have Y_2 := Lib.hid (Y_1.out.trans (hb.mono Y_1.out.size)); have HU2 := Lib.hid hu; clear hu hb)
            refine hK.out _ _ ?_ (fun hHeld => ?_)
            · (try dsimp only)
              exact KS14.out _ Y_2.out
            clear hK K
            (try simp only [Act.put, pq])
            refine wpAnyH_ready (rs := [4]) (by kernel_rfl) (by simp) ?_
            refine AllReadyH.cons (o := ⟨some 83, _, _, _, _, _⟩) rfl (fun K hK => ?_) (AllReadyH.nil)
            go_simp
            (go_at_call 56; (with_reducible refine (KMK.out _ _ _ (IBX.num (IBX.below HQ.out Y_2.out)) HU2.out).mono ?_); rintro e y_3 ⟨bv, a1, l1, c1, a2, l2, c2, rfl, hv, hb⟩; have Y_3 := Lib.hid (Y_2.out.trans (hb.mono Y_2.out.size)); have HV := Lib.hid hv.out; clear hv hb)
            refine hK.out _ _ ?_ (fun hHeld => ?_)
            · (try dsimp only)
              exact KS14.out _ Y_3.out
            clear hK K
            (try simp only [Act.put, pq])
            refine wpAnyH_ready (rs := [5]) (by kernel_rfl) (by simp) ?_
            refine AllReadyH.cons (o := ⟨some 84, _, _, _, _, _⟩) rfl (fun K hK => ?_) (AllReadyH.nil)
            go_simp
            (go_at_call 55; (with_reducible refine (KNR.out _ _ _ _ _ _ _ _ HV.out).mono ?_); rintro e y_4 ⟨rfl, hb⟩; have Y_4 := Lib.hid (Y_3.out.trans (hb.mono Y_3.out.size)); clear hb)
            refine hK.out _ _ ?_ (fun hHeld => ?_)
            · (try dsimp only)
              exact KS14.out _ Y_4.out
            clear hK K
            (try simp only [Act.put, pq])
            (refine tk (i := 6) (oi := ⟨some 78, _, _, _, _, _⟩) (v := ?v6_t3) rfl ?hy6_t3 ?rest6_t3; (case hy6_t3 => intro w hSw; (try dsimp only at hSw); go_simp; first | done | with_reducible rfl))
            (try simp only [Act.put, pq])
            (refine tk (i := 7) (oi := ⟨some 85, _, _, _, _, _⟩) (v := ?v7_t4) rfl ?hy7_t4 ?rest7_t4; (case hy7_t4 => intro w hSw; (try dsimp only at hSw); go_simp; first | done | with_reducible rfl))
            (try simp only [Act.put, pq])
            (refine tk (i := 8) (oi := ⟨some 86, _, _, _, _, _⟩) (v := ?v8_t5) rfl ?hy8_t5 ?rest8_t5; (case hy8_t5 => intro w hSw; (try dsimp only at hSw); go_simp; first | done | with_reducible rfl))
            (try simp only [Act.put, pq])
            (refine tk (i := 9) (oi := ⟨some 16, _, _, _, _, _⟩) (v := ?v9_t6) rfl ?hy9_t6 ?rest9_t6; (case hy9_t6 => intro w hSw; (try dsimp only at hSw); go_simp; first | done | with_reducible rfl))
            (try simp only [Act.put, pq])
            (refine tk (i := 10) (oi := ⟨some 17, _, _, _, _, _⟩) (v := ?v10_t7) rfl ?hy10_t7 ?rest10_t7; (case hy10_t7 => intro w hSw; (try dsimp only at hSw); go_simp; first | done | with_reducible rfl))
            (try simp only [Act.put, pq])
            refine wpAnyH_done (by kernel_rfl) ?_ _
            have BO4 : Hid (Below wo.heap.size wo y_4) := Lib.hid ((KW.out wk BG.out).1.trans (Y_4.out.mono (KW.out wk BG.out).1.size))
            have q4 := KF.out y_4 (KB.out.trans (BO4.out.mono (by have := KZ.out; omega)))
            have K24 := Lib.hid q4.2.2.2.1
            have BW4 := Lib.hid q4.1
            have T13 := Lib.hid (KT.out.below BO4.out KT.out.lt)
            have U13 := Lib.hid (Below.keepOwn KU.out BO4.out (Nat.le_refl _))
            have s13 := Lib.hid (Nat.le_trans KZ.out BO4.out.size)
            clear q4 Y_0 Y_1 Y_2 Y_3 HO HU2 HV KS14 hHd HQ BG KW
            by_cases her : er = 0
            · have he2 : (er != 0) = false := by rw [her]; rfl
              have HR3 := Lib.hid (HR2.out her)
              obtain ⟨t0, t2, tf0, tf1⟩ := blk2 T13.out
              clear her HR2 HEF
              go_wp2_with (at_builtin; refine wpList_append_own _ rfl _ _ 24 rfl (T10 + 1) 2 i0 (.int .i64 0) 1 8 Tryz.underlying24 hi0 hz0 hz1 hz2 rfl (by decide) us n (ints (VL.take n)) rfl (U13.out.alloc _) ⟨y_4.heap.size, 0, none⟩ 1 1 [.int .i64 yv] rfl rfl ?c1 ?c2 ?c3 ?c4 ?c5 ?_)
              case c1 => exact (cell_one_new _ _ _)
              case c2 => simp [Value.oneCell']
              case c3 => unfold maxLen; omega
              case c4 => omega
              case c5 => have := s13.out; simp; omega
              intro u9 w8 hown1 hgrow _
              obtain ⟨o9, c9, rfl⟩ := own_form1 hown1
              have KT9 := Lib.hid ((T13.out.alloc (.cells #[.int .i64 yv] 2)).kept hgrow (fun e => by have := (U13.out.lt _ e.symm).1; omega))
              have B13 := Lib.hid (KB.out.trans (BO4.out.mono (by have := KZ.out; omega)))
              have KB9 := Lib.hid ((B13.out.alloc (by have := s13.out; omega) (.cells #[.int .i64 yv] 2)).grown hgrow (by have := s13.out; simp; omega) (fun j e => by have := (U13.out.lt j e).1; omega))
              have KU9 : Hid (w8.ownsRow (T10 + 1) 2 1 (.slice o9 (n + 1) c9) (n + 1) (ints (VL.take n) ++ [.int .i64 yv])) := Lib.hid hown1
              have KZ9 := Lib.hid (Nat.le_trans s13.out (Nat.le_trans (Nat.le_succ _) (Nat.le_trans (Nat.le_of_eq (World.size_alloc _ _).symm) hgrow.size)))
              obtain ⟨q0, q1, qf0, qf1⟩ := blk2 KT9.out
              clear hown1 hgrow t0 t2 tf0 tf1
              go_wp2
              refine ⟨⟨n + 1, .slice o9 (n + 1) c9, by have := HLN.out; omega, by go_num, HR3, Lib.hid (KT9.out.set_ 1 _), Lib.hid ?_, Lib.hid (KB9.out.setCell (p := ⟨T10, 1, none⟩) (Nat.le_refl _) _), Lib.hid (by simpa using KZ9.out)⟩, by have := HLN.out; simp [intOf]; omega⟩
              rw [EA.out, ints_snoc]
              exact own_setx KU9.out KT9.out (by decide)
            · have he2 : (er != 0) = true := bne_iff_ne.2 her
              have HX := Lib.hid (HEF.out her)
              have HNE := Lib.hid her
              obtain ⟨t0, t2, tf0, tf1⟩ := blk2 K24.out
              clear her HR2 HEF T13 U13
              go_wp2
              refine bodyPost_ret (v := .tuple #[.agg #[.slice none 0 0, .slice none 0 0], .int .i64 er]) (by simp [results, Tryz.results38, go_sem, t0, t2]) rfl ?_
              rw [HX.out]
              refine ⟨none, 0, none, 0, ?_, ?_, ?_, (BW4.out.setCell (p := ⟨w.heap.size + 2, 0, none⟩) (Nat.le_add_right _ _) _).setCell (p := ⟨w.heap.size + 2, 1, none⟩) (Nat.le_add_right _ _) _⟩
              · unfold unl; rw [if_neg HNE.out, if_neg HNE.out]; rfl
              · unfold unl; rw [if_neg HNE.out]; exact Ld.nil _
              · unfold unl; rw [if_neg HNE.out]; exact Ld.nil _
      · as_aux_lemma =>
        obtain rfl : n = N := by omega
        have HX : Hid (E = 0) := Lib.hid (HE.out.trans (fer_no HR.out))
        have K00 := Lib.hid HQ0.out.2.2.2.1
        have HLS := Lib.hid HQ0.out.2.2.2.2
        have BW := Lib.hid HQ0.out.1
        obtain ⟨t0, t2, _⟩ := blk2 KT.out
        obtain ⟨r0, r1, rf0, rf1⟩ := blk2 K00.out
        have hu := KU.out
        rw [List.take_of_length_le (Nat.le_of_eq HVL.out.1)] at hu
        obtain ⟨o5, c5, rfl⟩ := own_form1 hu
        have HU := Lib.hid hu
        have HLn := Lib.hid HVL.out.1
        clear hu hlt
        go_wp2_with (go_at_call 46; (with_reducible refine (CC.out _ _ HLS.out).mono ?_); rintro e w' ⟨rfl, rfl⟩)
        refine bodyPost_ret (v := .tuple #[.agg #[.slice oS L6.length cS, .slice o5 n c5], .int .i64 0]) (by simp [results, Tryz.results38, go_sem, r0, r1]) rfl ?_
        rw [HX.out, show unl 0 VL = VL from if_pos rfl, show unl 0 L6 = L6 from if_pos rfl]
        have hd1 := own_ld HU.out HLn.out
        refine ⟨oS, cS, o5, c5, by rw [HLn.out], ?_, ?_, (BW.out.setCell (p := ⟨w.heap.size + 2, 0, none⟩) (Nat.le_add_right _ _) _).setCell (p := ⟨w.heap.size + 2, 1, none⟩) (Nat.le_add_right _ _) _⟩
        · exact ldg2 K00.out HLS.out
        · rw [HLn.out]; exact ldg2 K00.out hd1
  · have hE : mue a da b db f = mse a b := by
      unfold mue mse
      unfold mse at hms
      cases c : mfit a b with
      | false => rw [if_neg (by decide), if_neg (by decide)]
      | true =>
        rw [c, if_pos rfl] at hms
        cases c2 : may (msh a b) with
        | false => rw [if_pos rfl, if_neg (by decide), if_pos rfl, if_neg (by decide)]
        | true => rw [c2, if_pos rfl] at hms; exact absurd rfl hms
    rw [hE]
    have d0 : (mse a b != 0) = true := bne_iff_ne.2 hms
    have u0 : ∀ l : List Int, unl (mse a b) l = [] := fun l => if_neg hms
    rw [u0] at CS
    rw [u0, u0]
    generalize mse a b = E at *
    clear hw2 hsz hdx hdy hms hE u0 ka kb hf hf32 ta tb
    go_enter Tryz.func38, Tryz.ntmps38
    go_wp2_with (go_at_call 97; (with_reducible refine CS.out.mono ?_); rintro e w3 ⟨oS, cS, rfl, h1, hb1⟩; rw [← HW.out] at hb1; have B3 := Lib.hid hb1; have K23 := Lib.hid (K2.out.below hb1 K2.out.lt); obtain ⟨t0, t1, tf0, tf1⟩ := blk2 K23.out; clear hb1 h1)
    refine bodyPost_ret (v := .tuple #[.agg #[.slice none 0 0, .slice none 0 0], .int .i64 E]) (by simp [results, Tryz.results38, go_sem, t0, t1]) rfl ?_
    exact ⟨none, 0, none, 0, rfl, Ld.nil _, Ld.nil _, ((B2.out.trans (B3.out.mono B2.out.size)).setCell (p := ⟨w.heap.size + 2, 0, none⟩) (Nat.le_add_right _ _) _).setCell (p := ⟨w.heap.size + 2, 1, none⟩) (Nat.le_add_right _ _) _⟩
end Go.Proofs.YtmafgdinegboeaaGreat
