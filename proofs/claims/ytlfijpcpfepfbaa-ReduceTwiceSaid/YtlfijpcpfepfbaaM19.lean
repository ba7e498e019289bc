/-
  ReduceTwice's loop.
-/
import Derived.BigQuiet
import Derived.Test.YtlfijpcpfepfbaaM01
import Derived.Test.YtlfijpcpfepfbaaM15
import Derived.Test.YtlfijpcpfepfbaaM16
import Derived.Test.YtlfijpcpfepfbaaM18
namespace Go.Proofs.Ytlfijpcpfepfbaa
open Go.RowKit Go.Shelf

theorem blk4r {W : World} {b : Nat} {v0 v1 v2 v3 : Value} (h : Blk W b 28 #[v0, v1, v2, v3]) : W.cell? ⟨b, 0, none⟩ = some v0 ∧ W.cell? ⟨b, 1, none⟩ = some v1 ∧ W.cell? ⟨b, 2, none⟩ = some v2 ∧ W.cell? ⟨b, 3, none⟩ = some v3 := ⟨h.cell 0, h.cell 1, h.cell 2, h.cell 3⟩
theorem max_at (vA vX : Value) (sh ds : List Int) (a M : Nat) (W : World) (hA : Ld W vA sh) (hX : Ld W vX ds) (ta : tnb sh ds = true) (ha : a < sh.length) (hM : (M : Int) = prod (lf sh [(a : Int)] 0)) :
    Calls Try.prog 10 #[.agg #[vA, vX], .int .i64 (a : Nat)] W fun e w' => ∃ os n cs gd gp, e = .returned (.tuple #[.agg #[.slice os n cs, .slice (some ⟨gd, 0, none⟩) M M], .slice (some ⟨gp, 0, none⟩) M M, .int .i64 0]) ∧ Hid (Blk w' gd 2 (ints (mxl sh ds a ds.length M)).toArray ∧ Blk w' gp 3 (ints (mpl sh ds a ds.length M)).toArray) ∧ Below W.heap.size W w' := by
  refine (max_ok vA vX sh ds a M W hA hX ta ha hM).mono fun e w' hh => ?_
  obtain ⟨os, cs, gd, gp, rfl, _, h2, h3⟩ := hh
  rw [mxl_len, mpl_len]
  exact ⟨os, _, cs, gd, gp, rfl, Lib.hid ⟨h2.out.1, h2.out.2.1⟩, h3⟩
theorem win_at (a : Int) (n : Nat) (h0 : 0 < n) (h1 : n ≤ 4) : ∃ A : Nat, A < n ∧ ∀ W : World, Calls Try.prog 9 #[.int .i64 a, .int .i64 (n : Nat)] W fun e w' => e = .returned (.int .i64 (A : Nat)) ∧ W = w' := by
  refine ⟨((a % 18446744073709551616) % n).toNat, ?_, fun W => ?_⟩
  · have := Int.emod_lt_of_pos (a % 18446744073709551616) (show (0 : Int) < n by omega)
    have := Int.emod_nonneg (a % 18446744073709551616) (show (n : Int) ≠ 0 by omega)
    omega
  · have h := win_any a n W (by omega) (by omega)
    have := Int.emod_nonneg (a % 18446744073709551616) (show (n : Int) ≠ 0 by omega)
    rwa [show (a % 18446744073709551616) % (n : Int) = ((((a % 18446744073709551616) % n).toNat : Nat) : Int) by omega] at h
theorem sum_at (vA vX v : Value) (sh ds ax : List Int) (M : Nat) (W : World) (hA : Ld W vA sh) (hX : Ld W vX ds) (hv : Ld W v ax) (ta : tnb sh ds = true) (hx : axb (sh.length : Nat) ax (-1) = true) (hM : (M : Int) = prod (lf sh ax 0)) :
    Calls Try.prog 16 #[.agg #[vA, vX], v] W (Ty W (rde sh ds ax 1 M) (unl (rde sh ds ax 1 M) (lf sh ax 0)) (unl (rde sh ds ax 1 M) (rdv sh ds ax 1 M))) := by
  have hl := axb_len hx (by omega)
  have l4 := may_len (tnb_parts ta).1
  exact (sum_ok vA vX v sh ds ax M W hA hX hv (by omega) ta hx hM).mono (fun _ _ hh => ty_of hh)
/-- A sum that is refused. -/
def Sno (W : World) (e : Ending) (w' : World) : Prop := ∃ o n c o2 n2 c2 E, e = .returned (.tuple #[.agg #[.slice o n c, .slice o2 n2 c2], .int .i64 E]) ∧ (E != 0) = true ∧ Below W.heap.size W w'
/-- A sum that is told. -/
def Syes (W : World) (S D : List Int) (e : Ending) (w' : World) : Prop := ∃ o c o2 c2, e = .returned (.tuple #[.agg #[.slice o S.length c, .slice o2 D.length c2], .int .i64 0]) ∧ Ld w' (.slice o S.length c) S ∧ Ld w' (.slice o2 D.length c2) D ∧ Below W.heap.size W w'
theorem ty_no {W w' : World} {E : Int} {S D : List Int} {e : Ending} (h : Ty W E S D e w') (hE : ¬ E = 0) : Sno W e w' := by
  obtain ⟨o, c, o2, c2, rfl, _, _, h3⟩ := h
  exact ⟨o, _, c, o2, _, c2, E, rfl, by rw [bne_iff_ne]; exact hE, h3⟩
theorem ty_yes {W w' : World} {E : Int} {S D : List Int} {e : Ending} (h : Ty W E (unl E S) (unl E D) e w') (hE : E = 0) : Syes W S D e w' := by
  subst hE
  obtain ⟨o, c, o2, c2, rfl, h1, h2, h3⟩ := h
  exact ⟨o, c, o2, c2, rfl, h1, h2, h3⟩
/-- Whatever a sum tells. -/
def Sany (W : World) (e : Ending) (w' : World) : Prop := ∃ o n c o2 n2 c2 E, e = .returned (.tuple #[.agg #[.slice o n c, .slice o2 n2 c2], .int .i64 E]) ∧ Below W.heap.size W w'
theorem ty_any {W w' : World} {E : Int} {S D : List Int} {e : Ending} (h : Ty W E S D e w') : Sany W e w' := by
  obtain ⟨o, c, o2, c2, rfl, _, _, h3⟩ := h
  exact ⟨o, _, c, o2, _, c2, E, rfl, h3⟩
theorem next_axis {A n : Nat} (hA : A < n) (h2 : 2 ≤ n) (h4 : n ≤ 4) : ∃ B lo hi : Nat, wrap64 ((A : Int) + 1) = (A : Int) + 1 ∧ ((A : Int) + 1) % (n : Int) = (B : Int) ∧ lo < hi ∧ hi < n ∧ ((A = lo ∧ B = hi) ∨ (A = hi ∧ B = lo)) := by
  by_cases h : A + 1 < n
  · exact ⟨A + 1, A, A + 1, IntWalk.wrap64_in _ ⟨by omega, by omega⟩, by rw [Int.emod_eq_of_lt (by omega) (by omega)]; rfl, by omega, h, .inl ⟨rfl, rfl⟩⟩
  · obtain rfl : n = A + 1 := by omega
    exact ⟨0, 0, A, IntWalk.wrap64_in _ ⟨by omega, by omega⟩, by push_cast; rw [Int.emod_self], by omega, by omega, .inr ⟨rfl, rfl⟩⟩
theorem blk2t {W : World} {b : Nat} {v0 v1 : Value} (h : Blk W b 26 #[v0, v1]) : W.cell? ⟨b, 0, none⟩ = some v0 ∧ W.cell? ⟨b, 1, none⟩ = some v1 := ⟨h.cell 0, h.cell 1⟩
theorem blk_ints {W : World} {g i : Nat} {t : TypeId} {ls : List Int} (h : Blk W g t (ints ls).toArray) (hi : i < ls.length) : W.cell? ⟨g, i, none⟩ = some (.int .i64 (ls.getD i 0)) := by rw [h.cell, ints_at hi]

set_option maxRecDepth 100000 in
set_option maxHeartbeats 6000000 in
theorem reducetwice_any (bb oo len cap : Nat) (es : Nat → Rk) (w : World) (_hl : len ≤ 9223372036854775807) (hb : bb < w.heap.size) (hT : ∀ i, i < len → RkAt w bb (oo + i * 4) (es i)) (hok : ∀ i, i < len → (es i).ok w) :
    Calls Try.prog 3 #[.slice (some ⟨bb, oo, none⟩) len cap] w fun e w' => e = .returned (.bool true) ∧ Below w.heap.size w w' := by
  have HT := Lib.hid (And.intro hT hok)
  clear hT hok
  go_enter Try.func3, Try.ntmps3
  go_wp2
  go_loopw [3] (fun s3 wQ => ∃ k : Nat, k ≤ len ∧ s3 = .int .i64 k ∧ Below w.heap.size w wQ) (fun s3 _ => len - (intOf s3).toNat)
  case atStart => exact ⟨0, Nat.zero_le _, rfl, Below.refl _ _⟩
  case round =>
    obtain ⟨k, hk, rfl, hB⟩ := hrel
    have hBs := hB.size
    obtain ⟨w1, hw1⟩ : ∃ w1, w1 = wr := ⟨_, rfl⟩
    subst hw1
    by_cases g : k < len ∧ k < 10
    · obtain ⟨g1, g2⟩ := g
      obtain ⟨t0, t1, t2, t3⟩ := (HT.out.1 k (by omega)).below hB hb
      obtain ⟨⟨hA, hX, hV⟩, ⟨l0, l1, l2⟩, ⟨a0, a1⟩⟩ := HT.out.2 k (by omega)
      replace hA := hA.below hB
      replace hX := hX.below hB
      replace hV := hV.below hB
      generalize es k = p at *
      obtain ⟨vA, vX, vV, sh, ds, ax, a⟩ := p
      simp only at t0 t1 t2 t3 hA hX hV l0 l1 l2 a0 a1
      obtain ⟨oA, cA, rfl, _, _⟩ := id hA
      obtain ⟨oX, cX, rfl, _, hxX⟩ := id hX
      obtain ⟨oV, cV, rfl, _, _⟩ := id hV
      have HXX := Lib.hid hxX
      clear hxX
      have K0 := Lib.hid (fun o => (Below.refl w1.heap.size w1).alloc (Nat.le_refl _) o)
      have K4 := Lib.hid (Blk.new w1 28 #[.slice oA sh.length cA, .slice oX ds.length cX, .slice oV ax.length cV, .int .i64 a])
      obtain ⟨FR, hFR⟩ : ∃ FR : World → Prop, FR = fun W => Below w1.heap.size w1 W ∧ Blk W w1.heap.size 28 #[.slice oA sh.length cA, .slice oX ds.length cX, .slice oV ax.length cV, .int .i64 a] := ⟨_, rfl⟩
      have FRb : Hid (∀ W, FR W → Below w1.heap.size w1 W) := Lib.hid (fun W h => by rw [hFR] at h; exact h.1)
      have FRk := Lib.hid (fun (W : World) (h : FR W) => blk4r (by rw [hFR] at h; exact h.2 : Blk W w1.heap.size 28 #[.slice oA sh.length cA, .slice oX ds.length cX, .slice oV ax.length cV, .int .i64 a]))
      have FRn : Hid (∀ W W', FR W → Below W.heap.size W W' → FR W') := Lib.hid (fun W W' h hb => by rw [hFR] at h ⊢; exact ⟨h.1.trans (hb.mono h.1.size), h.2.below hb h.2.lt⟩)
      have FRl : Hid (∀ W, FR W → w1.heap.size < W.heap.size) := Lib.hid (fun W h => by rw [hFR] at h; exact h.2.lt)
      have FRs : Hid (∀ W, Below (w1.alloc (.cells #[.slice oA sh.length cA, .slice oX ds.length cX, .slice oV ax.length cV, .int .i64 a] 28)).heap.size (w1.alloc (.cells #[.slice oA sh.length cA, .slice oX ds.length cX, .slice oV ax.length cV, .int .i64 a] 28)) W → FR W) := Lib.hid (fun W h => by rw [hFR]; exact ⟨(K0.out _).trans (h.mono (by simp)), K4.out.below h K4.out.lt⟩)
      clear hFR
      have LG := Lib.hid (fun (W : World) (hW : Below w1.heap.size w1 W) => heavy8_any _ _ sh ds 60 W (hA.below hW) (hX.below hW) (by omega) (by omega))
      cases lg : hv8 60 sh ds with
      | true =>
        as_aux_lemma =>
        rw [lg] at LG
        clear lg hA hX hV
        go_wp2_with (go_at_call 7; (with_reducible refine (LG.out _ (K0.out _)).mono ?_); rintro e w2 ⟨rfl, hb2⟩; have F2 := Lib.hid (FRs.out _ hb2); obtain ⟨x0, x1, x2, x3⟩ := FRk.out _ F2.out; clear hb2)
        go_ret
        exact ⟨rfl, hB.trans ((FRb.out _ F2.out).mono hBs)⟩
      | false =>
        rw [lg] at LG
        have na := hv8_no lg
        have HL := Lib.hid (And.intro hA (And.intro hX hV))
        have KMA := Lib.hid (fun (W : World) (hW : Below w1.heap.size w1 W) => rmay8_any _ _ sh ds W (hA.below hW) (hX.below hW) (by omega) (by omega))
        clear lg hA hX hV
        cases ta : tnb sh ds with
        | false =>
          as_aux_lemma =>
          rw [ta] at KMA
          clear ta
          go_wp2_with (first | (go_at_call 7; (with_reducible refine (LG.out _ (K0.out _)).mono ?_); rintro e w2 ⟨rfl, hb2⟩; have F2 := Lib.hid (FRs.out _ hb2); obtain ⟨x0, x1, x2, x3⟩ := FRk.out _ F2.out; clear hb2) | (go_at_call 8; (with_reducible refine (KMA.out _ (FRb.out _ F2.out)).mono ?_); rintro e w4 ⟨rfl, hb4⟩; have F4 := Lib.hid (FRn.out _ _ F2.out hb4); obtain ⟨x0, x1, x2, x3⟩ := FRk.out _ F4.out; clear hb4))
          exact ⟨⟨k + 1, by omega, by go_num, hB.trans ((FRb.out _ F4.out).mono hBs)⟩, by simp [intOf]; omega⟩
        | true =>
          rw [ta] at KMA
          by_cases hz : sh.length = 0
          · as_aux_lemma =>
            have hz' : ((sh.length : Int) == 0) = true := by simp [hz]
            clear hz ta
            go_wp2_with (first | (go_at_call 7; (with_reducible refine (LG.out _ (K0.out _)).mono ?_); rintro e w2 ⟨rfl, hb2⟩; have F2 := Lib.hid (FRs.out _ hb2); obtain ⟨x0, x1, x2, x3⟩ := FRk.out _ F2.out; clear hb2) | (go_at_call 8; (with_reducible refine (KMA.out _ (FRb.out _ F2.out)).mono ?_); rintro e w4 ⟨rfl, hb4⟩; have F4 := Lib.hid (FRn.out _ _ F2.out hb4); obtain ⟨x0, x1, x2, x3⟩ := FRk.out _ F4.out; clear hb4))
            exact ⟨⟨k + 1, by omega, by go_num, hB.trans ((FRb.out _ F4.out).mono hBs)⟩, by simp [intOf]; omega⟩
          · as_aux_lemma =>
            have lsh := may_len (tnb_parts ta).1
            obtain ⟨A, hA4, HWIN⟩ := win_at a sh.length (by omega) lsh
            have WIN := Lib.hid HWIN
            have hz' : ((sh.length : Int) == 0) = false := by simp [hz]
            obtain ⟨M, hM⟩ : ∃ M : Nat, (M : Int) = prod (lf sh [(A : Int)] 0) := ⟨(prod (lf sh [(A : Int)] 0)).toNat, by have := lf_prod [(A : Int)] sh 0 (may_pos (tnb_parts ta).1); omega⟩
            have hM1 : 1 ≤ M ∧ M ≤ 65536 := by have := may_prod (lf_may [(A : Int)] (tnb_parts ta).1); omega
            have hdl := (tnb_parts ta).2.1
            have KMX := Lib.hid (fun (W : World) (h : FR W) => max_at _ _ sh ds A M W (HL.out.1.below (FRb.out _ h)) (HL.out.2.1.below (FRb.out _ h)) ta hA4 hM)
            have HTA := Lib.hid (And.intro ta (And.intro hA4 hM))
            have HM1 := Lib.hid hM1
            have HDL := Lib.hid hdl
            clear HWIN hz ta hA4 hM hM1 hdl na
            go_upto_region 11 with (first | (go_at_call 7; (with_reducible refine (LG.out _ (K0.out _)).mono ?_); rintro e w2 ⟨rfl, hb2⟩; have F2 := Lib.hid (FRs.out _ hb2); obtain ⟨x0, x1, x2, x3⟩ := FRk.out _ F2.out; clear hb2) | (go_at_call 8; (with_reducible refine (KMA.out _ (FRb.out _ F2.out)).mono ?_); rintro e w4 ⟨rfl, hb4⟩; have F4 := Lib.hid (FRn.out _ _ F2.out hb4); obtain ⟨x0, x1, x2, x3⟩ := FRk.out _ F4.out; clear hb4) | (go_at_call 9; (with_reducible refine (WIN.out _).mono ?_); rintro e w' ⟨rfl, rfl⟩) | (go_at_call 10; (with_reducible refine (KMX.out _ F4.out).mono ?_); rintro e w6 ⟨os, n6, cs, gd, gp, rfl, h6, hb⟩; have V6 := Lib.hid h6.out; have F6 := Lib.hid (FRn.out _ _ F4.out hb); obtain ⟨x0, x1, x2, x3⟩ := FRk.out _ (FRn.out _ _ F6.out (al_below (.cells #[.slice os n6 cs, .slice (some ⟨gd, 0, none⟩) M M] 26))); clear h6 hb))
            obtain ⟨wv, hwv⟩ : ∃ wv, wv = w6.alloc (.cells #[.slice os n6 cs, .slice (some ⟨gd, 0, none⟩) M M] 26) := ⟨_, rfl⟩
            obtain ⟨TB, hTB⟩ : ∃ TB, TB = w6.heap.size := ⟨_, rfl⟩
            rw [← hwv, ← hTB]
            obtain ⟨GR, hGR⟩ : ∃ GR : World → Prop, GR = fun W => FR W ∧ Blk W TB 26 #[.slice os n6 cs, .slice (some ⟨gd, 0, none⟩) M M] ∧ Blk W gd 2 (ints (mxl sh ds A ds.length M)).toArray ∧ Blk W gp 3 (ints (mpl sh ds A ds.length M)).toArray := ⟨_, rfl⟩
            have GV : Hid (GR wv) := Lib.hid (by rw [hGR, hwv, hTB]; exact ⟨FRn.out _ _ F6.out (al_below _), Blk.new _ _ _, V6.out.1.below (al_below _) V6.out.1.lt, V6.out.2.below (al_below _) V6.out.2.lt⟩)
            have GRf : Hid (∀ W, GR W → FR W) := Lib.hid (fun W h => by rw [hGR] at h; exact h.1)
            have GRn : Hid (∀ W W', GR W → Below W.heap.size W W' → GR W') := Lib.hid (fun W W' h hb => by rw [hGR] at h ⊢; exact ⟨FRn.out _ _ h.1 hb, h.2.1.below hb h.2.1.lt, h.2.2.1.below hb h.2.2.1.lt, h.2.2.2.below hb h.2.2.2.lt⟩)
            have GRt : Hid (∀ W, GR W → W.cell? ⟨TB, 0, none⟩ = some (.slice os n6 cs) ∧ W.cell? ⟨TB, 1, none⟩ = some (.slice (some ⟨gd, 0, none⟩) M M)) := Lib.hid (fun W h => by rw [hGR] at h; exact blk2t h.2.1)
            have GRm : Hid (∀ W q, GR W → q < M → W.cell? ⟨gd, q, none⟩ = some (.int .i64 ((mxl sh ds A ds.length M).getD q 0)) ∧ W.cell? ⟨gp, q, none⟩ = some (.int .i64 ((mpl sh ds A ds.length M).getD q 0))) := Lib.hid (fun W q h hq => by rw [hGR] at h; exact ⟨blk_ints h.2.2.1 (by rw [mxl_len]; exact hq), blk_ints h.2.2.2 (by rw [mpl_len]; exact hq)⟩)
            have KLF : Hid (∀ W v, GR W → Ld W v [(A : Int)] → Calls Try.prog 13 #[.slice oA sh.length cA, v] W fun e w' => ∃ v, e = .returned v ∧ Ld w' v (lf sh [(A : Int)] 0) ∧ Below W.heap.size W w') := Lib.hid (fun W v h hv => rleft_any _ v sh [(A : Int)] W (HL.out.1.below (FRb.out _ (GRf.out _ h))) hv lsh (by simp))
            have KCN : Hid (∀ W v, Ld W v (lf sh [(A : Int)] 0) → Calls Try.prog 12 #[v] W fun e w' => e = .returned (.int .i64 (M : Nat)) ∧ W = w') := Lib.hid (fun W v hv => by
              have hm := lf_may [(A : Int)] (tnb_parts HTA.out.1).1
              have h := rcount_any v _ W hv (may_dms hm) (by have := may_len hm; omega)
              rwa [rct_may hm, ← HTA.out.2.2] at h)
            have KIN : Hid (∀ W v, GR W → Ld W v [(A : Int)] → ∀ j : Nat, j < ds.length → Calls Try.prog 14 #[.slice oA sh.length cA, v, .int .i64 j] W fun e w' => e = .returned (.int .i64 (into sh [(A : Int)] j)) ∧ Below W.heap.size W w') := Lib.hid (fun W v h hv j hj => rinto_any _ v sh [(A : Int)] j W (HL.out.1.below (FRb.out _ (GRf.out _ h))) hv (tnb_parts HTA.out.1).1 (by have := HDL.out; omega) (by simp))
            have KAT0 : Hid (∀ W, GR W → ∀ j : Nat, j < ds.length → Calls Try.prog 15 #[.slice oA sh.length cA, .int .i64 j] W fun e w' => ∃ b f c, e = .returned (.slice (some ⟨b, f, none⟩) sh.length c) ∧ w'.cell? ⟨b, f + A, none⟩ = some (.int .i64 (stx sh A j)) ∧ Below W.heap.size W w') := Lib.hid (fun W h j hj => by
              refine (rat_any _ sh j W (HL.out.1.below (FRb.out _ (GRf.out _ h))) (tnb_parts HTA.out.1).1 (by omega) (by have := HDL.out; omega)).mono fun e w' hh => ?_
              obtain ⟨v, rfl, hv, hb⟩ := hh
              obtain ⟨o, c, rfl, _, hx⟩ := hv
              obtain ⟨b, f, rfl, _, hc⟩ := hx A (by rw [atl_len]; exact HTA.out.2.1)
              rw [atl_len]
              exact ⟨b, f, c, rfl, hc, hb⟩)
            have HXd : Hid (∀ q, q < ds.length → ∃ bX fX, oX = some ⟨bX, fX, none⟩ ∧ ∀ W, FR W → W.cell? ⟨bX, fX + q, none⟩ = some (.int .i64 (ds.getD q 0))) := Lib.hid (fun q hq => by
              obtain ⟨b, f, e, e2, e3⟩ := HXX.out q hq
              exact ⟨b, f, e, fun W hW => ((FRb.out W hW).cell (p := ⟨b, f + q, none⟩) e2).trans e3⟩)
            have hn2 : 0 < ds.length := by have := may_prod (tnb_parts HTA.out.1).1; have := HDL.out; omega
            clear hwv hTB hGR V6 F6 x0 x1 x2 x3 KMX WIN KMA LG K0 K4 FRs
            obtain ⟨x0, x1, x2, x3⟩ := FRk.out _ (GRf.out _ GV.out)
            obtain ⟨y0, y1⟩ := GRt.out _ GV.out
            go_wp2_with (first | (go_at_call 11; (with_reducible refine (num9_any _ _).mono ?_); rintro e w' ⟨rfl, rfl⟩) | (go_at_call 13; (with_reducible refine (KLF.out _ _ (GRn.out _ _ GV.out (al_below _)) (ld1 rfl)).mono ?_); rintro e w7 ⟨v7, rfl, h7, hb⟩; obtain ⟨o7, c7, rfl, _, _⟩ := id h7; have H7 := Lib.hid h7; have G7 := Lib.hid (GRn.out _ _ (GRn.out _ _ GV.out (al_below _)) hb); clear h7 hb) | (go_at_call 12; (with_reducible refine (KCN.out _ _ H7.out).mono ?_); rintro e w8 ⟨rfl, rfl⟩))
            go_loopw [10] (fun s10 wQ => ∃ j : Nat, j ≤ ds.length ∧ s10 = .int .i64 j ∧ Hid (GR wQ)) (fun s10 _ => ds.length - (intOf s10).toNat)
            case atStart => exact ⟨0, Nat.zero_le _, rfl, G7⟩
            case round =>
              obtain ⟨j, hj, rfl, GJ⟩ := hrel
              obtain ⟨x0, x1, x2, x3⟩ := FRk.out _ (GRf.out _ GJ.out)
              obtain ⟨y0, y1⟩ := GRt.out _ GJ.out
              by_cases hlt : j < ds.length
              · as_aux_lemma =>
                obtain ⟨q, hq, hqM, t1, t2, t3⟩ := top_num HTA.out.1 HTA.out.2.1 HTA.out.2.2 hlt
                obtain ⟨bX, fX, rfl, KX⟩ := HXd.out j hlt
                have KINj := Lib.hid (fun W v h hv => KIN.out W v h hv j hlt)
                have KAT := Lib.hid (fun W h => KAT0.out W h j hlt)
                rw [hq] at KINj
                have KZ := Lib.hid (fun W (h : GR W) => And.intro (KX W (GRf.out _ h)) (GRm.out W q h hqM))
                clear KIN KAT0 KX hq
                have KIN := KINj
                clear KINj
                generalize (mxl sh ds A ds.length M).getD q 0 = T at *
                generalize (mpl sh ds A ds.length M).getD q 0 = P at *
                generalize stx sh A j = H at *
                generalize ds.getD j 0 = v at *
                have HM2 := Lib.hid t1
                clear t1
                have hAl : (A : Int) < (sh.length : Int) := by have := HTA.out.2.1; omega
                go_upto_region 19 with (first | (go_at_call 14; (with_reducible refine (KIN.out _ _ (GRn.out _ _ GJ.out (al_below _)) (ld1 rfl)).mono ?_); rintro e w9 ⟨rfl, hb⟩; have G9 := Lib.hid (GRn.out _ _ (GRn.out _ _ GJ.out (al_below _)) hb); obtain ⟨x0, x1, x2, x3⟩ := FRk.out _ (GRf.out _ G9.out); obtain ⟨y0, y1⟩ := GRt.out _ G9.out; clear hb) | (go_at_call 15; (with_reducible refine (KAT.out _ G9.out).mono ?_); rintro e w10 ⟨b10, f10, c10, rfl, h10, hb⟩; have G10 := Lib.hid (GRn.out _ _ G9.out hb); obtain ⟨x0, x1, x2, x3⟩ := FRk.out _ (GRf.out _ G10.out); obtain ⟨y0, y1⟩ := GRt.out _ G10.out; obtain ⟨z1, zT, zP⟩ := KZ.out _ G10.out; clear hb))
                have G11 := G10
                clear KIN KAT KZ
                rcases Int.lt_trichotomy H P with c | c | c
                · as_aux_lemma =>
                  have c1 : ¬ T < v := by have := HM2.out; omega
                  have c3 : ¬ v = T := by have := t2 c; omega
                  have c4 : ¬ H = P := by omega
                  clear t2 t3
                  go_wp2
                  exact ⟨⟨j + 1, by omega, by go_num, G11⟩, by simp [intOf]; omega⟩
                · as_aux_lemma =>
                  have e := t3 c
                  subst c
                  subst e
                  clear t2 t3
                  go_wp2
                  exact ⟨⟨j + 1, by omega, by go_num, G11⟩, by simp [intOf]; omega⟩
                · as_aux_lemma =>
                  have c1 : ¬ T < v := by have := HM2.out; omega
                  have c3 : ¬ H < P := by omega
                  have c4 : ¬ H = P := by omega
                  clear t2 t3 c
                  go_wp2
                  exact ⟨⟨j + 1, by omega, by go_num, G11⟩, by simp [intOf]; omega⟩
              · as_aux_lemma =>
                obtain rfl : j = ds.length := by omega
                have FM := Lib.hid (GRf.out _ GJ.out)
                clear KIN KAT0 KLF KCN HXd GRm hj hlt
                by_cases hn : sh.length < 2
                · as_aux_lemma =>
                  have hn2 : (sh.length : Int) < 2 := by omega
                  clear hn
                  go_wp2
                  exact ⟨⟨k + 1, by omega, by go_num, hB.trans ((FRb.out _ FM.out).mono hBs)⟩, by simp [intOf]; omega⟩
                · have hn2 : ¬ (sh.length : Int) < 2 := by omega
                  obtain ⟨B, lo, hi, e1, e2, hlo, hhi, hAB⟩ := next_axis HTA.out.2.1 (show 2 ≤ sh.length by omega) lsh
                  have HSN := Lib.hid (And.intro hlo hhi)
                  have hz2 : ¬ (sh.length : Int) = 0 := by omega
                  clear hn
                  go_upto_region 23 with (fail)
                  first | rw [e2] | skip
                  go_cut [15, 16] (fun s15 s16 wx => s15 = .int .i64 (lo : Nat) ∧ s16 = .int .i64 (hi : Nat) ∧ Hid (FR wx))
                  case first =>
                    as_aux_lemma =>
                    rcases hAB with ⟨rfl, rfl⟩ | ⟨rfl, rfl⟩
                    · have m1 : (A : Int) < (B : Int) := by omega
                      have m2 : ¬ (B : Int) < (A : Int) := by omega
                      clear hlo hhi hz'
                      go_wp2
                      go_meet
                      refine ⟨?_, ?_, FM⟩ <;> first | rfl | exact congrArg (Value.int IntKind.i64) (by omega)
                    · have m1 : (B : Int) < (A : Int) := by omega
                      have m2 : ¬ (A : Int) < (B : Int) := by omega
                      clear hlo hhi hz'
                      go_wp2
                      go_meet
                      refine ⟨?_, ?_, FM⟩ <;> first | rfl | exact congrArg (Value.int IntKind.i64) (by omega)
                  case rest =>
                    obtain ⟨rfl, rfl, HC⟩ := hcut
                    have FC := HC
                    have HL2 : Hid (∀ W, FR W → Ld W (.slice oA sh.length cA) sh ∧ Ld W (.slice oX ds.length cX) ds) := Lib.hid (fun W h => ⟨HL.out.1.below (FRb.out _ h), HL.out.2.1.below (FRb.out _ h)⟩)
                    obtain ⟨x0, x1, x2, x3⟩ := FRk.out _ FC.out
                    have hp := may_pos (tnb_parts HTA.out.1).1
                    obtain ⟨M1, hM1⟩ : ∃ M1 : Nat, (M1 : Int) = prod (lf sh [(hi : Int)] 0) := ⟨(prod (lf sh [(hi : Int)] 0)).toNat, by have := lf_prod [(hi : Int)] sh 0 hp; omega⟩
                    obtain ⟨M2, hM2⟩ : ∃ M2 : Nat, (M2 : Int) = prod (lf sh [(lo : Int), (hi : Int)] 0) := ⟨(prod (lf sh [(lo : Int), (hi : Int)] 0)).toNat, by have := lf_prod [(lo : Int), (hi : Int)] sh 0 hp; omega⟩
                    have KB0 : Hid (∀ W v, FR W → Ld W v [(lo : Int), (hi : Int)] → Calls Try.prog 16 #[.agg #[.slice oA sh.length cA, .slice oX ds.length cX], v] W (Ty W (rde sh ds [(lo : Int), (hi : Int)] 1 M2) (unl (rde sh ds [(lo : Int), (hi : Int)] 1 M2) (lf sh [(lo : Int), (hi : Int)] 0)) (unl (rde sh ds [(lo : Int), (hi : Int)] 1 M2) (rdv sh ds [(lo : Int), (hi : Int)] 1 M2)))) := Lib.hid (fun W v h hv => sum_at _ _ v sh ds _ M2 W (HL2.out W h).1 (HL2.out W h).2 hv HTA.out.1 (axb_two HSN.out.1 HSN.out.2) hM2)
                    have KF0 : Hid (∀ W v, FR W → Ld W v [(hi : Int)] → Calls Try.prog 16 #[.agg #[.slice oA sh.length cA, .slice oX ds.length cX], v] W (Ty W (rde sh ds [(hi : Int)] 1 M1) (unl (rde sh ds [(hi : Int)] 1 M1) (lf sh [(hi : Int)] 0)) (unl (rde sh ds [(hi : Int)] 1 M1) (rdv sh ds [(hi : Int)] 1 M1)))) := Lib.hid (fun W v h hv => sum_at _ _ v sh ds _ M1 W (HL2.out W h).1 (HL2.out W h).2 hv HTA.out.1 (axb_one HSN.out.2) hM1)
                    have KA0 : Hid (∀ W, FR W → Calls Try.prog 16 #[.agg #[.slice oA sh.length cA, .slice oX ds.length cX], .slice none 0 0] W (Syes W sh ds)) := Lib.hid (fun W h => by
                      obtain ⟨n1, n2, n3, n4⟩ := none_num HTA.out.1
                      have h := sum_at _ _ _ sh ds [] ds.length W (HL2.out W h).1 (HL2.out W h).2 (Ld.nil W) HTA.out.1 (by rfl) n4
                      rw [n1, n2, n3] at h
                      exact h.mono (fun _ _ hh => ty_yes hh rfl))
                    have TW : Hid (rde sh ds [(hi : Int)] 1 M1 = 0 → rde sh ds [(lo : Int), (hi : Int)] 1 M2 = 0 → ∀ W va vb v, Ld W va (lf sh [(hi : Int)] 0) → Ld W vb (rdv sh ds [(hi : Int)] 1 M1) → Ld W v [(lo : Int)] → Calls Try.prog 16 #[.agg #[va, vb], v] W (Syes W (lf sh [(lo : Int), (hi : Int)] 0) (rdv sh ds [(lo : Int), (hi : Int)] 1 M2))) := Lib.hid (fun f g W va vb v ha hb hv => by
                      obtain ⟨n1, n2, n3, n4⟩ := twice_num HTA.out.1 HSN.out.1 HSN.out.2 hM1 f g
                      have hlen : lo < (lf sh [(hi : Int)] 0).length := by
                        rw [lf_one sh hi 0 (by omega), List.length_eraseIdx]
                        have := HSN.out.1; have := HSN.out.2
                        split <;> omega
                      have h := sum_at va vb v _ _ [(lo : Int)] M2 W ha hb hv n1 (axb_one hlen) (by rw [n4]; exact hM2)
                      rw [n2, n3, n4] at h
                      exact h.mono (fun _ _ hh => ty_yes hh rfl))
                    have KEQ := Lib.hid (fun W va vb ua ub (ha : Ld W va (lf sh [(lo : Int), (hi : Int)] 0)) (hb : Ld W vb (rdv sh ds [(lo : Int), (hi : Int)] 1 M2)) (hc : Ld W ua (lf sh [(lo : Int), (hi : Int)] 0)) (hd : Ld W ub (rdv sh ds [(lo : Int), (hi : Int)] 1 M2)) => eqtensor_same va vb ua ub _ _ W ha hb hc hd (by have := lf_len_le [(lo : Int), (hi : Int)] sh 0; omega) (by rw [show (rdv sh ds [(lo : Int), (hi : Int)] 1 M2).length = M2 from vls_len _ _]; have := lf_prod [(lo : Int), (hi : Int)] sh 0 hp; have := may_prod (tnb_parts HTA.out.1).1; omega))
                    have KEA := Lib.hid (fun W va vb ua ub (ha : Ld W va sh) (hb : Ld W vb ds) (hc : Ld W ua sh) (hd : Ld W ub ds) => eqtensor_same va vb ua ub _ _ W ha hb hc hd (by omega) (by have := may_prod (tnb_parts HTA.out.1).1; have := HDL.out; omega))
                    generalize lf sh [(lo : Int), (hi : Int)] 0 = S2 at *
                    generalize rdv sh ds [(lo : Int), (hi : Int)] 1 M2 = D2 at *
                    generalize lf sh [(hi : Int)] 0 = S1 at *
                    generalize rdv sh ds [(hi : Int)] 1 M1 = D1 at *
                    generalize rde sh ds [(lo : Int), (hi : Int)] 1 M2 = E2 at *
                    generalize rde sh ds [(hi : Int)] 1 M1 = E1 at *
                    clear hM1 hM2 hp e1 e2 hlo hhi hAB hz'
                    by_cases f : E2 = 0
                    · by_cases g : E1 = 0
                      · as_aux_lemma =>
                        have KB : Hid (∀ W v, FR W → Ld W v [(lo : Int), (hi : Int)] → Calls Try.prog 16 #[.agg #[.slice oA sh.length cA, .slice oX ds.length cX], v] W (Syes W S2 D2)) := Lib.hid (fun W v h hv => (KB0.out W v h hv).mono (fun _ _ hh => ty_yes hh f))
                        have KF : Hid (∀ W v, FR W → Ld W v [(hi : Int)] → Calls Try.prog 16 #[.agg #[.slice oA sh.length cA, .slice oX ds.length cX], v] W (Syes W S1 D1)) := Lib.hid (fun W v h hv => (KF0.out W v h hv).mono (fun _ _ hh => ty_yes hh g))
                        have KT := Lib.hid (TW.out g f)
                        clear KB0 KF0 TW f g
                        go_upto_region 25 with (go_at_call 16; (with_reducible refine (KB.out _ _ (FRn.out _ _ FC.out (al_below _)) (ld2 rfl)).mono ?_); rintro e wa ⟨oa, ca, ob, cb, rfl, ha1, ha2, hbw⟩; have Fa := Lib.hid (FRn.out _ _ (FRn.out _ _ FC.out (al_below _)) hbw); have Ha := Lib.hid (And.intro ha1 ha2); clear ha1 ha2 hbw)
                        obtain ⟨wc, hwc⟩ : ∃ wc, wc = wa.alloc (.cells #[.slice oa S2.length ca, .slice ob D2.length cb] 26) := ⟨_, rfl⟩
                        obtain ⟨TC, hTC⟩ : ∃ TC, TC = wa.heap.size := ⟨_, rfl⟩
                        rw [← hwc, ← hTC]
                        obtain ⟨HR, hHR⟩ : ∃ HR : World → Prop, HR = fun W => FR W ∧ Blk W TC 26 #[.slice oa S2.length ca, .slice ob D2.length cb] ∧ Ld W (.slice oa S2.length ca) S2 ∧ Ld W (.slice ob D2.length cb) D2 := ⟨_, rfl⟩
                        have HV : Hid (HR wc) := Lib.hid (by rw [hHR, hwc, hTC]; exact ⟨FRn.out _ _ Fa.out (al_below _), Blk.new _ _ _, Ha.out.1.below (al_below _), Ha.out.2.below (al_below _)⟩)
                        have HRf : Hid (∀ W, HR W → FR W) := Lib.hid (fun W h => by rw [hHR] at h; exact h.1)
                        have HRn : Hid (∀ W W', HR W → Below W.heap.size W W' → HR W') := Lib.hid (fun W W' h hb => by rw [hHR] at h ⊢; exact ⟨FRn.out _ _ h.1 hb, h.2.1.below hb h.2.1.lt, h.2.2.1.below hb, h.2.2.2.below hb⟩)
                        have HRt : Hid (∀ W, HR W → (W.cell? ⟨TC, 0, none⟩ = some (.slice oa S2.length ca) ∧ W.cell? ⟨TC, 1, none⟩ = some (.slice ob D2.length cb)) ∧ Ld W (.slice oa S2.length ca) S2 ∧ Ld W (.slice ob D2.length cb) D2) := Lib.hid (fun W h => by rw [hHR] at h; exact ⟨blk2t h.2.1, h.2.2⟩)
                        clear hwc hTC hHR Fa Ha x0 x1 x2 x3 KB
                        obtain ⟨x0, x1, x2, x3⟩ := FRk.out _ (HRf.out _ HV.out)
                        go_upto_region 26 with (go_at_call 16; (with_reducible refine (KF.out _ _ (HRf.out _ (HRn.out _ _ HV.out (al_below _))) (ld1 rfl)).mono ?_); rintro e wd ⟨od, cd, oe, ce, rfl, ha1, ha2, hbw⟩; have Hd := Lib.hid (And.intro (HRn.out _ _ (HRn.out _ _ HV.out (al_below _)) hbw) (And.intro ha1 ha2)); clear ha1 ha2 hbw)
                        obtain ⟨we, hwe⟩ : ∃ we, we = wd.alloc (.cells #[.slice od S1.length cd, .slice oe D1.length ce] 26) := ⟨_, rfl⟩
                        obtain ⟨TE, hTE⟩ : ∃ TE, TE = wd.heap.size := ⟨_, rfl⟩
                        rw [← hwe, ← hTE]
                        have GE : Hid (HR we) := Lib.hid (by rw [hwe]; exact HRn.out _ _ Hd.out.1 (al_below _))
                        have GT : Hid (Blk we TE 26 #[.slice od S1.length cd, .slice oe D1.length ce] ∧ Ld we (.slice od S1.length cd) S1 ∧ Ld we (.slice oe D1.length ce) D1) := Lib.hid (by rw [hwe, hTE]; exact ⟨Blk.new _ _ _, Hd.out.2.1.below (al_below _), Hd.out.2.2.below (al_below _)⟩)
                        clear hwe hTE Hd x0 x1 x2 x3 KF HV
                        obtain ⟨y0, y1⟩ := blk2t GT.out.1
                        go_upto_region 28 with (first | (go_at_call 11; (with_reducible refine (num9_any _ _).mono ?_); rintro e w' ⟨rfl, rfl⟩) | (go_at_call 16; (with_reducible refine (KT.out _ _ _ _ (GT.out.2.1.below (al_below _)) (GT.out.2.2.below (al_below _)) (ld1 rfl)).mono ?_); rintro e wf ⟨og, cg, oh, ch, rfl, ha1, ha2, hbw⟩; have Hf := Lib.hid (And.intro (HRn.out _ _ (HRn.out _ _ GE.out (al_below _)) hbw) (And.intro ha1 ha2)); clear ha1 ha2 hbw))
                        clear y0 y1
                        obtain ⟨wg, hwg⟩ : ∃ wg, wg = wf.alloc (.cells #[.slice og S2.length cg, .slice oh D2.length ch] 26) := ⟨_, rfl⟩
                        obtain ⟨TG, hTG⟩ : ∃ TG, TG = wf.heap.size := ⟨_, rfl⟩
                        rw [← hwg, ← hTG]
                        have G8 : Hid (HR wg) := Lib.hid (by rw [hwg]; exact HRn.out _ _ Hf.out.1 (al_below _))
                        have H8 : Hid (Blk wg TG 26 #[.slice og S2.length cg, .slice oh D2.length ch] ∧ Ld wg (.slice og S2.length cg) S2 ∧ Ld wg (.slice oh D2.length ch) D2) := Lib.hid (by rw [hwg, hTG]; exact ⟨Blk.new _ _ _, Hf.out.2.1.below (al_below _), Hf.out.2.2.below (al_below _)⟩)
                        clear hwg hTG Hf GE GT KT
                        obtain ⟨⟨y0, y1⟩, L1, L2⟩ := HRt.out _ G8.out
                        obtain ⟨y2, y3⟩ := blk2t H8.out.1
                        have KE1 := Lib.hid (KEQ.out wg _ _ _ _ H8.out.2.1 H8.out.2.2 L1 L2)
                        clear L1 L2
                        go_upto_region 31 with (first | (go_at_call 11; (with_reducible refine (num9_any _ _).mono ?_); rintro e w' ⟨rfl, rfl⟩) | (go_at_call 17; (with_reducible refine KE1.out.mono ?_); rintro e wh ⟨rfl, hbw⟩; have Fh := Lib.hid (HRf.out _ (HRn.out _ _ G8.out hbw)); obtain ⟨x0, x1, x2, x3⟩ := FRk.out _ Fh.out; clear hbw) | (go_at_call 16; (with_reducible refine (KA0.out _ Fh.out).mono ?_); rintro e wi ⟨oi, ci, ok, ck, rfl, ha1, ha2, hbw⟩; have Hi := Lib.hid (And.intro (FRn.out _ _ Fh.out hbw) (And.intro ha1 ha2)); clear ha1 ha2 hbw))
                        obtain ⟨wj, hwj⟩ : ∃ wj, wj = wi.alloc (.cells #[.slice oi sh.length ci, .slice ok ds.length ck] 26) := ⟨_, rfl⟩
                        obtain ⟨TJ, hTJ⟩ : ∃ TJ, TJ = wi.heap.size := ⟨_, rfl⟩
                        rw [← hwj, ← hTJ]
                        have F9 : Hid (FR wj) := Lib.hid (by rw [hwj]; exact FRn.out _ _ Hi.out.1 (al_below _))
                        have H9 : Hid (Blk wj TJ 26 #[.slice oi sh.length ci, .slice ok ds.length ck] ∧ Ld wj (.slice oi sh.length ci) sh ∧ Ld wj (.slice ok ds.length ck) ds) := Lib.hid (by rw [hwj, hTJ]; exact ⟨Blk.new _ _ _, Hi.out.2.1.below (al_below _), Hi.out.2.2.below (al_below _)⟩)
                        clear hwj hTJ Hi G8 H8 KE1 x0 x1 x2 x3 y0 y1 y2 y3
                        obtain ⟨x0, x1, x2, x3⟩ := FRk.out _ F9.out
                        obtain ⟨y2, y3⟩ := blk2t H9.out.1
                        have KE2 := Lib.hid (KEA.out wj _ _ _ _ H9.out.2.1 H9.out.2.2 (HL2.out _ F9.out).1 (HL2.out _ F9.out).2)
                        go_wp2_with (first | (go_at_call 11; (with_reducible refine (num9_any _ _).mono ?_); rintro e w' ⟨rfl, rfl⟩) | (go_at_call 17; (with_reducible refine KE2.out.mono ?_); rintro e wk ⟨rfl, hbw⟩; have F10 := Lib.hid (FRn.out _ _ F9.out hbw); clear hbw))
                        exact ⟨⟨k + 1, by omega, by go_num, hB.trans ((FRb.out _ F10.out).mono hBs)⟩, by simp [intOf]; omega⟩
                      · as_aux_lemma =>
                        have KB : Hid (∀ W v, FR W → Ld W v [(lo : Int), (hi : Int)] → Calls Try.prog 16 #[.agg #[.slice oA sh.length cA, .slice oX ds.length cX], v] W (Syes W S2 D2)) := Lib.hid (fun W v h hv => (KB0.out W v h hv).mono (fun _ _ hh => ty_yes hh f))
                        have KF : Hid (∀ W v, FR W → Ld W v [(hi : Int)] → Calls Try.prog 16 #[.agg #[.slice oA sh.length cA, .slice oX ds.length cX], v] W (Sno W)) := Lib.hid (fun W v h hv => (KF0.out W v h hv).mono (fun _ _ hh => ty_no hh g))
                        clear KB0 KF0 TW f g
                        go_wp2_with (first | (go_at_call 16; (with_reducible refine (KB.out _ _ (FRn.out _ _ FC.out (al_below _)) (ld2 rfl)).mono ?_); rintro e wa ⟨oa, ca, ob, cb, rfl, _, _, hbw⟩; have Fa := Lib.hid (FRn.out _ _ (FRn.out _ _ FC.out (al_below _)) hbw); obtain ⟨x0, x1, x2, x3⟩ := FRk.out _ (FRn.out _ _ Fa.out (al_below (.cells #[.slice oa S2.length ca, .slice ob D2.length cb] 26))); clear hbw) | (go_at_call 16; (with_reducible refine (KF.out _ _ (FRn.out _ _ (FRn.out _ _ Fa.out (al_below _)) (al_below _)) (ld1 (World.size_alloc _ _))).mono ?_); rintro e wd ⟨od, nd, cd, oe, ne, ce, Eb, rfl, hEb, hbw⟩; have Fd := Lib.hid (FRn.out _ _ (FRn.out _ _ (FRn.out _ _ Fa.out (al_below _)) (al_below _)) hbw); have FD := Lib.hid (FRn.out _ _ Fd.out (al_below (.cells #[.slice od nd cd, .slice oe ne ce] 26))); clear hbw) | (go_at_call 11; (with_reducible refine (num9_any _ _).mono ?_); rintro e w' ⟨rfl, rfl⟩))
                        exact ⟨⟨k + 1, by omega, by go_num, hB.trans ((FRb.out _ FD.out).mono hBs)⟩, by simp [intOf]; omega⟩
                    · as_aux_lemma =>
                      have KB : Hid (∀ W v, FR W → Ld W v [(lo : Int), (hi : Int)] → Calls Try.prog 16 #[.agg #[.slice oA sh.length cA, .slice oX ds.length cX], v] W (Sno W)) := Lib.hid (fun W v h hv => (KB0.out W v h hv).mono (fun _ _ hh => ty_no hh f))
                      have KF : Hid (∀ W v, FR W → Ld W v [(hi : Int)] → Calls Try.prog 16 #[.agg #[.slice oA sh.length cA, .slice oX ds.length cX], v] W (Sany W)) := Lib.hid (fun W v h hv => (KF0.out W v h hv).mono (fun _ _ hh => ty_any hh))
                      clear KB0 KF0 TW f
                      go_wp2_with (first | (go_at_call 16; (with_reducible refine (KB.out _ _ (FRn.out _ _ FC.out (al_below _)) (ld2 rfl)).mono ?_); rintro e wa ⟨oa, na, ca, ob, nb, cb, Ea, rfl, hEa, hbw⟩; have Fa := Lib.hid (FRn.out _ _ (FRn.out _ _ FC.out (al_below _)) hbw); obtain ⟨x0, x1, x2, x3⟩ := FRk.out _ (FRn.out _ _ Fa.out (al_below (.cells #[.slice oa na ca, .slice ob nb cb] 26))); clear hbw) | (go_at_call 16; (with_reducible refine (KF.out _ _ (FRn.out _ _ (FRn.out _ _ Fa.out (al_below _)) (al_below _)) (ld1 (World.size_alloc _ _))).mono ?_); rintro e wd ⟨od, nd, cd, oe, ne, ce, Eb, rfl, hbw⟩; have Fd := Lib.hid (FRn.out _ _ (FRn.out _ _ (FRn.out _ _ Fa.out (al_below _)) (al_below _)) hbw); have FD := Lib.hid (FRn.out _ _ Fd.out (al_below (.cells #[.slice od nd cd, .slice oe ne ce] 26))); clear hbw) | (go_at_call 11; (with_reducible refine (num9_any _ _).mono ?_); rintro e w' ⟨rfl, rfl⟩))
                      exact ⟨⟨k + 1, by omega, by go_num, hB.trans ((FRb.out _ FD.out).mono hBs)⟩, by simp [intOf]; omega⟩

    · as_aux_lemma =>
      by_cases g1 : k < len
      · have g2 : 10 ≤ k := by omega
        clear g
        go_wp2_with (go_at_call 18; (with_reducible refine (wakes9_any _).mono ?_); rintro e w9 ⟨rfl, hb9⟩)
        go_ret
        exact ⟨rfl, hB.trans (hb9.mono hBs)⟩
      · have g2 : len ≤ k := by omega
        clear g g1
        go_wp2_with (go_at_call 18; (with_reducible refine (wakes9_any _).mono ?_); rintro e w9 ⟨rfl, hb9⟩)
        go_ret
        exact ⟨rfl, hB.trans (hb9.mono hBs)⟩
end Go.Proofs.Ytlfijpcpfepfbaa
