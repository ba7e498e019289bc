/-
  ElemSpread's loop.
-/
import Derived.Deep.RegionHeld3
import Derived.Test.YtpfcjajmfadcbaaM04
import Derived.Test.YtpfcjajmfadcbaaM10
import Derived.Test.YtpfcjajmfadcbaaM11
import Derived.Test.YtpfcjajmfadcbaaM12
namespace Go.Proofs.Ytpfcjajmfadcbaa
open Go.RowKit Go.Shelf

theorem blk7 {W : World} {b : Nat} {v0 v1 v2 v3 v4 v5 v6 : Value} (h : Blk W b 28 #[v0, v1, v2, v3, v4, v5, v6]) : W.cell? ⟨b, 0, none⟩ = some v0 ∧ W.cell? ⟨b, 1, none⟩ = some v1 ∧ W.cell? ⟨b, 2, none⟩ = some v2 ∧ W.cell? ⟨b, 3, none⟩ = some v3 ∧ W.cell? ⟨b, 4, none⟩ = some v4 ∧ W.cell? ⟨b, 5, none⟩ = some v5 ∧ W.cell? ⟨b, 6, none⟩ = some v6 :=
  ⟨h.cell 0, h.cell 1, h.cell 2, h.cell 3, h.cell 4, h.cell 5, h.cell 6⟩
theorem lay_len (sa da s : List Int) (N : Nat) : (lay sa da s N).length = N := cps_len _ _ _ _ _
theorem Ld.setc2 {W : World} {v : Value} {ls : List Int} {b : Nat} {u1 u2 : Value} {x y : Value} (h : Ld W v ls) (hb : Blk W b 26 #[u1, u2]) (hu : u1 = .slice none 0 0 ∧ u2 = .slice none 0 0 := by exact ⟨rfl, rfl⟩) : Ld ((W.setCell ⟨b, 0, none⟩ x).setCell ⟨b, 1, none⟩ y) v ls := by
  obtain ⟨rfl, rfl⟩ := hu
  obtain ⟨o, c, rfl, h1, h2⟩ := h
  refine ⟨o, c, rfl, h1, fun k hk => ?_⟩
  obtain ⟨g, f, e1, h3, h4⟩ := h2 k hk
  have hne : ¬ g = b := by
    rintro rfl
    rcases Nat.lt_or_ge (f + k) 2 with h | h
    · rcases (show f + k = 0 ∨ f + k = 1 by omega) with e | e
      · rw [e, hb.cell 0] at h4; simp at h4
      · rw [e, hb.cell 1] at h4; simp at h4
    · rw [World.cell?, show W.heap[g]? = _ from hb] at h4
      simp at h4
      rw [List.getElem?_eq_none (by simpa using h)] at h4
      cases h4
  refine ⟨g, f, e1, by simpa using h3, ?_⟩
  rw [← h4]
  simp only [World.cell?]
  rw [Below.heap_setCell _ _ _ _ hne, Below.heap_setCell _ _ _ _ hne]
theorem unl_len_le (e : Int) {l : List Int} {n : Nat} (h : l.length ≤ n) : (unl e l).length ≤ n := by
  unfold unl; split
  · exact h
  · exact Nat.zero_le _
theorem twv_len (vf : Int → Int → Int) (sa da sb db : List Int) : (twv vf sa da sb db).length = (prod (spv sa sb)).toNat := vls_len _ _
theorem tw_self {sa da : List Int} (f : Nat) (ma : may sa = true) : twe (e2 4 f) sa da sa da = 0 ∧ spv sa sa = sa ∧ ∀ m, (twv (v2 4 f) sa da sa da).getD m 0 = 0 := by
  obtain ⟨s0, s1⟩ := spe_self ma
  refine ⟨?_, s1, fun m => ?_⟩
  · unfold twe
    rw [s0, if_pos rfl]
    exact fer_no (fun k _ => by
      show te (_ - _) = 0
      rw [Int.sub_self]; rfl)
  · unfold twv vls
    by_cases h : m < (prod (spv sa sa)).toNat
    · simp only [List.getD_eq_getElem?_getD, List.getElem?_map, List.getElem?_range h]
      show tw (_ - _) = 0
      rw [Int.sub_self]; rfl
    · simp only [List.getD_eq_getElem?_getD]
      rw [List.getElem?_eq_none (by simp; omega)]; rfl
theorem lay_tnb {sa da s : List Int} {N : Nat} (ta : tnb sa da = true) (ms : may s = true) (g : goes sa s = true) (hN : (N : Int) = prod s) : tnb s (lay sa da s N) = true := by
  obtain ⟨ma, hl, hw⟩ := tnb_parts ta
  have h1 : wds (lay sa da s N) = true := wds_yes fun k hk => by
    rw [lay_len] at hk
    have hi := atl_inx s (k : Nat) (may_pos ms) (by omega) (by omega)
    have hb := vw_at (vw_wst ma ms g hl) hi
    unfold lay
    rw [cps_getD hk]
    exact wds_at hw (by omega)
  unfold tnb
  rw [ms, h1, lay_len, decide_eq_true hN]; rfl
theorem e2_sym {O : Int} (h : O = 3 ∨ O = 5) (f : Nat) (a b : Int) : e2 O f a b = e2 O f b a := by
  rcases h with rfl | rfl
  · show te (a + b) = te (b + a); rw [Int.add_comm]
  · show te (rd (a * b) _) = te (rd (b * a) _); rw [Int.mul_comm]
theorem v2_sym {O : Int} (h : O = 3 ∨ O = 5) (f : Nat) (a b : Int) : v2 O f a b = v2 O f b a := by
  rcases h with rfl | rfl
  · show tw (a + b) = tw (b + a); rw [Int.add_comm]
  · show tw (rd (a * b) _) = tw (rd (b * a) _); rw [Int.mul_comm]
/-- The reference's copy, of N words. -/
def RefN (w : World) (sh ds : List Int) (N : Nat) (e : Ending) (w' : World) : Prop := ∃ os cs od cd, e = .returned (.agg #[.slice os sh.length cs, .slice od N cd]) ∧ Ld w' (.slice os sh.length cs) sh ∧ Ld w' (.slice od N cd) ds ∧ Below w.heap.size w w'
theorem refN_of {w w' : World} {sh ds : List Int} {N : Nat} {e : Ending} (hl : ds.length = N) (h : RefT w sh ds e w') : RefN w sh ds N e w' := by
  subst hl; exact h
/-- Two's answer, opened. -/
def Tx (W : World) (E : Int) (S D : List Int) (e : Ending) (w' : World) : Prop := ∃ os cs od cd, e = .returned (.tuple #[.agg #[.slice os S.length cs, .slice od D.length cd], .int .i64 E]) ∧ Ld w' (.slice os S.length cs) S ∧ Ld w' (.slice od D.length cd) D ∧ Below W.heap.size W w'
theorem tx_of {W w' : World} {E : Int} {S D : List Int} {e : Ending} (h : SomeT W E S D e w') : Tx W E S D e w' := by
  obtain ⟨vs, vd, rfl, h1, h2, hb⟩ := someT_ld h
  obtain ⟨o, c, rfl, _, _⟩ := id h1
  obtain ⟨o2, c2, rfl, _, _⟩ := id h2
  exact ⟨o, c, o2, c2, rfl, h1, h2, hb⟩

set_option maxRecDepth 100000 in
set_option maxHeartbeats 100000000 in
theorem elemspread_any (bb oo len cap : Nat) (es : Nat → Ek) (w : World) (_hl : len ≤ 9223372036854775807) (hb : bb < w.heap.size) (hT : ∀ i, i < len → EkAt w bb (oo + i * 7) (es i)) (hok : ∀ i, i < len → (es i).ok w) :
    Calls Try.prog 3 #[.slice (some ⟨bb, oo, none⟩) len cap] w fun e w' => e = .returned (.bool true) ∧ Below w.heap.size w w' := by
  have HT := Lib.hid (And.intro hT hok)
  clear hT hok
  go_enter Try.func3, Try.ntmps3
  go_wp2
  go_loopw [3] (fun s3 wQ => ∃ k : Nat, k ≤ len ∧ s3 = .int .i64 k ∧ Below w.heap.size w wQ) (fun s3 _ => len - (intOf s3).toNat)
  case atStart => exact ⟨0, Nat.zero_le _, rfl, Below.refl _ _⟩
  case round =>
    obtain ⟨k, hk, rfl, hB⟩ := hrel
    have hBs := hB.size
    obtain ⟨w1, hw1⟩ : ∃ w1, w1 = wr := ⟨_, rfl⟩
    subst hw1
    by_cases g : k < len ∧ k < 4
    · obtain ⟨g1, g2⟩ := g
      obtain ⟨t0, t1, t2, t3, t4, t5, t6⟩ := (HT.out.1 k (by omega)).below hB hb
      obtain ⟨⟨hA, hX, hBB, hY⟩, ⟨l0, l1, l2, l3⟩, ⟨a0, a1⟩, ⟨b0, b1⟩, ⟨f0, f1⟩⟩ := HT.out.2 k (by omega)
      replace hA := hA.below hB
      replace hX := hX.below hB
      replace hBB := hBB.below hB
      replace hY := hY.below hB
      generalize es k = p at *
      obtain ⟨vA, vX, vB, vY, sa, da, sb, db, op, c, f⟩ := p
      simp only at t0 t1 t2 t3 t4 t5 t6 hA hX hBB hY l0 l1 l2 l3 a0 a1 b0 b1 f0 f1
      obtain ⟨oA, cA, rfl, _, _⟩ := id hA
      obtain ⟨oX, cX, rfl, _, _⟩ := id hX
      obtain ⟨oB, cB, rfl, _, _⟩ := id hBB
      obtain ⟨oY, cY, rfl, _, _⟩ := id hY
      have K0 := Lib.hid (fun o => (Below.refl w1.heap.size w1).alloc (Nat.le_refl _) o)
      have K4 := Lib.hid (Blk.new w1 28 #[.slice oA sa.length cA, .slice oX da.length cX, .slice oB sb.length cB, .slice oY db.length cY, .int .i64 op, .int .i64 c, .int .i64 f])
      obtain ⟨FR, hFR⟩ : ∃ FR : World → Prop, FR = fun W => Below w1.heap.size w1 W ∧ Blk W w1.heap.size 28 #[.slice oA sa.length cA, .slice oX da.length cX, .slice oB sb.length cB, .slice oY db.length cY, .int .i64 op, .int .i64 c, .int .i64 f] := ⟨_, rfl⟩
      have FRb : Hid (∀ W, FR W → Below w1.heap.size w1 W) := Lib.hid (fun W h => by rw [hFR] at h; exact h.1)
      have FRk := Lib.hid (fun (W : World) (h : FR W) => blk7 (by rw [hFR] at h; exact h.2 : Blk W w1.heap.size 28 #[.slice oA sa.length cA, .slice oX da.length cX, .slice oB sb.length cB, .slice oY db.length cY, .int .i64 op, .int .i64 c, .int .i64 f]))
      have FRl : Hid (∀ W, FR W → w1.heap.size < W.heap.size) := Lib.hid (fun W h => by rw [hFR] at h; exact h.2.lt)
      have FRn : Hid (∀ W W', FR W → Below W.heap.size W W' → FR W') := Lib.hid (fun W W' h hb => by rw [hFR] at h ⊢; exact ⟨h.1.trans (hb.mono h.1.size), h.2.below hb h.2.lt⟩)
      have FRs : Hid (∀ W', Below (w1.alloc (.cells #[.slice oA sa.length cA, .slice oX da.length cX, .slice oB sb.length cB, .slice oY db.length cY, .int .i64 op, .int .i64 c, .int .i64 f] 28)).heap.size (w1.alloc (.cells #[.slice oA sa.length cA, .slice oX da.length cX, .slice oB sb.length cB, .slice oY db.length cY, .int .i64 op, .int .i64 c, .int .i64 f] 28)) W' → FR W') := Lib.hid (fun W' hb => by rw [hFR]; exact ⟨(K0.out _).trans (hb.mono (by simp)), K4.out.below hb (by simp)⟩)
      clear hFR
      have LGA := Lib.hid (fun (W : World) (hW : Below w1.heap.size w1 W) => heavy8_any _ _ sa da 30 W (hA.below hW) (hX.below hW) (by omega) (by omega))
      have LGB := Lib.hid (fun (W : World) (hW : Below w1.heap.size w1 W) => heavy8_any _ _ sb db 30 W (hBB.below hW) (hY.below hW) (by omega) (by omega))
      cases lga : hv8 30 sa da with
      | true =>
        rw [lga] at LGA
        clear lga hA hX hBB hY
        go_wp2_with (go_at_call 4; (with_reducible refine (LGA.out _ (K0.out _)).mono ?_); rintro e w2 ⟨rfl, hb2⟩; have F2 := Lib.hid (FRs.out _ hb2); obtain ⟨x0, x1, x2, x3, x4, x5, x6⟩ := FRk.out _ F2.out; clear hb2)
        go_ret
        exact ⟨rfl, hB.trans ((FRb.out _ F2.out).mono hBs)⟩
      | false =>
        rw [lga] at LGA
        have na := hv8_no lga
        cases lgb : hv8 30 sb db with
        | true =>
          rw [lgb] at LGB
          clear lga lgb hA hX hBB hY
          go_wp2_with (first | (go_at_call 4; (with_reducible refine (LGA.out _ (K0.out _)).mono ?_); rintro e w2 ⟨rfl, hb2⟩; have F2 := Lib.hid (FRs.out _ hb2); obtain ⟨x0, x1, x2, x3, x4, x5, x6⟩ := FRk.out _ F2.out; clear hb2) | (go_at_call 4; (with_reducible refine (LGB.out _ (FRb.out _ F2.out)).mono ?_); rintro e w3 ⟨rfl, hb3⟩; have F3 := Lib.hid (FRn.out _ _ F2.out hb3); obtain ⟨x0, x1, x2, x3, x4, x5, x6⟩ := FRk.out _ F3.out; clear hb3))
          go_ret
          exact ⟨rfl, hB.trans ((FRb.out _ F3.out).mono hBs)⟩
        | false =>
          rw [lgb] at LGB
          have nb := hv8_no lgb
          have HL := Lib.hid (And.intro hA (And.intro hX (And.intro hBB hY)))
          have KMA := Lib.hid (fun (W : World) (hW : Below w1.heap.size w1 W) => rmay8_any _ _ sa da W (hA.below hW) (hX.below hW) (by omega) (by omega))
          have KMB := Lib.hid (fun (W : World) (hW : Below w1.heap.size w1 W) => rmay8_any _ _ sb db W (hBB.below hW) (hY.below hW) (by omega) (by omega))
          clear lga lgb hA hX hBB hY
          go_upto_region 7 with (first | (go_at_call 4; (with_reducible refine (LGA.out _ (K0.out _)).mono ?_); rintro e w2 ⟨rfl, hb2⟩; have F2 := Lib.hid (FRs.out _ hb2); obtain ⟨x0, x1, x2, x3, x4, x5, x6⟩ := FRk.out _ F2.out; clear hb2) | (go_at_call 4; (with_reducible refine (LGB.out _ (FRb.out _ F2.out)).mono ?_); rintro e w3 ⟨rfl, hb3⟩; have F3 := Lib.hid (FRn.out _ _ F2.out hb3); obtain ⟨x0, x1, x2, x3, x4, x5, x6⟩ := FRk.out _ F3.out; clear hb3))
          cases ta : tnb sa da with
          | false =>
            rw [ta] at KMA
            clear ta
            go_wp2_with (go_at_call 5; (with_reducible refine (KMA.out _ (FRb.out _ F3.out)).mono ?_); rintro e w4 ⟨rfl, hb4⟩; have F4 := Lib.hid (FRn.out _ _ F3.out hb4); obtain ⟨x0, x1, x2, x3, x4, x5, x6⟩ := FRk.out _ F4.out; clear hb4)
            exact ⟨⟨k + 1, by omega, by go_num, hB.trans ((FRb.out _ F4.out).mono hBs)⟩, by simp [intOf]; omega⟩
          | true =>
            rw [ta] at KMA
            cases tb : tnb sb db with
            | false =>
              rw [tb] at KMB
              clear ta tb
              go_wp2_with (first | (go_at_call 5; (with_reducible refine (KMA.out _ (FRb.out _ F3.out)).mono ?_); rintro e w4 ⟨rfl, hb4⟩; have F4 := Lib.hid (FRn.out _ _ F3.out hb4); obtain ⟨x0, x1, x2, x3, x4, x5, x6⟩ := FRk.out _ F4.out; clear hb4) | (go_at_call 5; (with_reducible refine (KMB.out _ (FRb.out _ F4.out)).mono ?_); rintro e w5 ⟨rfl, hb5⟩; have F5 := Lib.hid (FRn.out _ _ F4.out hb5); obtain ⟨x0, x1, x2, x3, x4, x5, x6⟩ := FRk.out _ F5.out; clear hb5))
              exact ⟨⟨k + 1, by omega, by go_num, hB.trans ((FRb.out _ F5.out).mono hBs)⟩, by simp [intOf]; omega⟩
            | true =>
              rw [tb] at KMB
              have ma := (tnb_parts ta).1
              have mb := (tnb_parts tb).1
              obtain ⟨fN, hfN⟩ : ∃ fN : Nat, (fN : Int) = 8 + f % 18446744073709551616 % 25 := ⟨(8 + f % 18446744073709551616 % 25).toNat, by omega⟩
              have hfb : fb fN = true := fb_mk (by omega)
              have KFF : Hid (∀ W : World, Calls Try.prog 6 #[.int .i64 f] W fun e w' => e = .returned (.int .i64 (fN : Int)) ∧ W = w') := Lib.hid (fun W => by rw [hfN]; exact ff_any f W)
              have KSP := Lib.hid (fun (W : World) (hW : Below w1.heap.size w1 W) => rspread_any _ _ sa sb W (HL.out.1.below hW) (HL.out.2.2.1.below hW) ma mb)
              have HP := Lib.hid (And.intro ta (And.intro tb (And.intro ma (And.intro mb hfb))))
              clear hfN ta tb
              go_upto_region 10 with (first | (go_at_call 5; (with_reducible refine (KMA.out _ (FRb.out _ F3.out)).mono ?_); rintro e w4 ⟨rfl, hb4⟩; have F4 := Lib.hid (FRn.out _ _ F3.out hb4); obtain ⟨x0, x1, x2, x3, x4, x5, x6⟩ := FRk.out _ F4.out; clear hb4) | (go_at_call 5; (with_reducible refine (KMB.out _ (FRb.out _ F4.out)).mono ?_); rintro e w5 ⟨rfl, hb5⟩; have F5 := Lib.hid (FRn.out _ _ F4.out hb5); obtain ⟨x0, x1, x2, x3, x4, x5, x6⟩ := FRk.out _ F5.out; clear hb5) | (go_at_call 6; (with_reducible refine (KFF.out _).mono ?_); rintro e w' ⟨rfl, rfl⟩) | (go_at_call 7; (with_reducible refine (KSP.out _ (FRb.out _ F5.out)).mono ?_); rintro e w6 ⟨v6, rfl, hv6, hb6⟩; obtain ⟨o6, c6, rfl, _, _⟩ := id hv6; have L6 := Lib.hid hv6; have F6 := Lib.hid (FRn.out _ _ F5.out hb6); obtain ⟨x0, x1, x2, x3, x4, x5, x6⟩ := FRk.out _ F6.out; clear hb6 hv6))
              by_cases hsp : spe sa sb = 0
              · obtain ⟨ms, ga⟩ := goes_spv ma hsp
                have gb : goes sb (spv sa sb) = true := by rw [spv_sym]; exact (goes_spv mb (by rw [spe_sym]; exact hsp)).2
                have ps := may_prod ms
                obtain ⟨N, hN⟩ : ∃ N : Nat, (N : Int) = prod (spv sa sb) := ⟨(prod (spv sa sb)).toNat, by omega⟩
                have hN6 : 1 ≤ N ∧ N ≤ 65536 := by omega
                have TL := Lib.hid (fun (O : Int) => And.intro (tw_lay (sa := sa) (da := da) (sb := sb) (db := db) (e2 O fN) ma mb hsp hN) (tw_lay (sa := sa) (da := da) (sb := sb) (db := db) (v2 O fN) ma mb hsp hN))
                have HS := Lib.hid (And.intro ms (And.intro ga (And.intro gb (And.intro hN hsp))))
                have HSS := Lib.hid (spe_self ms)
                have HSV := Lib.hid (Eq.refl (spv sa sb))
                have l4 := may_len ms
                have KCT : Hid (∀ (W : World) (v : Value), Ld W v (spv sa sb) → Calls Try.prog 8 #[v] W fun e w' => e = .returned (.int .i64 (N : Int)) ∧ W = w') := Lib.hid (fun W v hv => by
                  have h := rcount_any v (spv sa sb) W hv (may_dms ms) (by omega)
                  rwa [rct_may ms, ← hN] at h)
                rw [hsp]
                clear hsp ma mb ms ga gb ps
                generalize hs : spv sa sb = s at *
                replace hs := Lib.hid hs
                by_cases h200 : 200 < (N : Int)
                · go_wp2_with (go_at_call 8; (with_reducible refine (KCT.out _ _ L6.out).mono ?_); rintro e w' ⟨rfl, rfl⟩)
                  exact ⟨⟨k + 1, by omega, by go_num, hB.trans ((FRb.out _ F6.out).mono hBs)⟩, by simp [intOf]; omega⟩
                · have KS := Lib.hid (fun (W : World) (hW : Below w6.heap.size w6 W) => (fun q => And.intro q.1 q.2.1) (FRk.out W (FRn.out _ _ F6.out hW)))
                  have KO := Lib.hid (fun (W : World) (hW : Below w6.heap.size w6 W) => rof_any _ sa W (HL.out.1.below (FRb.out W (FRn.out _ _ F6.out hW))) HP.out.2.2.1)
                  have KW := Lib.hid (fun (W : World) (vs vt : Value) (h1 : Ld W vs sa) (h2 : Ld W vt (stl sa)) (hW : Below w6.heap.size w6 W) => rwiden_any vs vt _ sa (stl sa) s 0 W h1 h2 (L6.out.below hW) (stl_len sa) (may_len HP.out.2.2.1) l4 (goes_parts HP.out.2.2.1 HS.out.1 HS.out.2.1).1)
                  have KC : Hid (∀ (W : World) (vs vt : Value), Ld W vs s → Ld W vt (wst sa (stl sa) s) → Below w6.heap.size w6 W → Calls Try.prog 9 #[.agg #[vs, vt, .int .i64 0], .slice oX da.length cX] W (RefN W s (lay sa da s N) N)) := Lib.hid (fun W vs vt h1 h2 hW => (rcopyt_any vs vt _ s (wst sa (stl sa) s) da 0 N W h1 h2 (HL.out.2.1.below (FRb.out W (FRn.out _ _ F6.out hW))) (vw_wst HP.out.2.2.1 HS.out.1 HS.out.2.1 (tnb_parts HP.out.1).2.1) HS.out.2.2.2.1).mono (fun _ _ hh => refN_of (lay_len sa da s N) hh))
                  go_upto_region 11 with (go_at_call 8; (with_reducible refine (KCT.out _ _ L6.out).mono ?_); rintro e w' ⟨rfl, rfl⟩)
                  go_cut [8] (fun s8 wx => ∃ (wv : World) (P : Nat) (o1 : Option Addr) (c1 : Nat) (o2 : Option Addr) (c2 : Nat), wv = wx ∧ s8 = .pointer (some ⟨P, 0, none⟩) ∧ Blk wx P 26 #[.slice o1 s.length c1, .slice o2 N c2] ∧ Hid (Ld wx (.slice o1 s.length c1) s ∧ Ld wx (.slice o2 N c2) (lay sa da s N)) ∧ Hid (Below w6.heap.size w6 wx))
                  case first => as_aux_lemma =>
                    have B0 : Hid (Below w6.heap.size w6 w6.drew) := Lib.hid (below_drw (Below.refl _ _) 1)
                    refine wp_region_held_drew (S := fun W => W.cell? ⟨w1.heap.size, 0, none⟩ = some (.slice oA sa.length cA) ∧ W.cell? ⟨w1.heap.size, 1, none⟩ = some (.slice oX da.length cX)) (by kernel_rfl) ?_ (fun hHeld => ?_)
                    · exact KS.out _ B0.out
                    have hHd := hHeld
                    generalize w6.drew = wd at *
                    (refine wpAnyH_take (i := 0) (oi := ⟨some 72, _, _, _, _, _⟩) (v := ?v0_a1) rfl (by kernel_rfl) (by kernel_rfl) (by kernel_rfl) (fun _ _ _ h => h) (Or.inl ⟨by rfl, ?hy0_a1⟩) (by assumption) ?rest0_a1; (case hy0_a1 => ((intro w hSw); (try dsimp only at hSw); go_simp; first | done | (with_reducible rfl))))
                    (try simp only [Act.put, List.setIfInBounds_toArray, List.set_cons_zero, List.set_cons_succ])
                    (refine wpAnyH_take (i := 1) (oi := ⟨some 73, _, _, _, _, _⟩) (v := ?v1_a2) rfl (by kernel_rfl) (by kernel_rfl) (by kernel_rfl) (fun _ _ _ h => h) (Or.inl ⟨by rfl, ?hy1_a2⟩) (by assumption) ?rest1_a2; (case hy1_a2 => ((intro w hSw); (try dsimp only at hSw); go_simp; first | done | (with_reducible rfl))))
                    (try simp only [Act.put, List.setIfInBounds_toArray, List.set_cons_zero, List.set_cons_succ])
                    (refine wpAnyH_take (i := 2) (oi := ⟨some 74, _, _, _, _, _⟩) (v := ?v2_a3) rfl (by kernel_rfl) (by kernel_rfl) (by kernel_rfl) (fun _ _ _ h => h) (Or.inl ⟨by rfl, ?hy2_a3⟩) (by assumption) ?rest2_a3; (case hy2_a3 => ((intro w hSw); (try dsimp only at hSw); go_simp; first | done | (with_reducible rfl))))
                    (try simp only [Act.put, List.setIfInBounds_toArray, List.set_cons_zero, List.set_cons_succ])
                    (refine wpAnyH_take (i := 4) (oi := ⟨some 76, _, _, _, _, _⟩) (v := ?v4_a4) rfl (by kernel_rfl) (by kernel_rfl) (by kernel_rfl) (fun _ _ _ h => h) (Or.inl ⟨by rfl, ?hy4_a4⟩) (by assumption) ?rest4_a4; (case hy4_a4 => ((intro w hSw); (try dsimp only at hSw); go_simp; first | done | (with_reducible rfl))))
                    (try simp only [Act.put, List.setIfInBounds_toArray, List.set_cons_zero, List.set_cons_succ])
                    (refine wpAnyH_take (i := 6) (oi := ⟨some 78, _, _, _, _, _⟩) (v := ?v6_a5) rfl (by kernel_rfl) (by kernel_rfl) (by kernel_rfl) (fun _ _ _ h => h) (Or.inl ⟨by rfl, ?hy6_a5⟩) (by assumption) ?rest6_a5; (case hy6_a5 => ((intro w hSw); (try dsimp only at hSw); go_simp; first | done | (with_reducible rfl))))
                    (try simp only [Act.put, List.setIfInBounds_toArray, List.set_cons_zero, List.set_cons_succ])
                    (refine wpAnyH_take (i := 7) (oi := ⟨some 79, _, _, _, _, _⟩) (v := ?v7_a6) rfl (by kernel_rfl) (by kernel_rfl) (by kernel_rfl) (fun _ _ _ h => h) (Or.inl ⟨by rfl, ?hy7_a6⟩) (by assumption) ?rest7_a6; (case hy7_a6 => ((intro w hSw); (try dsimp only at hSw); go_simp; first | done | (with_reducible rfl))))
                    (try simp only [Act.put, List.setIfInBounds_toArray, List.set_cons_zero, List.set_cons_succ])
                    (refine wpAnyH_take (i := 8) (oi := ⟨some 80, _, _, _, _, _⟩) (v := ?v8_a7) rfl (by kernel_rfl) (by kernel_rfl) (by kernel_rfl) (fun _ _ _ h => h) (Or.inl ⟨by rfl, ?hy8_a7⟩) (by assumption) ?rest8_a7; (case hy8_a7 => ((intro w hSw); (try dsimp only at hSw); go_simp; first | done | (with_reducible rfl))))
                    (try simp only [Act.put, List.setIfInBounds_toArray, List.set_cons_zero, List.set_cons_succ])
                    refine wpAnyH_ready (rs := [3, 10]) (by kernel_rfl) (by simp) ?_
                    refine AllReadyH.cons (o := ⟨some 75, _, _, _, _, _⟩) rfl (fun K hK => ?_) (AllReadyH.cons (o := ⟨some 8, _, _, _, _, _⟩) rfl (fun K hK => ?_) (AllReadyH.nil))
                    · go_simp
                      (go_at_call 11; (with_reducible refine (KO.out _ B0.out).mono ?_); rintro e w11 ⟨os, cs, ot, ct, rfl, ho, hb⟩; have V1 := Lib.hid (ov_ld ho); have B1 := Lib.hid (B0.out.trans (hb.mono B0.out.size)); clear ho hb)
                      refine hK.out _ _ ?_ (fun hHeld => ?_)
                      · (try dsimp only)
                        exact KS.out _ B1.out
                      clear hK K
                      (try simp only [Act.put, List.setIfInBounds_toArray, List.set_cons_zero, List.set_cons_succ])
                      refine wpAnyH_ready (rs := [5, 10]) (by kernel_rfl) (by simp) ?_
                      refine AllReadyH.cons (o := ⟨some 77, _, _, _, _, _⟩) rfl (fun K hK => ?_) (AllReadyH.cons (o := ⟨some 8, _, _, _, _, _⟩) rfl (fun K hK => ?_) (AllReadyH.nil))
                      · go_simp
                        (go_at_call 10; (with_reducible refine (KW.out _ _ _ V1.out.1 V1.out.2 B1.out).mono ?_); rintro e w12 ⟨ou, cu, ov, cv, rfl, ho, hb⟩; have V2 := Lib.hid (ov_ld ho); have B2 := Lib.hid (B1.out.trans (hb.mono B1.out.size)); clear ho hb)
                        refine hK.out _ _ ?_ (fun hHeld => ?_)
                        · (try dsimp only)
                          exact KS.out _ B2.out
                        clear hK K
                        (try simp only [Act.put, List.setIfInBounds_toArray, List.set_cons_zero, List.set_cons_succ])
                        refine wpAnyH_ready (rs := [9, 10]) (by kernel_rfl) (by simp) ?_
                        refine AllReadyH.cons (o := ⟨some 81, _, _, _, _, _⟩) rfl (fun K hK => ?_) (AllReadyH.cons (o := ⟨some 8, _, _, _, _, _⟩) rfl (fun K hK => ?_) (AllReadyH.nil))
                        · go_simp
                          (go_at_call 9; (with_reducible refine (KC.out _ _ _ V2.out.1 V2.out.2 B2.out).mono ?_); rintro e w13 ⟨oe, ce, og, cg, rfl, h1, h2, hb⟩; have VT := Lib.hid (And.intro h1 h2); have B3 := Lib.hid (B2.out.trans (hb.mono B2.out.size)); clear h1 h2 hb)
                          refine hK.out _ _ ?_ (fun hHeld => ?_)
                          · (try dsimp only)
                            exact KS.out _ B3.out
                          clear hK K
                          (try simp only [Act.put, List.setIfInBounds_toArray, List.set_cons_zero, List.set_cons_succ])
                          refine wpAnyH_ready (rs := [10]) (by kernel_rfl) (by simp) ?_
                          refine AllReadyH.cons (o := ⟨some 8, _, _, _, _, _⟩) rfl (fun K hK => ?_) (AllReadyH.nil)
                          go_simp
                          have BA := Lib.hid (B3.out.alloc B3.out.size (.cells #[.slice none 0 0, .slice none 0 0] 26))
                          have ZA := Lib.hid (Blk.new w13 26 #[.slice none 0 0, .slice none 0 0])
                          have ZAz := Lib.hid (B3.out.size)
                          refine hK.out _ _ ?_ (fun hHeld => ?_)
                          · (try dsimp only)
                            exact KS.out _ BA.out
                          clear hK K
                          (try simp only [Act.put, List.setIfInBounds_toArray, List.set_cons_zero, List.set_cons_succ])
                          obtain ⟨p0, p1, pf0, pf1⟩ := blk2 ZA.out
                          refine wpAnyH_ready (rs := [11]) (by kernel_rfl) (by simp) ?_
                          refine AllReadyH.cons (o := ⟨none, _, _, _, _, _⟩) rfl (fun K hK => ?_) AllReadyH.nil
                          go_simp
                          refine hK.out _ _ ?_ (fun hHeld => ?_)
                          · (try dsimp only)
                            exact KS.out _ (B3.out.alloc B3.out.size _)
                          clear hK K
                          (try simp only [Act.put, List.setIfInBounds_toArray, List.set_cons_zero, List.set_cons_succ])
                          refine wpAnyH_done (by kernel_rfl) ?_ _
                          go_wp2
                          go_meet
                          exact ⟨_, _, _, _, _, _, rfl, rfl, Blk.new w13 _ _, Lib.hid ⟨VT.out.1.below (al_below _), VT.out.2.below (al_below _)⟩, Lib.hid (B3.out.alloc B3.out.size _)⟩
                        · go_simp
                          have BA := Lib.hid (B2.out.alloc B2.out.size (.cells #[.slice none 0 0, .slice none 0 0] 26))
                          have ZA := Lib.hid (Blk.new w12 26 #[.slice none 0 0, .slice none 0 0])
                          have ZAz := Lib.hid (B2.out.size)
                          refine hK.out _ _ ?_ (fun hHeld => ?_)
                          · (try dsimp only)
                            exact KS.out _ BA.out
                          clear hK K
                          (try simp only [Act.put, List.setIfInBounds_toArray, List.set_cons_zero, List.set_cons_succ])
                          refine wpAnyH_ready (rs := [9]) (by kernel_rfl) (by simp) ?_
                          refine AllReadyH.cons (o := ⟨some 81, _, _, _, _, _⟩) rfl (fun K hK => ?_) (AllReadyH.nil)
                          go_simp
                          (go_at_call 9; (with_reducible refine (KC.out _ _ _ (V2.out.1.below (al_below _)) (V2.out.2.below (al_below _)) BA.out).mono ?_); rintro e w13 ⟨oe, ce, og, cg, rfl, h1, h2, hb⟩; have VT := Lib.hid (And.intro h1 h2); have B3 := Lib.hid (BA.out.trans (hb.mono BA.out.size)); have Z3 := Lib.hid (ZA.out.below hb ZA.out.lt); have Z3z := Lib.hid (ZAz.out); clear h1 h2 hb)
                          refine hK.out _ _ ?_ (fun hHeld => ?_)
                          · (try dsimp only)
                            exact KS.out _ B3.out
                          clear hK K
                          (try simp only [Act.put, List.setIfInBounds_toArray, List.set_cons_zero, List.set_cons_succ])
                          obtain ⟨p0, p1, pf0, pf1⟩ := blk2 Z3.out
                          refine wpAnyH_ready (rs := [11]) (by kernel_rfl) (by simp) ?_
                          refine AllReadyH.cons (o := ⟨none, _, _, _, _, _⟩) rfl (fun K hK => ?_) AllReadyH.nil
                          go_simp
                          refine hK.out _ _ ?_ (fun hHeld => ?_)
                          · (try dsimp only)
                            exact KS.out _ ((B3.out.setCell (p := ⟨_, 0, none⟩) (Z3z.out) _).setCell (p := ⟨_, 1, none⟩) (Z3z.out) _)
                          clear hK K
                          (try simp only [Act.put, List.setIfInBounds_toArray, List.set_cons_zero, List.set_cons_succ])
                          refine wpAnyH_done (by kernel_rfl) ?_ _
                          go_wp2
                          go_meet
                          exact ⟨_, _, _, _, _, _, rfl, rfl, (Z3.out.set_ 0 _).set_ 1 _, Lib.hid ⟨VT.out.1.setc2 Z3.out, VT.out.2.setc2 Z3.out⟩, Lib.hid ((B3.out.setCell (p := ⟨_, 0, none⟩) (Z3z.out) _).setCell (p := ⟨_, 1, none⟩) (Z3z.out) _)⟩
                      · go_simp
                        have BA := Lib.hid (B1.out.alloc B1.out.size (.cells #[.slice none 0 0, .slice none 0 0] 26))
                        have ZA := Lib.hid (Blk.new w11 26 #[.slice none 0 0, .slice none 0 0])
                        have ZAz := Lib.hid (B1.out.size)
                        refine hK.out _ _ ?_ (fun hHeld => ?_)
                        · (try dsimp only)
                          exact KS.out _ BA.out
                        clear hK K
                        (try simp only [Act.put, List.setIfInBounds_toArray, List.set_cons_zero, List.set_cons_succ])
                        refine wpAnyH_ready (rs := [5]) (by kernel_rfl) (by simp) ?_
                        refine AllReadyH.cons (o := ⟨some 77, _, _, _, _, _⟩) rfl (fun K hK => ?_) (AllReadyH.nil)
                        go_simp
                        (go_at_call 10; (with_reducible refine (KW.out _ _ _ (V1.out.1.below (al_below _)) (V1.out.2.below (al_below _)) BA.out).mono ?_); rintro e w12 ⟨ou, cu, ov, cv, rfl, ho, hb⟩; have V2 := Lib.hid (ov_ld ho); have B2 := Lib.hid (BA.out.trans (hb.mono BA.out.size)); have Z2 := Lib.hid (ZA.out.below hb ZA.out.lt); have Z2z := Lib.hid (ZAz.out); clear ho hb)
                        refine hK.out _ _ ?_ (fun hHeld => ?_)
                        · (try dsimp only)
                          exact KS.out _ B2.out
                        clear hK K
                        (try simp only [Act.put, List.setIfInBounds_toArray, List.set_cons_zero, List.set_cons_succ])
                        refine wpAnyH_ready (rs := [9]) (by kernel_rfl) (by simp) ?_
                        refine AllReadyH.cons (o := ⟨some 81, _, _, _, _, _⟩) rfl (fun K hK => ?_) (AllReadyH.nil)
                        go_simp
                        (go_at_call 9; (with_reducible refine (KC.out _ _ _ V2.out.1 V2.out.2 B2.out).mono ?_); rintro e w13 ⟨oe, ce, og, cg, rfl, h1, h2, hb⟩; have VT := Lib.hid (And.intro h1 h2); have B3 := Lib.hid (B2.out.trans (hb.mono B2.out.size)); have Z3 := Lib.hid (Z2.out.below hb Z2.out.lt); have Z3z := Lib.hid (Z2z.out); clear h1 h2 hb)
                        refine hK.out _ _ ?_ (fun hHeld => ?_)
                        · (try dsimp only)
                          exact KS.out _ B3.out
                        clear hK K
                        (try simp only [Act.put, List.setIfInBounds_toArray, List.set_cons_zero, List.set_cons_succ])
                        obtain ⟨p0, p1, pf0, pf1⟩ := blk2 Z3.out
                        refine wpAnyH_ready (rs := [11]) (by kernel_rfl) (by simp) ?_
                        refine AllReadyH.cons (o := ⟨none, _, _, _, _, _⟩) rfl (fun K hK => ?_) AllReadyH.nil
                        go_simp
                        refine hK.out _ _ ?_ (fun hHeld => ?_)
                        · (try dsimp only)
                          exact KS.out _ ((B3.out.setCell (p := ⟨_, 0, none⟩) (Z3z.out) _).setCell (p := ⟨_, 1, none⟩) (Z3z.out) _)
                        clear hK K
                        (try simp only [Act.put, List.setIfInBounds_toArray, List.set_cons_zero, List.set_cons_succ])
                        refine wpAnyH_done (by kernel_rfl) ?_ _
                        go_wp2
                        go_meet
                        exact ⟨_, _, _, _, _, _, rfl, rfl, (Z3.out.set_ 0 _).set_ 1 _, Lib.hid ⟨VT.out.1.setc2 Z3.out, VT.out.2.setc2 Z3.out⟩, Lib.hid ((B3.out.setCell (p := ⟨_, 0, none⟩) (Z3z.out) _).setCell (p := ⟨_, 1, none⟩) (Z3z.out) _)⟩
                    · go_simp
                      have BA := Lib.hid (B0.out.alloc B0.out.size (.cells #[.slice none 0 0, .slice none 0 0] 26))
                      have ZA := Lib.hid (Blk.new wd 26 #[.slice none 0 0, .slice none 0 0])
                      have ZAz := Lib.hid (B0.out.size)
                      refine hK.out _ _ ?_ (fun hHeld => ?_)
                      · (try dsimp only)
                        exact KS.out _ BA.out
                      clear hK K
                      (try simp only [Act.put, List.setIfInBounds_toArray, List.set_cons_zero, List.set_cons_succ])
                      refine wpAnyH_ready (rs := [3]) (by kernel_rfl) (by simp) ?_
                      refine AllReadyH.cons (o := ⟨some 75, _, _, _, _, _⟩) rfl (fun K hK => ?_) (AllReadyH.nil)
                      go_simp
                      (go_at_call 11; (with_reducible refine (KO.out _ BA.out).mono ?_); rintro e w11 ⟨os, cs, ot, ct, rfl, ho, hb⟩; have V1 := Lib.hid (ov_ld ho); have B1 := Lib.hid (BA.out.trans (hb.mono BA.out.size)); have Z1 := Lib.hid (ZA.out.below hb ZA.out.lt); have Z1z := Lib.hid (ZAz.out); clear ho hb)
                      refine hK.out _ _ ?_ (fun hHeld => ?_)
                      · (try dsimp only)
                        exact KS.out _ B1.out
                      clear hK K
                      (try simp only [Act.put, List.setIfInBounds_toArray, List.set_cons_zero, List.set_cons_succ])
                      refine wpAnyH_ready (rs := [5]) (by kernel_rfl) (by simp) ?_
                      refine AllReadyH.cons (o := ⟨some 77, _, _, _, _, _⟩) rfl (fun K hK => ?_) (AllReadyH.nil)
                      go_simp
                      (go_at_call 10; (with_reducible refine (KW.out _ _ _ V1.out.1 V1.out.2 B1.out).mono ?_); rintro e w12 ⟨ou, cu, ov, cv, rfl, ho, hb⟩; have V2 := Lib.hid (ov_ld ho); have B2 := Lib.hid (B1.out.trans (hb.mono B1.out.size)); have Z2 := Lib.hid (Z1.out.below hb Z1.out.lt); have Z2z := Lib.hid (Z1z.out); clear ho hb)
                      refine hK.out _ _ ?_ (fun hHeld => ?_)
                      · (try dsimp only)
                        exact KS.out _ B2.out
                      clear hK K
                      (try simp only [Act.put, List.setIfInBounds_toArray, List.set_cons_zero, List.set_cons_succ])
                      refine wpAnyH_ready (rs := [9]) (by kernel_rfl) (by simp) ?_
                      refine AllReadyH.cons (o := ⟨some 81, _, _, _, _, _⟩) rfl (fun K hK => ?_) (AllReadyH.nil)
                      go_simp
                      (go_at_call 9; (with_reducible refine (KC.out _ _ _ V2.out.1 V2.out.2 B2.out).mono ?_); rintro e w13 ⟨oe, ce, og, cg, rfl, h1, h2, hb⟩; have VT := Lib.hid (And.intro h1 h2); have B3 := Lib.hid (B2.out.trans (hb.mono B2.out.size)); have Z3 := Lib.hid (Z2.out.below hb Z2.out.lt); have Z3z := Lib.hid (Z2z.out); clear h1 h2 hb)
                      refine hK.out _ _ ?_ (fun hHeld => ?_)
                      · (try dsimp only)
                        exact KS.out _ B3.out
                      clear hK K
                      (try simp only [Act.put, List.setIfInBounds_toArray, List.set_cons_zero, List.set_cons_succ])
                      obtain ⟨p0, p1, pf0, pf1⟩ := blk2 Z3.out
                      refine wpAnyH_ready (rs := [11]) (by kernel_rfl) (by simp) ?_
                      refine AllReadyH.cons (o := ⟨none, _, _, _, _, _⟩) rfl (fun K hK => ?_) AllReadyH.nil
                      go_simp
                      refine hK.out _ _ ?_ (fun hHeld => ?_)
                      · (try dsimp only)
                        exact KS.out _ ((B3.out.setCell (p := ⟨_, 0, none⟩) (Z3z.out) _).setCell (p := ⟨_, 1, none⟩) (Z3z.out) _)
                      clear hK K
                      (try simp only [Act.put, List.setIfInBounds_toArray, List.set_cons_zero, List.set_cons_succ])
                      refine wpAnyH_done (by kernel_rfl) ?_ _
                      go_wp2
                      go_meet
                      exact ⟨_, _, _, _, _, _, rfl, rfl, (Z3.out.set_ 0 _).set_ 1 _, Lib.hid ⟨VT.out.1.setc2 Z3.out, VT.out.2.setc2 Z3.out⟩, Lib.hid ((B3.out.setCell (p := ⟨_, 0, none⟩) (Z3z.out) _).setCell (p := ⟨_, 1, none⟩) (Z3z.out) _)⟩
                  case rest => as_aux_lemma =>
                    obtain ⟨w8, P8, o1, c1, o2, c2, rfl, rfl, hK8, hV8, hB8⟩ := hcut
                    clear x0 x1 x2 x3 x4 x5 x6 KS KO KW KC KCT
                    have F8 := Lib.hid (FRn.out _ _ F6.out hB8.out)
                    have L8 := Lib.hid (L6.out.below hB8.out)
                    replace hK8 := Lib.hid hK8
                    have KS := Lib.hid (fun (W : World) (hW : Below w8.heap.size w8 W) => (fun q => And.intro q.2.2.1 q.2.2.2.1) (FRk.out W (FRn.out _ _ F8.out hW)))
                    have KO := Lib.hid (fun (W : World) (hW : Below w8.heap.size w8 W) => rof_any _ sb W (HL.out.2.2.1.below (FRb.out W (FRn.out _ _ F8.out hW))) HP.out.2.2.2.1)
                    have KW := Lib.hid (fun (W : World) (vs vt : Value) (h1 : Ld W vs sb) (h2 : Ld W vt (stl sb)) (hW : Below w8.heap.size w8 W) => rwiden_any vs vt _ sb (stl sb) s 0 W h1 h2 (L8.out.below hW) (stl_len sb) (may_len HP.out.2.2.2.1) l4 (goes_parts HP.out.2.2.2.1 HS.out.1 HS.out.2.2.1).1)
                    have KC : Hid (∀ (W : World) (vs vt : Value), Ld W vs s → Ld W vt (wst sb (stl sb) s) → Below w8.heap.size w8 W → Calls Try.prog 9 #[.agg #[vs, vt, .int .i64 0], .slice oY db.length cY] W (RefN W s (lay sb db s N) N)) := Lib.hid (fun W vs vt h1 h2 hW => (rcopyt_any vs vt _ s (wst sb (stl sb) s) db 0 N W h1 h2 (HL.out.2.2.2.below (FRb.out W (FRn.out _ _ F8.out hW))) (vw_wst HP.out.2.2.2.1 HS.out.1 HS.out.2.2.1 (tnb_parts HP.out.2.1).2.1) HS.out.2.2.2.1).mono (fun _ _ hh => refN_of (lay_len sb db s N) hh))
                    go_upto_region 12 with fail
                    go_cut [9] (fun s8 wx => ∃ (wv : World) (P : Nat) (o1 : Option Addr) (c1 : Nat) (o2 : Option Addr) (c2 : Nat), wv = wx ∧ s8 = .pointer (some ⟨P, 0, none⟩) ∧ Blk wx P 26 #[.slice o1 s.length c1, .slice o2 N c2] ∧ Hid (Ld wx (.slice o1 s.length c1) s ∧ Ld wx (.slice o2 N c2) (lay sb db s N)) ∧ Hid (Below w8.heap.size w8 wx))
                    case first => as_aux_lemma =>
                      have B0 : Hid (Below w8.heap.size w8 w8.drew) := Lib.hid (below_drw (Below.refl _ _) 1)
                      refine wp_region_held_drew (S := fun W => W.cell? ⟨w1.heap.size, 2, none⟩ = some (.slice oB sb.length cB) ∧ W.cell? ⟨w1.heap.size, 3, none⟩ = some (.slice oY db.length cY)) (by kernel_rfl) ?_ (fun hHeld => ?_)
                      · exact KS.out _ B0.out
                      have hHd := hHeld
                      generalize w8.drew = wd at *
                      (refine wpAnyH_take (i := 0) (oi := ⟨some 82, _, _, _, _, _⟩) (v := ?v0_b1) rfl (by kernel_rfl) (by kernel_rfl) (by kernel_rfl) (fun _ _ _ h => h) (Or.inl ⟨by rfl, ?hy0_b1⟩) (by assumption) ?rest0_b1; (case hy0_b1 => ((intro w hSw); (try dsimp only at hSw); go_simp; first | done | (with_reducible rfl))))
                      (try simp only [Act.put, List.setIfInBounds_toArray, List.set_cons_zero, List.set_cons_succ])
                      (refine wpAnyH_take (i := 1) (oi := ⟨some 83, _, _, _, _, _⟩) (v := ?v1_b2) rfl (by kernel_rfl) (by kernel_rfl) (by kernel_rfl) (fun _ _ _ h => h) (Or.inl ⟨by rfl, ?hy1_b2⟩) (by assumption) ?rest1_b2; (case hy1_b2 => ((intro w hSw); (try dsimp only at hSw); go_simp; first | done | (with_reducible rfl))))
                      (try simp only [Act.put, List.setIfInBounds_toArray, List.set_cons_zero, List.set_cons_succ])
                      (refine wpAnyH_take (i := 2) (oi := ⟨some 84, _, _, _, _, _⟩) (v := ?v2_b3) rfl (by kernel_rfl) (by kernel_rfl) (by kernel_rfl) (fun _ _ _ h => h) (Or.inl ⟨by rfl, ?hy2_b3⟩) (by assumption) ?rest2_b3; (case hy2_b3 => ((intro w hSw); (try dsimp only at hSw); go_simp; first | done | (with_reducible rfl))))
                      (try simp only [Act.put, List.setIfInBounds_toArray, List.set_cons_zero, List.set_cons_succ])
                      (refine wpAnyH_take (i := 4) (oi := ⟨some 86, _, _, _, _, _⟩) (v := ?v4_b4) rfl (by kernel_rfl) (by kernel_rfl) (by kernel_rfl) (fun _ _ _ h => h) (Or.inl ⟨by rfl, ?hy4_b4⟩) (by assumption) ?rest4_b4; (case hy4_b4 => ((intro w hSw); (try dsimp only at hSw); go_simp; first | done | (with_reducible rfl))))
                      (try simp only [Act.put, List.setIfInBounds_toArray, List.set_cons_zero, List.set_cons_succ])
                      (refine wpAnyH_take (i := 6) (oi := ⟨some 88, _, _, _, _, _⟩) (v := ?v6_b5) rfl (by kernel_rfl) (by kernel_rfl) (by kernel_rfl) (fun _ _ _ h => h) (Or.inl ⟨by rfl, ?hy6_b5⟩) (by assumption) ?rest6_b5; (case hy6_b5 => ((intro w hSw); (try dsimp only at hSw); go_simp; first | done | (with_reducible rfl))))
                      (try simp only [Act.put, List.setIfInBounds_toArray, List.set_cons_zero, List.set_cons_succ])
                      (refine wpAnyH_take (i := 7) (oi := ⟨some 89, _, _, _, _, _⟩) (v := ?v7_b6) rfl (by kernel_rfl) (by kernel_rfl) (by kernel_rfl) (fun _ _ _ h => h) (Or.inl ⟨by rfl, ?hy7_b6⟩) (by assumption) ?rest7_b6; (case hy7_b6 => ((intro w hSw); (try dsimp only at hSw); go_simp; first | done | (with_reducible rfl))))
                      (try simp only [Act.put, List.setIfInBounds_toArray, List.set_cons_zero, List.set_cons_succ])
                      (refine wpAnyH_take (i := 8) (oi := ⟨some 90, _, _, _, _, _⟩) (v := ?v8_b7) rfl (by kernel_rfl) (by kernel_rfl) (by kernel_rfl) (fun _ _ _ h => h) (Or.inl ⟨by rfl, ?hy8_b7⟩) (by assumption) ?rest8_b7; (case hy8_b7 => ((intro w hSw); (try dsimp only at hSw); go_simp; first | done | (with_reducible rfl))))
                      (try simp only [Act.put, List.setIfInBounds_toArray, List.set_cons_zero, List.set_cons_succ])
                      refine wpAnyH_ready (rs := [3, 10]) (by kernel_rfl) (by simp) ?_
                      refine AllReadyH.cons (o := ⟨some 85, _, _, _, _, _⟩) rfl (fun K hK => ?_) (AllReadyH.cons (o := ⟨some 9, _, _, _, _, _⟩) rfl (fun K hK => ?_) (AllReadyH.nil))
                      · go_simp
                        (go_at_call 11; (with_reducible refine (KO.out _ B0.out).mono ?_); rintro e w11 ⟨os, cs, ot, ct, rfl, ho, hb⟩; have V1 := Lib.hid (ov_ld ho); have B1 := Lib.hid (B0.out.trans (hb.mono B0.out.size)); clear ho hb)
                        refine hK.out _ _ ?_ (fun hHeld => ?_)
                        · (try dsimp only)
                          exact KS.out _ B1.out
                        clear hK K
                        (try simp only [Act.put, List.setIfInBounds_toArray, List.set_cons_zero, List.set_cons_succ])
                        refine wpAnyH_ready (rs := [5, 10]) (by kernel_rfl) (by simp) ?_
                        refine AllReadyH.cons (o := ⟨some 87, _, _, _, _, _⟩) rfl (fun K hK => ?_) (AllReadyH.cons (o := ⟨some 9, _, _, _, _, _⟩) rfl (fun K hK => ?_) (AllReadyH.nil))
                        · go_simp
                          (go_at_call 10; (with_reducible refine (KW.out _ _ _ V1.out.1 V1.out.2 B1.out).mono ?_); rintro e w12 ⟨ou, cu, ov, cv, rfl, ho, hb⟩; have V2 := Lib.hid (ov_ld ho); have B2 := Lib.hid (B1.out.trans (hb.mono B1.out.size)); clear ho hb)
                          refine hK.out _ _ ?_ (fun hHeld => ?_)
                          · (try dsimp only)
                            exact KS.out _ B2.out
                          clear hK K
                          (try simp only [Act.put, List.setIfInBounds_toArray, List.set_cons_zero, List.set_cons_succ])
                          refine wpAnyH_ready (rs := [9, 10]) (by kernel_rfl) (by simp) ?_
                          refine AllReadyH.cons (o := ⟨some 91, _, _, _, _, _⟩) rfl (fun K hK => ?_) (AllReadyH.cons (o := ⟨some 9, _, _, _, _, _⟩) rfl (fun K hK => ?_) (AllReadyH.nil))
                          · go_simp
                            (go_at_call 9; (with_reducible refine (KC.out _ _ _ V2.out.1 V2.out.2 B2.out).mono ?_); rintro e w13 ⟨oe, ce, og, cg, rfl, h1, h2, hb⟩; have VT := Lib.hid (And.intro h1 h2); have B3 := Lib.hid (B2.out.trans (hb.mono B2.out.size)); clear h1 h2 hb)
                            refine hK.out _ _ ?_ (fun hHeld => ?_)
                            · (try dsimp only)
                              exact KS.out _ B3.out
                            clear hK K
                            (try simp only [Act.put, List.setIfInBounds_toArray, List.set_cons_zero, List.set_cons_succ])
                            refine wpAnyH_ready (rs := [10]) (by kernel_rfl) (by simp) ?_
                            refine AllReadyH.cons (o := ⟨some 9, _, _, _, _, _⟩) rfl (fun K hK => ?_) (AllReadyH.nil)
                            go_simp
                            have BA := Lib.hid (B3.out.alloc B3.out.size (.cells #[.slice none 0 0, .slice none 0 0] 26))
                            have ZA := Lib.hid (Blk.new w13 26 #[.slice none 0 0, .slice none 0 0])
                            have ZAz := Lib.hid (B3.out.size)
                            refine hK.out _ _ ?_ (fun hHeld => ?_)
                            · (try dsimp only)
                              exact KS.out _ BA.out
                            clear hK K
                            (try simp only [Act.put, List.setIfInBounds_toArray, List.set_cons_zero, List.set_cons_succ])
                            obtain ⟨p0, p1, pf0, pf1⟩ := blk2 ZA.out
                            refine wpAnyH_ready (rs := [11]) (by kernel_rfl) (by simp) ?_
                            refine AllReadyH.cons (o := ⟨none, _, _, _, _, _⟩) rfl (fun K hK => ?_) AllReadyH.nil
                            go_simp
                            refine hK.out _ _ ?_ (fun hHeld => ?_)
                            · (try dsimp only)
                              exact KS.out _ (B3.out.alloc B3.out.size _)
                            clear hK K
                            (try simp only [Act.put, List.setIfInBounds_toArray, List.set_cons_zero, List.set_cons_succ])
                            refine wpAnyH_done (by kernel_rfl) ?_ _
                            go_wp2
                            go_meet
                            exact ⟨_, _, _, _, _, _, rfl, rfl, Blk.new w13 _ _, Lib.hid ⟨VT.out.1.below (al_below _), VT.out.2.below (al_below _)⟩, Lib.hid (B3.out.alloc B3.out.size _)⟩
                          · go_simp
                            have BA := Lib.hid (B2.out.alloc B2.out.size (.cells #[.slice none 0 0, .slice none 0 0] 26))
                            have ZA := Lib.hid (Blk.new w12 26 #[.slice none 0 0, .slice none 0 0])
                            have ZAz := Lib.hid (B2.out.size)
                            refine hK.out _ _ ?_ (fun hHeld => ?_)
                            · (try dsimp only)
                              exact KS.out _ BA.out
                            clear hK K
                            (try simp only [Act.put, List.setIfInBounds_toArray, List.set_cons_zero, List.set_cons_succ])
                            refine wpAnyH_ready (rs := [9]) (by kernel_rfl) (by simp) ?_
                            refine AllReadyH.cons (o := ⟨some 91, _, _, _, _, _⟩) rfl (fun K hK => ?_) (AllReadyH.nil)
                            go_simp
                            (go_at_call 9; (with_reducible refine (KC.out _ _ _ (V2.out.1.below (al_below _)) (V2.out.2.below (al_below _)) BA.out).mono ?_); rintro e w13 ⟨oe, ce, og, cg, rfl, h1, h2, hb⟩; have VT := Lib.hid (And.intro h1 h2); have B3 := Lib.hid (BA.out.trans (hb.mono BA.out.size)); have Z3 := Lib.hid (ZA.out.below hb ZA.out.lt); have Z3z := Lib.hid (ZAz.out); clear h1 h2 hb)
                            refine hK.out _ _ ?_ (fun hHeld => ?_)
                            · (try dsimp only)
                              exact KS.out _ B3.out
                            clear hK K
                            (try simp only [Act.put, List.setIfInBounds_toArray, List.set_cons_zero, List.set_cons_succ])
                            obtain ⟨p0, p1, pf0, pf1⟩ := blk2 Z3.out
                            refine wpAnyH_ready (rs := [11]) (by kernel_rfl) (by simp) ?_
                            refine AllReadyH.cons (o := ⟨none, _, _, _, _, _⟩) rfl (fun K hK => ?_) AllReadyH.nil
                            go_simp
                            refine hK.out _ _ ?_ (fun hHeld => ?_)
                            · (try dsimp only)
                              exact KS.out _ ((B3.out.setCell (p := ⟨_, 0, none⟩) (Z3z.out) _).setCell (p := ⟨_, 1, none⟩) (Z3z.out) _)
                            clear hK K
                            (try simp only [Act.put, List.setIfInBounds_toArray, List.set_cons_zero, List.set_cons_succ])
                            refine wpAnyH_done (by kernel_rfl) ?_ _
                            go_wp2
                            go_meet
                            exact ⟨_, _, _, _, _, _, rfl, rfl, (Z3.out.set_ 0 _).set_ 1 _, Lib.hid ⟨VT.out.1.setc2 Z3.out, VT.out.2.setc2 Z3.out⟩, Lib.hid ((B3.out.setCell (p := ⟨_, 0, none⟩) (Z3z.out) _).setCell (p := ⟨_, 1, none⟩) (Z3z.out) _)⟩
                        · go_simp
                          have BA := Lib.hid (B1.out.alloc B1.out.size (.cells #[.slice none 0 0, .slice none 0 0] 26))
                          have ZA := Lib.hid (Blk.new w11 26 #[.slice none 0 0, .slice none 0 0])
                          have ZAz := Lib.hid (B1.out.size)
                          refine hK.out _ _ ?_ (fun hHeld => ?_)
                          · (try dsimp only)
                            exact KS.out _ BA.out
                          clear hK K
                          (try simp only [Act.put, List.setIfInBounds_toArray, List.set_cons_zero, List.set_cons_succ])
                          refine wpAnyH_ready (rs := [5]) (by kernel_rfl) (by simp) ?_
                          refine AllReadyH.cons (o := ⟨some 87, _, _, _, _, _⟩) rfl (fun K hK => ?_) (AllReadyH.nil)
                          go_simp
                          (go_at_call 10; (with_reducible refine (KW.out _ _ _ (V1.out.1.below (al_below _)) (V1.out.2.below (al_below _)) BA.out).mono ?_); rintro e w12 ⟨ou, cu, ov, cv, rfl, ho, hb⟩; have V2 := Lib.hid (ov_ld ho); have B2 := Lib.hid (BA.out.trans (hb.mono BA.out.size)); have Z2 := Lib.hid (ZA.out.below hb ZA.out.lt); have Z2z := Lib.hid (ZAz.out); clear ho hb)
                          refine hK.out _ _ ?_ (fun hHeld => ?_)
                          · (try dsimp only)
                            exact KS.out _ B2.out
                          clear hK K
                          (try simp only [Act.put, List.setIfInBounds_toArray, List.set_cons_zero, List.set_cons_succ])
                          refine wpAnyH_ready (rs := [9]) (by kernel_rfl) (by simp) ?_
                          refine AllReadyH.cons (o := ⟨some 91, _, _, _, _, _⟩) rfl (fun K hK => ?_) (AllReadyH.nil)
                          go_simp
                          (go_at_call 9; (with_reducible refine (KC.out _ _ _ V2.out.1 V2.out.2 B2.out).mono ?_); rintro e w13 ⟨oe, ce, og, cg, rfl, h1, h2, hb⟩; have VT := Lib.hid (And.intro h1 h2); have B3 := Lib.hid (B2.out.trans (hb.mono B2.out.size)); have Z3 := Lib.hid (Z2.out.below hb Z2.out.lt); have Z3z := Lib.hid (Z2z.out); clear h1 h2 hb)
                          refine hK.out _ _ ?_ (fun hHeld => ?_)
                          · (try dsimp only)
                            exact KS.out _ B3.out
                          clear hK K
                          (try simp only [Act.put, List.setIfInBounds_toArray, List.set_cons_zero, List.set_cons_succ])
                          obtain ⟨p0, p1, pf0, pf1⟩ := blk2 Z3.out
                          refine wpAnyH_ready (rs := [11]) (by kernel_rfl) (by simp) ?_
                          refine AllReadyH.cons (o := ⟨none, _, _, _, _, _⟩) rfl (fun K hK => ?_) AllReadyH.nil
                          go_simp
                          refine hK.out _ _ ?_ (fun hHeld => ?_)
                          · (try dsimp only)
                            exact KS.out _ ((B3.out.setCell (p := ⟨_, 0, none⟩) (Z3z.out) _).setCell (p := ⟨_, 1, none⟩) (Z3z.out) _)
                          clear hK K
                          (try simp only [Act.put, List.setIfInBounds_toArray, List.set_cons_zero, List.set_cons_succ])
                          refine wpAnyH_done (by kernel_rfl) ?_ _
                          go_wp2
                          go_meet
                          exact ⟨_, _, _, _, _, _, rfl, rfl, (Z3.out.set_ 0 _).set_ 1 _, Lib.hid ⟨VT.out.1.setc2 Z3.out, VT.out.2.setc2 Z3.out⟩, Lib.hid ((B3.out.setCell (p := ⟨_, 0, none⟩) (Z3z.out) _).setCell (p := ⟨_, 1, none⟩) (Z3z.out) _)⟩
                      · go_simp
                        have BA := Lib.hid (B0.out.alloc B0.out.size (.cells #[.slice none 0 0, .slice none 0 0] 26))
                        have ZA := Lib.hid (Blk.new wd 26 #[.slice none 0 0, .slice none 0 0])
                        have ZAz := Lib.hid (B0.out.size)
                        refine hK.out _ _ ?_ (fun hHeld => ?_)
                        · (try dsimp only)
                          exact KS.out _ BA.out
                        clear hK K
                        (try simp only [Act.put, List.setIfInBounds_toArray, List.set_cons_zero, List.set_cons_succ])
                        refine wpAnyH_ready (rs := [3]) (by kernel_rfl) (by simp) ?_
                        refine AllReadyH.cons (o := ⟨some 85, _, _, _, _, _⟩) rfl (fun K hK => ?_) (AllReadyH.nil)
                        go_simp
                        (go_at_call 11; (with_reducible refine (KO.out _ BA.out).mono ?_); rintro e w11 ⟨os, cs, ot, ct, rfl, ho, hb⟩; have V1 := Lib.hid (ov_ld ho); have B1 := Lib.hid (BA.out.trans (hb.mono BA.out.size)); have Z1 := Lib.hid (ZA.out.below hb ZA.out.lt); have Z1z := Lib.hid (ZAz.out); clear ho hb)
                        refine hK.out _ _ ?_ (fun hHeld => ?_)
                        · (try dsimp only)
                          exact KS.out _ B1.out
                        clear hK K
                        (try simp only [Act.put, List.setIfInBounds_toArray, List.set_cons_zero, List.set_cons_succ])
                        refine wpAnyH_ready (rs := [5]) (by kernel_rfl) (by simp) ?_
                        refine AllReadyH.cons (o := ⟨some 87, _, _, _, _, _⟩) rfl (fun K hK => ?_) (AllReadyH.nil)
                        go_simp
                        (go_at_call 10; (with_reducible refine (KW.out _ _ _ V1.out.1 V1.out.2 B1.out).mono ?_); rintro e w12 ⟨ou, cu, ov, cv, rfl, ho, hb⟩; have V2 := Lib.hid (ov_ld ho); have B2 := Lib.hid (B1.out.trans (hb.mono B1.out.size)); have Z2 := Lib.hid (Z1.out.below hb Z1.out.lt); have Z2z := Lib.hid (Z1z.out); clear ho hb)
                        refine hK.out _ _ ?_ (fun hHeld => ?_)
                        · (try dsimp only)
                          exact KS.out _ B2.out
                        clear hK K
                        (try simp only [Act.put, List.setIfInBounds_toArray, List.set_cons_zero, List.set_cons_succ])
                        refine wpAnyH_ready (rs := [9]) (by kernel_rfl) (by simp) ?_
                        refine AllReadyH.cons (o := ⟨some 91, _, _, _, _, _⟩) rfl (fun K hK => ?_) (AllReadyH.nil)
                        go_simp
                        (go_at_call 9; (with_reducible refine (KC.out _ _ _ V2.out.1 V2.out.2 B2.out).mono ?_); rintro e w13 ⟨oe, ce, og, cg, rfl, h1, h2, hb⟩; have VT := Lib.hid (And.intro h1 h2); have B3 := Lib.hid (B2.out.trans (hb.mono B2.out.size)); have Z3 := Lib.hid (Z2.out.below hb Z2.out.lt); have Z3z := Lib.hid (Z2z.out); clear h1 h2 hb)
                        refine hK.out _ _ ?_ (fun hHeld => ?_)
                        · (try dsimp only)
                          exact KS.out _ B3.out
                        clear hK K
                        (try simp only [Act.put, List.setIfInBounds_toArray, List.set_cons_zero, List.set_cons_succ])
                        obtain ⟨p0, p1, pf0, pf1⟩ := blk2 Z3.out
                        refine wpAnyH_ready (rs := [11]) (by kernel_rfl) (by simp) ?_
                        refine AllReadyH.cons (o := ⟨none, _, _, _, _, _⟩) rfl (fun K hK => ?_) AllReadyH.nil
                        go_simp
                        refine hK.out _ _ ?_ (fun hHeld => ?_)
                        · (try dsimp only)
                          exact KS.out _ ((B3.out.setCell (p := ⟨_, 0, none⟩) (Z3z.out) _).setCell (p := ⟨_, 1, none⟩) (Z3z.out) _)
                        clear hK K
                        (try simp only [Act.put, List.setIfInBounds_toArray, List.set_cons_zero, List.set_cons_succ])
                        refine wpAnyH_done (by kernel_rfl) ?_ _
                        go_wp2
                        go_meet
                        exact ⟨_, _, _, _, _, _, rfl, rfl, (Z3.out.set_ 0 _).set_ 1 _, Lib.hid ⟨VT.out.1.setc2 Z3.out, VT.out.2.setc2 Z3.out⟩, Lib.hid ((B3.out.setCell (p := ⟨_, 0, none⟩) (Z3z.out) _).setCell (p := ⟨_, 1, none⟩) (Z3z.out) _)⟩
                    case rest => as_aux_lemma =>
                      obtain ⟨w9, P9, o9, c9, o10, c10, rfl, rfl, hK9, hV9, hB9⟩ := hcut
                      have F9 := Lib.hid (FRn.out _ _ F8.out hB9.out)
                      have K8 := Lib.hid (hK8.out.below hB9.out hK8.out.lt)
                      have K9 := Lib.hid hK9
                      have V9 := Lib.hid (And.intro (hV8.out.1.below hB9.out) (And.intro (hV8.out.2.below hB9.out) hV9.out))
                      have LT := Lib.hid (And.intro (lay_tnb HP.out.1 HS.out.1 HS.out.2.1 HS.out.2.2.2.1) (lay_tnb HP.out.2.1 HS.out.1 HS.out.2.2.1 HS.out.2.2.2.1))
                      clear KS KO KW KC hK8 hV8 hB8 hK9 hV9 hB9 L6 L8 F6 F8
                      go_wp2
                      go_loopw [10] (fun s10 wy => ∃ O : Int, 3 ≤ O ∧ O ≤ 7 ∧ s10 = .int .i64 O ∧ Hid (Below w9.heap.size w9 wy)) (fun s10 _ => (7 - intOf s10).toNat)
                      case atStart => exact ⟨3, by omega, by omega, rfl, Lib.hid (Below.refl _ _)⟩
                      case round =>
                        obtain ⟨O, o3, o7, rfl, HY⟩ := hrel
                        have FY := Lib.hid (FRn.out _ _ F9.out HY.out)
                        obtain ⟨x0, x1, x2, x3, x4, x5, x6⟩ := FRk.out _ FY.out
                        by_cases hO7 : O ≤ 6
                        · as_aux_lemma =>
                          have e1 := (TL.out O).1.1
                          have e2' := (TL.out O).2.2
                          have hn0 : (twv (v2 O fN) sa da sb db).length ≤ 65536 := by rw [twv_len, hs.out]; have := HS.out.2.2.2.1; omega
                          have KT1 : Hid (∀ W, Below w1.heap.size w1 W → Calls Try.prog 12 #[.int .i64 O, .agg #[.slice oA sa.length cA, .slice oX da.length cX], .agg #[.slice oB sb.length cB, .slice oY db.length cY], .int .i64 fN] W (Tx W (twe (e2 O fN) sa da sb db) (unl (twe (e2 O fN) sa da sb db) s) (unl (twe (e2 O fN) sa da sb db) (twv (v2 O fN) sa da sb db)))) := Lib.hid (fun W hW => (two_any O fN _ _ _ _ sa da sb db W (HL.out.1.below hW) (HL.out.2.1.below hW) (HL.out.2.2.1.below hW) (HL.out.2.2.2.below hW) HP.out.1 HP.out.2.1 HP.out.2.2.2.2 o3 hO7).mono (fun _ _ hh => by have := tx_of hh; rwa [hs.out] at this))
                          have KT2 : Hid (∀ W, Below w9.heap.size w9 W → Calls Try.prog 12 #[.int .i64 O, .agg #[.slice o1 s.length c1, .slice o2 N c2], .agg #[.slice o9 s.length c9, .slice o10 N c10], .int .i64 fN] W (Tx W (twe (e2 O fN) sa da sb db) (unl (twe (e2 O fN) sa da sb db) s) (unl (twe (e2 O fN) sa da sb db) (twv (v2 O fN) sa da sb db)))) := Lib.hid (fun W hW => (two_any O fN _ _ _ _ s (lay sa da s N) s (lay sb db s N) W (V9.out.1.below hW) (V9.out.2.1.below hW) (V9.out.2.2.1.below hW) (V9.out.2.2.2.below hW) LT.out.1 LT.out.2 HP.out.2.2.2.2 o3 hO7).mono (fun _ _ hh => by have := tx_of hh; rwa [e1, e2', HSS.out.2] at this))
                          have KT3 : Hid (O = 3 ∨ O = 5 → ∀ W, Below w1.heap.size w1 W → Calls Try.prog 12 #[.int .i64 O, .agg #[.slice oB sb.length cB, .slice oY db.length cY], .agg #[.slice oA sa.length cA, .slice oX da.length cX], .int .i64 fN] W (Tx W (twe (e2 O fN) sa da sb db) (unl (twe (e2 O fN) sa da sb db) s) (unl (twe (e2 O fN) sa da sb db) (twv (v2 O fN) sa da sb db)))) := Lib.hid (fun hO W hW => (two_any O fN _ _ _ _ sb db sa da W (HL.out.2.2.1.below hW) (HL.out.2.2.2.below hW) (HL.out.1.below hW) (HL.out.2.1.below hW) HP.out.2.1 HP.out.1 HP.out.2.2.2.2 o3 hO7).mono (fun _ _ hh => by have := tx_of hh; rwa [(tw_sym (e2_sym hO fN) sa da sb db).1, (tw_sym (v2_sym hO fN) sa da sb db).2, spv_sym sb sa, hs.out] at this))
                          have HLN := Lib.hid (And.intro (Nat.le_trans (unl_len_le (twe (e2 O fN) sa da sb db) l4) (by decide : 4 ≤ 17592186044416)) (Nat.le_trans (unl_len_le (twe (e2 O fN) sa da sb db) hn0) (by decide : 65536 ≤ 17592186044416)))
                          clear e1 e2' hn0 TL LT V9
                          generalize twe (e2 O fN) sa da sb db = E at *
                          generalize unl E (twv (v2 O fN) sa da sb db) = D at *
                          generalize unl E s = S at *
                          have O1 : IntKind.i64.wrap (O + 1) = O + 1 := IntWalk.i64_in _ (by omega)
                          go_upto_region 20 with (first | (go_at_call 12; (with_reducible refine (KT1.out _ (FRb.out _ FY.out)).mono ?_); rintro e w21 ⟨o3, c3, o4, c4, rfl, h1, h2, hb⟩; have V21 := Lib.hid (And.intro h1 h2); have Y21 := Lib.hid (HY.out.trans (hb.mono HY.out.size)); have A0 := fun (o : Obj) => ((K8.out.below Y21.out K8.out.lt).alloc o).cell 0; have A1 := fun (o : Obj) => ((K8.out.below Y21.out K8.out.lt).alloc o).cell 1; have A2 := fun (o : Obj) => ((K9.out.below Y21.out K9.out.lt).alloc o).cell 0; have A3 := fun (o : Obj) => ((K9.out.below Y21.out K9.out.lt).alloc o).cell 1; clear h1 h2 hb) | (go_at_call 12; (with_reducible refine (KT2.out _ (Y21.out.alloc Y21.out.size _)).mono ?_); rintro e w22 ⟨o5, c5, o7, c7, rfl, h1, h2, hb⟩; have V22 := Lib.hid (And.intro h1 h2); have V21b := Lib.hid (And.intro ((V21.out.1.below (al_below _)).below hb) ((V21.out.2.below (al_below _)).below hb)); have Y22 := Lib.hid ((Y21.out.alloc Y21.out.size _).trans (hb.mono (Y21.out.alloc Y21.out.size _).size)); have QQ := Lib.hid ((Blk.new w21 26 #[.slice o3 S.length c3, .slice o4 D.length c4]).below hb (Blk.new w21 _ _).lt); have C0 := fun (o : Obj) => (QQ.out.alloc o).cell 0; have C1 := fun (o : Obj) => (QQ.out.alloc o).cell 1; clear h1 h2 hb) | (go_at_call 14; (with_reducible refine (eqtensor_same _ _ _ _ S D _ (V21b.out.1.below (al_below _)) (V21b.out.2.below (al_below _)) (V22.out.1.below (al_below _)) (V22.out.2.below (al_below _)) HLN.out.1 HLN.out.2).mono ?_); rintro e w23 ⟨rfl, hb⟩; have Y23 := Lib.hid ((Y22.out.alloc Y22.out.size _).trans (hb.mono (Y22.out.alloc Y22.out.size _).size)); have V23 := Lib.hid (And.intro ((V21b.out.1.below (al_below _)).below hb) ((V21b.out.2.below (al_below _)).below hb)); have Q23 := Lib.hid ((QQ.out.alloc _).below hb (QQ.out.alloc _).lt); clear hb) | (go_at_call 13; (with_reducible refine (num8_any _ _).mono ?_); rintro e w' ⟨rfl, rfl⟩))
                          have FZ := Lib.hid (FRn.out _ _ F9.out Y23.out)
                          clear x0 x1 x2 x3 x4 x5 x6 A0 A1 A2 A3 C0 C1
                          obtain ⟨x0, x1, x2, x3, x4, x5, x6⟩ := FRk.out _ FZ.out
                          by_cases h3 : O = 3
                          · have hO := Lib.hid (show O = 3 ∨ O = 5 from Or.inl h3)
                            have b3 : (O == 3) = true := beq_iff_eq.2 h3
                            clear h3
                            go_wp2_with (first | (go_at_call 12; (with_reducible refine (KT3.out hO.out _ (FRb.out _ FZ.out)).mono ?_); rintro e w24 ⟨o10, c10, o11, c11, rfl, h1, h2, hb⟩; have V24 := Lib.hid (And.intro h1 h2); have Y24 := Lib.hid (Y23.out.trans (hb.mono Y23.out.size)); have V25 := Lib.hid (And.intro (V23.out.1.below hb) (V23.out.2.below hb)); have Q24 := Lib.hid (Q23.out.below hb Q23.out.lt); have D0 := fun (o : Obj) => (Q24.out.alloc o).cell 0; have D1 := fun (o : Obj) => (Q24.out.alloc o).cell 1; clear h1 h2 hb) | (go_at_call 14; (with_reducible refine (eqtensor_same _ _ _ _ S D _ (V24.out.1.below (al_below _)) (V24.out.2.below (al_below _)) (V25.out.1.below (al_below _)) (V25.out.2.below (al_below _)) HLN.out.1 HLN.out.2).mono ?_); rintro e w25 ⟨rfl, hb⟩; have Y25 := Lib.hid ((Y24.out.alloc Y24.out.size _).trans (hb.mono (Y24.out.alloc Y24.out.size _).size)); clear hb) | (go_at_call 13; (with_reducible refine (num8_any _ _).mono ?_); rintro e w' ⟨rfl, rfl⟩))
                            exact ⟨⟨O + 1, by omega, by omega, by go_num, Y25⟩, by simp [intOf]; omega⟩
                          · have b3 : (O == 3) = false := beq_eq_false_iff_ne.2 h3
                            by_cases h5 : O = 5
                            · have hO := Lib.hid (show O = 3 ∨ O = 5 from Or.inr h5)
                              have b5 : (O == 5) = true := beq_iff_eq.2 h5
                              clear h3 h5
                              go_wp2_with (first | (go_at_call 12; (with_reducible refine (KT3.out hO.out _ (FRb.out _ FZ.out)).mono ?_); rintro e w24 ⟨o10, c10, o11, c11, rfl, h1, h2, hb⟩; have V24 := Lib.hid (And.intro h1 h2); have Y24 := Lib.hid (Y23.out.trans (hb.mono Y23.out.size)); have V25 := Lib.hid (And.intro (V23.out.1.below hb) (V23.out.2.below hb)); have Q24 := Lib.hid (Q23.out.below hb Q23.out.lt); have D0 := fun (o : Obj) => (Q24.out.alloc o).cell 0; have D1 := fun (o : Obj) => (Q24.out.alloc o).cell 1; clear h1 h2 hb) | (go_at_call 14; (with_reducible refine (eqtensor_same _ _ _ _ S D _ (V24.out.1.below (al_below _)) (V24.out.2.below (al_below _)) (V25.out.1.below (al_below _)) (V25.out.2.below (al_below _)) HLN.out.1 HLN.out.2).mono ?_); rintro e w25 ⟨rfl, hb⟩; have Y25 := Lib.hid ((Y24.out.alloc Y24.out.size _).trans (hb.mono (Y24.out.alloc Y24.out.size _).size)); clear hb) | (go_at_call 13; (with_reducible refine (num8_any _ _).mono ?_); rintro e w' ⟨rfl, rfl⟩))
                              exact ⟨⟨O + 1, by omega, by omega, by go_num, Y25⟩, by simp [intOf]; omega⟩
                            · have b5 : (O == 5) = false := beq_eq_false_iff_ne.2 h5
                              clear h3 h5
                              go_wp2
                              exact ⟨⟨O + 1, by omega, by omega, by go_num, Y23⟩, by simp [intOf]; omega⟩
                        · as_aux_lemma =>
                          obtain rfl : O = 7 := by omega
                          obtain ⟨z0, z1, z2⟩ := tw_self (sa := sa) (da := da) fN HP.out.2.2.1
                          have KT4 : Hid (∀ W, Below w1.heap.size w1 W → Calls Try.prog 12 #[.int .i64 4, .agg #[.slice oA sa.length cA, .slice oX da.length cX], .agg #[.slice oA sa.length cA, .slice oX da.length cX], .int .i64 fN] W (Tx W 0 sa (twv (v2 4 fN) sa da sa da))) := Lib.hid (fun W hW => (two_any 4 fN _ _ _ _ sa da sa da W (HL.out.1.below hW) (HL.out.2.1.below hW) (HL.out.1.below hW) (HL.out.2.1.below hW) HP.out.1 HP.out.1 HP.out.2.2.2.2 (by decide) (by decide)).mono (fun _ _ hh => by have := tx_of hh; rwa [z0, z1] at this))
                          have HZ := Lib.hid z2
                          have S := sa
                          have hDl : (twv (v2 4 fN) sa da sa da).length ≤ 65536 := by rw [twv_len, z1]; have := may_prod HP.out.2.2.1; omega
                          clear z0 z1 z2 hO7 TL LT V9
                          generalize twv (v2 4 fN) sa da sa da = D at *
                          go_wp2_with (first | (go_at_call 12; (with_reducible refine (KT4.out _ (FRb.out _ FY.out)).mono ?_); rintro e w31 ⟨o13, c13, o14, c14, rfl, h1, h2, hb⟩; have V31 := Lib.hid (And.intro h1 h2); have Y31 := Lib.hid (HY.out.trans (hb.mono HY.out.size)); clear h1 h2 hb) | (go_at_call 13; (with_reducible refine (num8_any _ _).mono ?_); rintro e w' ⟨rfl, rfl⟩))
                          go_loopw [19] (fun s19 wz => ∃ m : Nat, m ≤ D.length ∧ s19 = .int .i64 m ∧ w31.alloc (.cells #[.slice o13 sa.length c13, .slice o14 D.length c14] 26) = wz) (fun s19 _ => D.length - (intOf s19).toNat)
                          case atStart => exact ⟨0, Nat.zero_le _, rfl, rfl⟩
                          case round =>
                            obtain ⟨m, hm, rfl, rfl⟩ := hrel
                            have d0 := (Blk.new w31 26 #[.slice o13 sa.length c13, .slice o14 D.length c14]).cell 0
                            have d1 := (Blk.new w31 26 #[.slice o13 sa.length c13, .slice o14 D.length c14]).cell 1
                            by_cases hlt : m < D.length
                            · obtain ⟨o, c0, e0, _, hq⟩ := V31.out.2
                              simp only [Value.slice.injEq] at e0
                              obtain ⟨rfl, _, rfl⟩ := e0
                              obtain ⟨b, f2, rfl, hb3, hc3⟩ := hq m hlt
                              rw [HZ.out m] at hc3
                              have hc4 : (w31.alloc (.cells #[.slice o13 sa.length c13, .slice (some ⟨b, f2, none⟩) D.length c14] 26)).cell? ⟨b, f2 + m, none⟩ = some (.int .i64 0) := ((al_below _).cell (p := ⟨b, f2 + m, none⟩) hb3).trans hc3
                              clear hq hc3
                              go_wp2
                              exact ⟨⟨m + 1, by omega, by go_num, by first | exact trivial | rfl⟩, by simp [intOf]; omega⟩
                            · obtain rfl : m = D.length := by omega
                              clear hlt
                              go_wp2
                              exact ⟨⟨k + 1, by omega, by go_num, hB.trans (((FRb.out _ (FRn.out _ _ F9.out Y31.out)).alloc (FRb.out _ (FRn.out _ _ F9.out Y31.out)).size _).mono hBs)⟩, by simp [intOf]; omega⟩
              · have b9 : (spe sa sb != 0) = true := bne_iff_ne.2 hsp
                generalize spe sa sb = er at *
                clear hsp ma mb
                go_wp2_with fail
                exact ⟨⟨k + 1, by omega, by go_num, hB.trans ((FRb.out _ F6.out).mono hBs)⟩, by simp [intOf]; omega⟩
    · as_aux_lemma =>
      by_cases g1 : k < len
      · have g2 : 4 ≤ k := by omega
        clear g
        go_wp2_with (go_at_call 15; (with_reducible refine (wakes8_any _).mono ?_); rintro e w9 ⟨rfl, hb9⟩)
        go_ret
        exact ⟨rfl, hB.trans (hb9.mono hBs)⟩
      · have g2 : len ≤ k := by omega
        clear g g1
        go_wp2_with (go_at_call 15; (with_reducible refine (wakes8_any _).mono ?_); rintro e w9 ⟨rfl, hb9⟩)
        go_ret
        exact ⟨rfl, hB.trans (hb9.mono hBs)⟩
end Go.Proofs.Ytpfcjajmfadcbaa
