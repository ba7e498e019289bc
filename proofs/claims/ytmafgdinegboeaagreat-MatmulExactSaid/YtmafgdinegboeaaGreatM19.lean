/-
  
  
  
  
-/
import Derived.Test.YtmafgdinegboeaaGreatM01
import Derived.Test.YtmafgdinegboeaaGreatM08
import Derived.Test.YtmafgdinegboeaaGreatM11
import Derived.Test.YtmafgdinegboeaaGreatM18
namespace Go.Proofs.YtmafgdinegboeaaGreat
open Go Go.RowKit Go.Shelf

theorem Ld.setv3 {W : World} {o : Option Addr} {n c : Nat} {ls : List Int} {b : Nat} {x y z : Value} (h : Ld W (.slice o n c) ls) (hn : ∀ a, o = some a → a.block ≠ b) : Ld (((W.setCell ⟨b, 0, none⟩ x).setCell ⟨b, 1, none⟩ y).setCell ⟨b, 2, none⟩ z) (.slice o n c) ls := by
  obtain ⟨o2, c2, e, h1, h2⟩ := h
  simp only [Value.slice.injEq] at e
  obtain ⟨rfl, rfl, rfl⟩ := e
  refine ⟨o, c, rfl, h1, fun k hk => ?_⟩
  obtain ⟨g, f, e1, h3, h4⟩ := h2 k hk
  have hne : ¬ g = b := fun e => hn _ e1 e
  refine ⟨g, f, e1, by simpa using h3, ?_⟩
  rw [← h4]
  simp only [World.cell?]
  rw [Below.heap_setCell _ _ _ _ hne, Below.heap_setCell _ _ _ _ hne, Below.heap_setCell _ _ _ _ hne]
theorem ld_lt {W : World} {a : Addr} {n c : Nat} {ls : List Int} (h : Ld W (.slice (some a) n c) ls) (hl : 0 < ls.length) : a.block < W.heap.size := by
  obtain ⟨o2, c2, e, h1, h2⟩ := h
  simp only [Value.slice.injEq] at e
  obtain ⟨rfl, rfl, rfl⟩ := e
  obtain ⟨g, f, e1, h3, _⟩ := h2 0 hl
  simp only [Option.some.injEq] at e1
  rw [e1]; exact h3
theorem vwb_stl {a : List Int} (ma : may a = true) : vwb a (stl a) 0 65536 = true := by
  have hp := may_prod ma
  refine vwb_iff.2 ⟨ma, stl_len _, fun x hx => ?_, by omega, by omega, by omega, ?_⟩
  · obtain ⟨j, hj, rfl⟩ := List.mem_iff_getElem.1 hx
    have e : (stl a).getD j 0 = (stl a)[j] := by simp [List.getD, List.getElem?_eq_getElem hj]
    rw [← e, stl_getD a j (by rw [stl_len] at hj; exact hj)]
    have := may_drop ma (j + 1)
    omega
  · rw [far_stl]; omega
theorem ltc_axs {n : Nat} (h2 : 2 ≤ n) (h4 : n ≤ 4) : axs (ltc n) n = true := by
  obtain rfl | rfl | rfl : n = 2 ∨ n = 3 ∨ n = 4 := by omega
  · decide
  · decide
  · decide
theorem stT_sts {a p : List Int} {A B : Nat} (ma : may a = true) (ha : a = p ++ [(A : Int), (B : Int)]) (hp : p.length ≤ 2) : sts (stT p A B) := by
  have h1 := (turn_lists p A B hp).2
  rw [← h1, ← ha]
  have hs := (vwb_iff.1 (vwb_stl ma)).2.2.1
  intro x hx
  unfold trl at hx
  obtain ⟨j, _, rfl⟩ := List.mem_map.1 hx
  by_cases hj : j.toNat < (stl a).length
  · exact hs _ (getD_mem hj)
  · rw [getD_past (by omega)]; omega
theorem turn_vwb {a p da : List Int} {A B K : Nat} (ta : tnb a da = true) (ha : a = p ++ [(A : Int), (B : Int)]) (hK : prod p = (K : Int)) (hp : pos p) (h1 : 1 ≤ A ∧ 1 ≤ B ∧ 1 ≤ K) (hl : p.length ≤ 2) (h6 : K * (A * B) ≤ 65536) (hN : prod a = ((K * (A * B) : Nat) : Int)) : vwb (p ++ [(B : Int), (A : Int)]) (stT p A B) 0 da.length = true := by
  obtain ⟨k1, k2, k3⟩ := tnb_parts ta
  have hn : da.length = K * (A * B) := by omega
  have hn1 : 1 ≤ K * (A * B) := Nat.mul_pos (by omega) (Nat.mul_pos (by omega) (by omega))
  refine vwb_iff.2 ⟨may_swap (by rw [← ha]; exact k1), by rw [stT_len]; simp, stT_sts k1 ha hl, by omega, by omega, by omega, ?_⟩
  rw [far_turn h1.1 h1.2.1 p K hp hK]; omega
def VwN (W : World) (sh st : List Int) (e : Ending) (w' : World) : Prop := ∃ os ns cs ot nt ct, e = .returned (.tuple #[.agg #[.slice os ns cs, .slice ot nt ct, .int .i64 0], .int .i64 0]) ∧ (Ld w' (.slice os ns cs) sh ∧ ∀ a, os = some a → W.heap.size ≤ a.block) ∧ (Ld w' (.slice ot nt ct) st ∧ ∀ a, ot = some a → W.heap.size ≤ a.block) ∧ Below W.heap.size W w'
theorem vwN_of {W : World} {sh st : List Int} {e : Ending} {w' : World} (h : SomeV W 0 sh st 0 e w') : VwN W sh st e w' := by
  obtain ⟨os, cs, ot, ct, rfl, ho, hb⟩ := h
  have lo : ∀ {v : Value} {n : Nat} {xs : List Value} {o : Option Addr} {m c : Nat}, w'.ownsRow W.heap.size 3 1 v n xs → v = .slice o m c → ∀ a, o = some a → W.heap.size ≤ a.block := by
    intro v n xs o m c hv e a ea
    subst e ea
    exact (hv.lt a.block rfl).1
  exact ⟨os, _, cs, ot, _, ct, rfl, ⟨(ov_ld ho).1, lo ho.1 rfl⟩, ⟨(ov_ld ho).2, lo ho.2.1 rfl⟩, hb⟩
theorem someT_set {w W : World} {sh ds : List Int} {os od : Option Addr} {cs cd : Nat} (h1 : W.ownsRow w.heap.size 3 1 (.slice os sh.length cs) sh.length (ints sh)) (h2 : W.ownsRow w.heap.size 2 1 (.slice od ds.length cd) ds.length (ints ds)) (hb : Blk W (w.heap.size + 1) 26 #[.slice none 0 0, .slice none 0 0]) (x y : Value) :
    (((W.setCell ⟨w.heap.size + 1, 0, none⟩ x).setCell ⟨w.heap.size + 1, 1, none⟩ y).ownsRow w.heap.size 3 1 (.slice os sh.length cs) sh.length (ints sh)) ∧ (((W.setCell ⟨w.heap.size + 1, 0, none⟩ x).setCell ⟨w.heap.size + 1, 1, none⟩ y).ownsRow w.heap.size 2 1 (.slice od ds.length cd) ds.length (ints ds)) :=
  ⟨own_tset (own_tset h1 hb (by decide)) (hb.set_ 0 _) (by decide), own_tset (own_tset h2 hb (by decide)) (hb.set_ 0 _) (by decide)⟩
set_option maxRecDepth 100000 in
set_option maxHeartbeats 6000000 in
theorem turn_ok (vs vd : Value) (a da p : List Int) (A B K : Nat) (w : World) (hs : Ld w vs a) (hd : Ld w vd da) (ta : tnb a da = true) (ha : a = p ++ [(A : Int), (B : Int)]) (hK : prod p = (K : Int)) (hp : pos p) (h1 : 1 ≤ A ∧ 1 ≤ B ∧ 1 ≤ K) (hN : prod a = ((K * (A * B) : Nat) : Int)) (h6 : K * (A * B) ≤ 65536) (hl : p.length ≤ 2) :
    Calls Tryz.prog 41 #[.agg #[vs, vd]] w (SomeT w 0 (p ++ [(B : Int), (A : Int)]) (tnn K A B da)) := by
  have ka := tnb_parts ta
  have hal : a.length = p.length + 2 := by rw [ha]; simp
  have hn : da.length = K * (A * B) := by omega
  have CA := Lib.hid (fun (W : World) (hW : Below w.heap.size w W) => echeck_any vs vd a da W (hs.below hW) (hd.below hW) (by omega) (by omega))
  rw [ta, if_pos rfl] at CA
  have KOF := Lib.hid (fun (W : World) (hW : Below w.heap.size w W) => by
    have q := of_any vs a W (hs.below hW) (by omega)
    rw [show ofe a = 0 from if_pos ka.1] at q
    exact q.mono (fun _ _ hh => vwN_of hh))
  have KL := Lib.hid (fun (W : World) => (ltc_any a.length W (by omega) (by omega)).mono (fun e w' hh => (⟨W.heap.size, hh.1, (by have q := Ld.of_blk (c := a.length) hh.2.1 (by rw [ltc_len]; exact Nat.le_refl _); rwa [ltc_len] at q), hh.2.2⟩ : ∃ g, e = .returned (.slice (some ⟨g, 0, none⟩) a.length a.length) ∧ Ld w' (.slice (some ⟨g, 0, none⟩) a.length a.length) (ltc a.length) ∧ Below W.heap.size W w')))
  have KTR := Lib.hid (fun (W : World) (va vb v : Value) (q1 : Ld W va a) (q2 : Ld W vb (stl a)) (q3 : Ld W v (ltc a.length)) => by
    have q := transpose_any va vb v a (stl a) (ltc a.length) 0 W q1 q2 q3 (by omega) (by rw [stl_len]; omega) (by rw [ltc_len]; omega)
    rw [show tre a (stl a) 0 (ltc a.length) = 0 by unfold tre; rw [vwb_stl ka.1, ltc_axs (by omega) (by omega)]; rfl] at q
    have e1 : trl a (ltc a.length) = p ++ [(B : Int), (A : Int)] := by rw [hal, ha]; exact (turn_lists p A B hl).1
    have e2 : trl (stl a) (ltc a.length) = stT p A B := by rw [hal, ha]; exact (turn_lists p A B hl).2
    rw [e1, e2] at q
    exact q.mono (fun _ _ hh => vwN_of hh))
  have KCO := Lib.hid (fun (W : World) (va vb : Value) (hW : Below w.heap.size w W) (q1 : Ld W va (p ++ [(B : Int), (A : Int)])) (q2 : Ld W vb (stT p A B)) => by
    have q := copy_ok va vb vd _ _ da 0 (K * (B * A)) W q1 q2 (hd.below hW) (turn_vwb ta ha hK hp h1 hl h6 hN) ka.2.2 (by rw [prod_two p B A K hK])
    rwa [cps_tnn hp hK] at q)
  obtain ⟨S1, hS1⟩ : ∃ S, S = p ++ [(B : Int), (A : Int)] := ⟨_, rfl⟩
  obtain ⟨D1, hD1⟩ : ∃ D, D = tnn K A B da := ⟨_, rfl⟩
  have HSL : Hid (0 < S1.length) := Lib.hid (by rw [hS1]; simp)
  rw [← hS1] at KTR KCO
  rw [← hD1] at KCO
  rw [← hS1, ← hD1]
  obtain ⟨o1, c1, rfl, _, _⟩ := id hs
  obtain ⟨o2, c2, rfl, _, _⟩ := id hd
  have HLS := Lib.hid (And.intro hs hd)
  have lo2 : ¬ ((a.length : Int) < 2) := by omega
  obtain ⟨w2, hw2⟩ : ∃ w2, w2 = (w.alloc (.cells #[.slice o1 a.length c1, .slice o2 da.length c2] 26)).alloc (.cells #[.slice none 0 0, .slice none 0 0] 26) := ⟨_, rfl⟩
  have B2 : Hid (Below w.heap.size w w2) := Lib.hid (by rw [hw2]; exact ((Below.refl _ _).alloc (Nat.le_refl _) _).alloc (by simp) _)
  have S2 : Hid (w2.heap.size = w.heap.size + 2) := Lib.hid (by rw [hw2]; simp)
  have Q1 : Hid (Blk w2 (w.heap.size + 1) 26 #[.slice none 0 0, .slice none 0 0]) := Lib.hid (by rw [hw2]; exact blk_new1 w _ _ _)
  have Q0 : Hid (Blk w2 w.heap.size 26 #[.slice o1 a.length c1, .slice o2 da.length c2]) := Lib.hid (by rw [hw2]; exact (Blk.new w _ _).alloc _)
  have CA1 := Lib.hid (CA.out w2 B2.out)
  have HW := Lib.hid hw2
  rw [hw2] at CA1
  clear hw2 hs hd ta hN h6 h1 hp hn hl ha hal ka hS1 hD1
  -- what lies on: the two boxes, and all below
  obtain ⟨F0, hF0⟩ : ∃ F0 : World → Prop, F0 = fun W => Below w.heap.size w W ∧ Blk W w.heap.size 26 #[.slice o1 a.length c1, .slice o2 da.length c2] ∧ Blk W (w.heap.size + 1) 26 #[.slice none 0 0, .slice none 0 0] := ⟨_, rfl⟩
  have F0n : Hid (∀ W W', F0 W → Below W.heap.size W W' → F0 W') := Lib.hid (fun W W' h hb => by rw [hF0] at h ⊢; exact ⟨h.1.trans (hb.mono h.1.size), h.2.1.below hb h.2.1.lt, h.2.2.below hb h.2.2.lt⟩)
  have F0b : Hid (∀ W, F0 W → Below w.heap.size w W) := Lib.hid (fun W h => by rw [hF0] at h; exact h.1)
  have F0k : Hid (∀ W, F0 W → (W.cell? ⟨w.heap.size, 0, none⟩ = some (.slice o1 a.length c1) ∧ W.cell? ⟨w.heap.size, 1, none⟩ = some (.slice o2 da.length c2)) ∧ Blk W (w.heap.size + 1) 26 #[.slice none 0 0, .slice none 0 0]) := Lib.hid (fun W h => by rw [hF0] at h; exact ⟨⟨(blk2 h.2.1).1, (blk2 h.2.1).2.1⟩, h.2.2⟩)
  have G0 : Hid (F0 w2) := Lib.hid (by rw [hF0]; exact ⟨B2.out, Q0.out, Q1.out⟩)
  have F0z : Hid (∀ W Z x y z, F0 W → w.heap.size + 1 < Z → F0 (((W.setCell ⟨Z, 0, none⟩ x).setCell ⟨Z, 1, none⟩ y).setCell ⟨Z, 2, none⟩ z)) := Lib.hid (fun W Z x y z h hz => by
    rw [hF0] at h ⊢
    exact ⟨((h.1.setCell (p := ⟨Z, 0, none⟩) (by show w.heap.size ≤ Z; omega) x).setCell (p := ⟨Z, 1, none⟩) (by show w.heap.size ≤ Z; omega) y).setCell (p := ⟨Z, 2, none⟩) (by show w.heap.size ≤ Z; omega) z,
      ((h.2.1.far (p := ⟨Z, 0, none⟩) (by show w.heap.size ≠ Z; omega) x).far (p := ⟨Z, 1, none⟩) (by show w.heap.size ≠ Z; omega) y).far (p := ⟨Z, 2, none⟩) (by show w.heap.size ≠ Z; omega) z,
      ((h.2.2.far (p := ⟨Z, 0, none⟩) (by show w.heap.size + 1 ≠ Z; omega) x).far (p := ⟨Z, 1, none⟩) (by show w.heap.size + 1 ≠ Z; omega) y).far (p := ⟨Z, 2, none⟩) (by show w.heap.size + 1 ≠ Z; omega) z⟩)
  have F0l : Hid (∀ W, F0 W → w.heap.size + 1 < W.heap.size) := Lib.hid (fun W h => by rw [hF0] at h; exact h.2.2.lt)
  clear hF0 Q0 Q1
  go_enter Tryz.func41, Tryz.ntmps41
  go_upto_region 7 with (first
    | (go_at_call 83; (with_reducible refine CA1.out.mono ?_); rintro e wa ⟨rfl, hb⟩; rw [← HW.out] at hb; have Fa := Lib.hid (F0n.out _ _ G0.out hb); obtain ⟨⟨x0, x1⟩, _⟩ := F0k.out _ Fa.out; clear hb)
    | (go_at_call 104; (with_reducible refine (KOF.out _ (F0b.out _ Fa.out)).mono ?_); rintro e wb ⟨oa, na, ca, ob, nb, cb, rfl, h1, h2, hb⟩; have Fb := Lib.hid (F0n.out _ _ Fa.out hb); have V1 := Lib.hid (And.intro h1.1 h2.1); clear h1 h2 hb))
  obtain ⟨v6, hv⟩ : ∃ v, v = wb.alloc (.cells #[.slice oa na ca, .slice ob nb cb, .int .i64 0] 168) := ⟨_, rfl⟩
  obtain ⟨T5, hT⟩ : ∃ T, T = wb.heap.size := ⟨_, rfl⟩
  rw [← hv, ← hT]
  have L5 : Hid (w.heap.size + 1 < T5) := Lib.hid (by rw [hT]; exact F0l.out _ Fb.out)
  obtain ⟨FR, hFR⟩ : ∃ FR : World → Prop, FR = fun W => F0 W ∧ Blk W T5 168 #[.slice oa na ca, .slice ob nb cb, .int .i64 0] ∧ Ld W (.slice oa na ca) a ∧ Ld W (.slice ob nb cb) (stl a) := ⟨_, rfl⟩
  have F6 : Hid (FR v6) := Lib.hid (by rw [hFR, hv, hT]; exact ⟨F0n.out _ _ Fb.out (al_below _), Blk.new _ _ _, V1.out.1.below (al_below _), V1.out.2.below (al_below _)⟩)
  have FRn : Hid (∀ W W', FR W → Below W.heap.size W W' → FR W') := Lib.hid (fun W W' h hb => by rw [hFR] at h ⊢; exact ⟨F0n.out _ _ h.1 hb, h.2.1.below hb h.2.1.lt, h.2.2.1.below hb, h.2.2.2.below hb⟩)
  have FRf : Hid (∀ W, FR W → F0 W) := Lib.hid (fun W h => by rw [hFR] at h; exact h.1)
  have FRl : Hid (∀ W, FR W → T5 < W.heap.size) := Lib.hid (fun W h => by rw [hFR] at h; exact h.2.1.lt)
  have FRv : Hid (∀ W, FR W → Ld W (.slice oa na ca) a ∧ Ld W (.slice ob nb cb) (stl a)) := Lib.hid (fun W h => by rw [hFR] at h; exact h.2.2)
  have KS : Hid (∀ W, FR W → (W.cell? ⟨w.heap.size, 0, none⟩ = some (.slice o1 a.length c1) ∧ W.cell? ⟨w.heap.size, 1, none⟩ = some (.slice o2 da.length c2)) ∧ W.cell? ⟨T5, 0, none⟩ = some (.slice oa na ca) ∧ W.cell? ⟨T5, 1, none⟩ = some (.slice ob nb cb) ∧ W.cell? ⟨T5, 2, none⟩ = some (.int .i64 0)) := Lib.hid (fun W h => by
    rw [hFR] at h
    obtain ⟨p0, p1, p2, _⟩ := blk3 h.2.1
    exact ⟨(F0k.out _ h.1).1, p0, p1, p2⟩)
  have KSz : Hid (∀ W Z x y z, FR W → T5 < Z → ((((W.setCell ⟨Z, 0, none⟩ x).setCell ⟨Z, 1, none⟩ y).setCell ⟨Z, 2, none⟩ z).cell? ⟨w.heap.size, 0, none⟩ = some (.slice o1 a.length c1) ∧ (((W.setCell ⟨Z, 0, none⟩ x).setCell ⟨Z, 1, none⟩ y).setCell ⟨Z, 2, none⟩ z).cell? ⟨w.heap.size, 1, none⟩ = some (.slice o2 da.length c2)) ∧ (((W.setCell ⟨Z, 0, none⟩ x).setCell ⟨Z, 1, none⟩ y).setCell ⟨Z, 2, none⟩ z).cell? ⟨T5, 0, none⟩ = some (.slice oa na ca) ∧ (((W.setCell ⟨Z, 0, none⟩ x).setCell ⟨Z, 1, none⟩ y).setCell ⟨Z, 2, none⟩ z).cell? ⟨T5, 1, none⟩ = some (.slice ob nb cb) ∧ (((W.setCell ⟨Z, 0, none⟩ x).setCell ⟨Z, 1, none⟩ y).setCell ⟨Z, 2, none⟩ z).cell? ⟨T5, 2, none⟩ = some (.int .i64 0)) := Lib.hid (fun W Z x y z h hz => by
    refine ⟨(F0k.out _ (F0z.out W Z x y z (FRf.out _ h) (Nat.lt_trans L5.out hz))).1, ?_⟩
    rw [hFR] at h
    obtain ⟨p0, p1, p2, _⟩ := blk3 (((h.2.1.far (p := ⟨Z, 0, none⟩) (by show T5 ≠ Z; omega) x).far (p := ⟨Z, 1, none⟩) (by show T5 ≠ Z; omega) y).far (p := ⟨Z, 2, none⟩) (by show T5 ≠ Z; omega) z)
    exact ⟨p0, p1, p2⟩)
  have KW := Lib.hid (fun (W : World) (v : Value) (h : FR W) (hv : Ld W v (ltc a.length)) => KTR.out W _ _ v (FRv.out W h).1 (FRv.out W h).2 hv)
  clear hv hT hFR V1 x0 x1 Fa Fb G0 CA1 CA KOF KTR HW
  go_cut [7] (fun s7 wx => ∃ (P : Nat) (o1 : Option Addr) (n1 c1 : Nat) (o2 : Option Addr) (n2 c2 : Nat), s7 = .pointer (some ⟨P, 0, none⟩) ∧ Blk wx P 168 #[.slice o1 n1 c1, .slice o2 n2 c2, .int .i64 0] ∧ Hid (Ld wx (.slice o1 n1 c1) S1 ∧ Ld wx (.slice o2 n2 c2) (stT p A B)) ∧ Hid (F0 wx))
  case first =>
    as_aux_lemma =>
    have B_0 : Hid (FR v6.drew) := Lib.hid (FRn.out _ _ F6.out (below_drw (Below.refl _ _) 1))
    refine wp_region_held_drew (S := fun W => (W.cell? ⟨w.heap.size, 0, none⟩ = some (.slice o1 a.length c1) ∧ W.cell? ⟨w.heap.size, 1, none⟩ = some (.slice o2 da.length c2)) ∧ W.cell? ⟨T5, 0, none⟩ = some (.slice oa na ca) ∧ W.cell? ⟨T5, 1, none⟩ = some (.slice ob nb cb) ∧ W.cell? ⟨T5, 2, none⟩ = some (.int .i64 0)) (by kernel_rfl) ?_ (fun hHeld => ?_)
    · exact KS.out _ B_0.out
    have hHd := hHeld
    generalize v6.drew = w_0 at *
    (refine tk (i := 0) (oi := ⟨some 27, _, _, _, _, _⟩) (v := ?v0_t1) rfl ?hy0_t1 ?rest0_t1; (case hy0_t1 => intro w hSw; (try dsimp only at hSw); go_simp; first | done | with_reducible rfl))
    (try simp only [Act.put, pq])
    (refine tk (i := 1) (oi := ⟨some 28, _, _, _, _, _⟩) (v := ?v1_t2) rfl ?hy1_t2 ?rest1_t2; (case hy1_t2 => intro w hSw; (try dsimp only at hSw); go_simp; first | done | with_reducible rfl))
    (try simp only [Act.put, pq])
    (refine tk (i := 2) (oi := ⟨some 29, _, _, _, _, _⟩) (v := ?v2_t3) rfl ?hy2_t3 ?rest2_t3; (case hy2_t3 => intro w hSw; (try dsimp only at hSw); go_simp; first | done | with_reducible rfl))
    (try simp only [Act.put, pq])
    (refine tk (i := 3) (oi := ⟨some 30, _, _, _, _, _⟩) (v := ?v3_t4) rfl ?hy3_t4 ?rest3_t4; (case hy3_t4 => intro w hSw; (try dsimp only at hSw); go_simp; first | done | with_reducible rfl))
    (try simp only [Act.put, pq])
    refine wpAnyH_ready (rs := [4, 9]) (by kernel_rfl) (by simp) ?_
    refine AllReadyH.cons (o := ⟨some 31, _, _, _, _, _⟩) rfl (fun K hK => ?_) (AllReadyH.cons (o := ⟨some 7, _, _, _, _, _⟩) rfl (fun K hK => ?_) (AllReadyH.nil))
    · go_simp
      (go_at_call 106; (with_reducible refine (KL.out _).mono ?_); rintro e w_1 ⟨g_1, rfl, h1, hb⟩; have B_1 := Lib.hid (FRn.out _ _ B_0.out hb); have X_1 := Lib.hid h1; clear h1 hb)
      refine hK.out _ _ ?_ (fun hHeld => ?_)
      · (try dsimp only)
        exact KS.out _ B_1.out
      clear hK K
      (try simp only [Act.put, pq])
      refine wpAnyH_ready (rs := [5, 9]) (by kernel_rfl) (by simp) ?_
      refine AllReadyH.cons (o := ⟨some 32, _, _, _, _, _⟩) rfl (fun K hK => ?_) (AllReadyH.cons (o := ⟨some 7, _, _, _, _, _⟩) rfl (fun K hK => ?_) (AllReadyH.nil))
      · go_simp
        (go_at_call 105; (with_reducible refine (KW.out _ _ B_1.out X_1.out).mono ?_); rintro e w_2 ⟨os, ns, cs, ot, nt, ct, rfl, h1, h2, hb⟩; have B_2 := Lib.hid (FRn.out _ _ B_1.out hb); have X_2 := Lib.hid (X_1.out.below hb); have V2_2 := Lib.hid (And.intro h1.1 h2.1); clear h1 h2 hb)
        refine hK.out _ _ ?_ (fun hHeld => ?_)
        · (try dsimp only)
          exact KS.out _ B_2.out
        clear hK K
        (try simp only [Act.put, pq])
        (refine tk (i := 6) (oi := ⟨some 26, _, _, _, _, _⟩) (v := ?v6_t5) rfl ?hy6_t5 ?rest6_t5; (case hy6_t5 => intro w hSw; (try dsimp only at hSw); go_simp; first | done | with_reducible rfl))
        (try simp only [Act.put, pq])
        (refine tk (i := 7) (oi := ⟨some 33, _, _, _, _, _⟩) (v := ?v7_t6) rfl ?hy7_t6 ?rest7_t6; (case hy7_t6 => intro w hSw; (try dsimp only at hSw); go_simp; first | done | with_reducible rfl))
        (try simp only [Act.put, pq])
        (refine tk (i := 8) (oi := ⟨some 34, _, _, _, _, _⟩) (v := ?v8_t7) rfl ?hy8_t7 ?rest8_t7; (case hy8_t7 => intro w hSw; (try dsimp only at hSw); go_simp; first | done | with_reducible rfl))
        (try simp only [Act.put, pq])
        refine wpAnyH_ready (rs := [9]) (by kernel_rfl) (by simp) ?_
        refine AllReadyH.cons (o := ⟨some 7, _, _, _, _, _⟩) rfl (fun K hK => ?_) (AllReadyH.nil)
        go_simp
        have AP : Hid ((∀ a, os = some a → a.block ≠ w_2.heap.size) ∧ (∀ a, ot = some a → a.block ≠ w_2.heap.size)) := Lib.hid (And.intro (fun a e => Nat.ne_of_lt (ld_lt (by rw [← e]; exact V2_2.out.1) HSL.out)) (fun a e => Nat.ne_of_lt (ld_lt (by rw [← e]; exact V2_2.out.2) (by show 0 < (stT p A B).length; rw [stT_len]; omega))))
        have Z_3 := Lib.hid (And.intro (Blk.new w_2 168 #[.slice none 0 0, .slice none 0 0, .int .i64 0]) (FRl.out _ B_2.out))
        have X_3 := Lib.hid (X_2.out.below (al_below (.cells #[.slice none 0 0, .slice none 0 0, .int .i64 0] 168)))
        have V2_3 := Lib.hid (And.intro (V2_2.out.1.below (al_below (.cells #[.slice none 0 0, .slice none 0 0, .int .i64 0] 168))) (V2_2.out.2.below (al_below (.cells #[.slice none 0 0, .slice none 0 0, .int .i64 0] 168))))
        have B_3 := Lib.hid (FRn.out _ _ B_2.out (al_below (.cells #[.slice none 0 0, .slice none 0 0, .int .i64 0] 168)))
        refine hK.out _ _ ?_ (fun hHeld => ?_)
        · (try dsimp only)
          exact KS.out _ B_3.out
        clear hK K
        generalize w_2.alloc (.cells #[.slice none 0 0, .slice none 0 0, .int .i64 0] 168) = w_3 at *
        (try simp only [Act.put, pq])
        refine wpAnyH_ready (rs := [10]) (by kernel_rfl) (by simp) ?_
        refine AllReadyH.cons (o := ⟨none, _, _, _, _, _⟩) rfl (fun K hK => ?_) (AllReadyH.nil)
        obtain ⟨p0, p1, p2, pf0, pf1, pf2⟩ := blk3 Z_3.out.1
        go_simp
        refine hK.out _ _ ?_ (fun hHeld => ?_)
        · (try dsimp only)
          exact KSz.out _ _ _ _ _ B_3.out Z_3.out.2
        clear hK K
        (try simp only [Act.put, pq])
        (refine tk (i := 11) (oi := ⟨some 8, _, _, _, _, _⟩) (v := ?v11_t8) rfl ?hy11_t8 ?rest11_t8; (case hy11_t8 => intro w hSw; (try dsimp only at hSw); go_simp; first | done | with_reducible rfl))
        (try simp only [Act.put, pq])
        refine wpAnyH_done (by kernel_rfl) ?_ _
        go_wp2
        go_meet
        exact ⟨_, _, _, _, _, _, _, rfl, ((Z_3.out.1.set_ 0 _).set_ 1 _).set_ 2 _, Lib.hid ⟨V2_3.out.1.setv3 AP.out.1, V2_3.out.2.setv3 AP.out.2⟩, Lib.hid (F0z.out _ _ _ _ _ (FRf.out _ B_3.out) (Nat.lt_trans L5.out Z_3.out.2))⟩
      · go_simp
        have Z_4 := Lib.hid (And.intro (Blk.new w_1 168 #[.slice none 0 0, .slice none 0 0, .int .i64 0]) (FRl.out _ B_1.out))
        have X_4 := Lib.hid (X_1.out.below (al_below (.cells #[.slice none 0 0, .slice none 0 0, .int .i64 0] 168)))
        have B_4 := Lib.hid (FRn.out _ _ B_1.out (al_below (.cells #[.slice none 0 0, .slice none 0 0, .int .i64 0] 168)))
        refine hK.out _ _ ?_ (fun hHeld => ?_)
        · (try dsimp only)
          exact KS.out _ B_4.out
        clear hK K
        generalize w_1.alloc (.cells #[.slice none 0 0, .slice none 0 0, .int .i64 0] 168) = w_4 at *
        (try simp only [Act.put, pq])
        refine wpAnyH_ready (rs := [5]) (by kernel_rfl) (by simp) ?_
        refine AllReadyH.cons (o := ⟨some 32, _, _, _, _, _⟩) rfl (fun K hK => ?_) (AllReadyH.nil)
        go_simp
        (go_at_call 105; (with_reducible refine (KW.out _ _ B_4.out X_4.out).mono ?_); rintro e w_5 ⟨os, ns, cs, ot, nt, ct, rfl, h1, h2, hb⟩; have B_5 := Lib.hid (FRn.out _ _ B_4.out hb); have X_5 := Lib.hid (X_4.out.below hb); have Z_5 := Lib.hid (And.intro (Z_4.out.1.below hb Z_4.out.1.lt) Z_4.out.2); have V2_5 := Lib.hid (And.intro h1.1 h2.1); have AP : Hid ((∀ a, os = some a → a.block ≠ w_1.heap.size) ∧ (∀ a, ot = some a → a.block ≠ w_1.heap.size)) := Lib.hid (And.intro (fun a e => Nat.ne_of_gt (Nat.lt_of_lt_of_le Z_4.out.1.lt (h1.2 a e))) (fun a e => Nat.ne_of_gt (Nat.lt_of_lt_of_le Z_4.out.1.lt (h2.2 a e)))); clear h1 h2 hb)
        refine hK.out _ _ ?_ (fun hHeld => ?_)
        · (try dsimp only)
          exact KS.out _ B_5.out
        clear hK K
        (try simp only [Act.put, pq])
        (refine tk (i := 6) (oi := ⟨some 26, _, _, _, _, _⟩) (v := ?v6_t9) rfl ?hy6_t9 ?rest6_t9; (case hy6_t9 => intro w hSw; (try dsimp only at hSw); go_simp; first | done | with_reducible rfl))
        (try simp only [Act.put, pq])
        (refine tk (i := 7) (oi := ⟨some 33, _, _, _, _, _⟩) (v := ?v7_t10) rfl ?hy7_t10 ?rest7_t10; (case hy7_t10 => intro w hSw; (try dsimp only at hSw); go_simp; first | done | with_reducible rfl))
        (try simp only [Act.put, pq])
        (refine tk (i := 8) (oi := ⟨some 34, _, _, _, _, _⟩) (v := ?v8_t11) rfl ?hy8_t11 ?rest8_t11; (case hy8_t11 => intro w hSw; (try dsimp only at hSw); go_simp; first | done | with_reducible rfl))
        (try simp only [Act.put, pq])
        refine wpAnyH_ready (rs := [10]) (by kernel_rfl) (by simp) ?_
        refine AllReadyH.cons (o := ⟨none, _, _, _, _, _⟩) rfl (fun K hK => ?_) (AllReadyH.nil)
        obtain ⟨p0, p1, p2, pf0, pf1, pf2⟩ := blk3 Z_5.out.1
        go_simp
        refine hK.out _ _ ?_ (fun hHeld => ?_)
        · (try dsimp only)
          exact KSz.out _ _ _ _ _ B_5.out Z_5.out.2
        clear hK K
        (try simp only [Act.put, pq])
        (refine tk (i := 11) (oi := ⟨some 8, _, _, _, _, _⟩) (v := ?v11_t12) rfl ?hy11_t12 ?rest11_t12; (case hy11_t12 => intro w hSw; (try dsimp only at hSw); go_simp; first | done | with_reducible rfl))
        (try simp only [Act.put, pq])
        refine wpAnyH_done (by kernel_rfl) ?_ _
        go_wp2
        go_meet
        exact ⟨_, _, _, _, _, _, _, rfl, ((Z_5.out.1.set_ 0 _).set_ 1 _).set_ 2 _, Lib.hid ⟨V2_5.out.1.setv3 AP.out.1, V2_5.out.2.setv3 AP.out.2⟩, Lib.hid (F0z.out _ _ _ _ _ (FRf.out _ B_5.out) (Nat.lt_trans L5.out Z_5.out.2))⟩
    · go_simp
      have Z_6 := Lib.hid (And.intro (Blk.new w_0 168 #[.slice none 0 0, .slice none 0 0, .int .i64 0]) (FRl.out _ B_0.out))
      have B_6 := Lib.hid (FRn.out _ _ B_0.out (al_below (.cells #[.slice none 0 0, .slice none 0 0, .int .i64 0] 168)))
      refine hK.out _ _ ?_ (fun hHeld => ?_)
      · (try dsimp only)
        exact KS.out _ B_6.out
      clear hK K
      generalize w_0.alloc (.cells #[.slice none 0 0, .slice none 0 0, .int .i64 0] 168) = w_6 at *
      (try simp only [Act.put, pq])
      refine wpAnyH_ready (rs := [4]) (by kernel_rfl) (by simp) ?_
      refine AllReadyH.cons (o := ⟨some 31, _, _, _, _, _⟩) rfl (fun K hK => ?_) (AllReadyH.nil)
      go_simp
      (go_at_call 106; (with_reducible refine (KL.out _).mono ?_); rintro e w_7 ⟨g_7, rfl, h1, hb⟩; have B_7 := Lib.hid (FRn.out _ _ B_6.out hb); have Z_7 := Lib.hid (And.intro (Z_6.out.1.below hb Z_6.out.1.lt) Z_6.out.2); have X_7 := Lib.hid h1; clear h1 hb)
      refine hK.out _ _ ?_ (fun hHeld => ?_)
      · (try dsimp only)
        exact KS.out _ B_7.out
      clear hK K
      (try simp only [Act.put, pq])
      refine wpAnyH_ready (rs := [5]) (by kernel_rfl) (by simp) ?_
      refine AllReadyH.cons (o := ⟨some 32, _, _, _, _, _⟩) rfl (fun K hK => ?_) (AllReadyH.nil)
      go_simp
      (go_at_call 105; (with_reducible refine (KW.out _ _ B_7.out X_7.out).mono ?_); rintro e w_8 ⟨os, ns, cs, ot, nt, ct, rfl, h1, h2, hb⟩; have B_8 := Lib.hid (FRn.out _ _ B_7.out hb); have X_8 := Lib.hid (X_7.out.below hb); have Z_8 := Lib.hid (And.intro (Z_7.out.1.below hb Z_7.out.1.lt) Z_7.out.2); have V2_8 := Lib.hid (And.intro h1.1 h2.1); have AP : Hid ((∀ a, os = some a → a.block ≠ w_0.heap.size) ∧ (∀ a, ot = some a → a.block ≠ w_0.heap.size)) := Lib.hid (And.intro (fun a e => Nat.ne_of_gt (Nat.lt_of_lt_of_le Z_7.out.1.lt (h1.2 a e))) (fun a e => Nat.ne_of_gt (Nat.lt_of_lt_of_le Z_7.out.1.lt (h2.2 a e)))); clear h1 h2 hb)
      refine hK.out _ _ ?_ (fun hHeld => ?_)
      · (try dsimp only)
        exact KS.out _ B_8.out
      clear hK K
      (try simp only [Act.put, pq])
      (refine tk (i := 6) (oi := ⟨some 26, _, _, _, _, _⟩) (v := ?v6_t13) rfl ?hy6_t13 ?rest6_t13; (case hy6_t13 => intro w hSw; (try dsimp only at hSw); go_simp; first | done | with_reducible rfl))
      (try simp only [Act.put, pq])
      (refine tk (i := 7) (oi := ⟨some 33, _, _, _, _, _⟩) (v := ?v7_t14) rfl ?hy7_t14 ?rest7_t14; (case hy7_t14 => intro w hSw; (try dsimp only at hSw); go_simp; first | done | with_reducible rfl))
      (try simp only [Act.put, pq])
      (refine tk (i := 8) (oi := ⟨some 34, _, _, _, _, _⟩) (v := ?v8_t15) rfl ?hy8_t15 ?rest8_t15; (case hy8_t15 => intro w hSw; (try dsimp only at hSw); go_simp; first | done | with_reducible rfl))
      (try simp only [Act.put, pq])
      refine wpAnyH_ready (rs := [10]) (by kernel_rfl) (by simp) ?_
      refine AllReadyH.cons (o := ⟨none, _, _, _, _, _⟩) rfl (fun K hK => ?_) (AllReadyH.nil)
      obtain ⟨p0, p1, p2, pf0, pf1, pf2⟩ := blk3 Z_8.out.1
      go_simp
      refine hK.out _ _ ?_ (fun hHeld => ?_)
      · (try dsimp only)
        exact KSz.out _ _ _ _ _ B_8.out Z_8.out.2
      clear hK K
      (try simp only [Act.put, pq])
      (refine tk (i := 11) (oi := ⟨some 8, _, _, _, _, _⟩) (v := ?v11_t16) rfl ?hy11_t16 ?rest11_t16; (case hy11_t16 => intro w hSw; (try dsimp only at hSw); go_simp; first | done | with_reducible rfl))
      (try simp only [Act.put, pq])
      refine wpAnyH_done (by kernel_rfl) ?_ _
      go_wp2
      go_meet
      exact ⟨_, _, _, _, _, _, _, rfl, ((Z_8.out.1.set_ 0 _).set_ 1 _).set_ 2 _, Lib.hid ⟨V2_8.out.1.setv3 AP.out.1, V2_8.out.2.setv3 AP.out.2⟩, Lib.hid (F0z.out _ _ _ _ _ (FRf.out _ B_8.out) (Nat.lt_trans L5.out Z_8.out.2))⟩
  case rest =>
    as_aux_lemma =>
    obtain ⟨T7, oc, nc, cc, od, nd, cd, rfl, hb7, HV, HF⟩ := hcut
    obtain ⟨⟨x0, x1⟩, hz⟩ := F0k.out _ HF.out
    obtain ⟨y0, y1, y2, _⟩ := blk3 hb7
    clear hb7 hz
    go_wp2_with (go_at_call 107; (with_reducible refine (KCO.out _ _ _ (F0b.out _ HF.out) HV.out.1 HV.out.2).mono ?_); rintro e w9 ⟨os, cs, oe, ce, rfl, h1, h2, hb⟩; have F9 := Lib.hid (F0n.out _ _ HF.out hb); have O9 := Lib.hid (And.intro (own_base h1 (F0b.out _ HF.out).size) (own_base h2 (F0b.out _ HF.out).size)); obtain ⟨⟨x0, x1⟩, hz⟩ := F0k.out _ F9.out; obtain ⟨z0, z1, zf0, zf1⟩ := blk2 hz; clear h1 h2 hb hz)
    have R := someT_set O9.out.1 O9.out.2 (F0k.out _ F9.out).2 (.slice os S1.length cs) (.slice oe D1.length ce)
    refine bodyPost_ret (v := .tuple #[.agg #[.slice os S1.length cs, .slice oe D1.length ce], .int .i64 0]) (by simp [results, Tryz.results41, go_sem, z0, z1]) rfl ?_
    exact ⟨os, cs, oe, ce, rfl, R.1, R.2, ((F0b.out _ F9.out).setCell (p := ⟨w.heap.size + 1, 0, none⟩) (Nat.le_succ _) _).setCell (p := ⟨w.heap.size + 1, 1, none⟩) (Nat.le_succ _) _⟩
end Go.Proofs.YtmafgdinegboeaaGreat
namespace Go.Proofs.YtmafgdinegboeaaGreat

section
variable {r n c : Nat}
end
section
variable {K r n c : Nat}
end
end Go.Proofs.YtmafgdinegboeaaGreat
namespace Go.Proofs.YtmafgdinegboeaaGreat
open Go.RowKit
end Go.Proofs.YtmafgdinegboeaaGreat
namespace Go.Proofs.YtmafgdinegboeaaGreat
open Go.RowKit Go.Shelf

theorem Ld.of_own {W : World} {base c : Nat} {o : Option Addr} {e : TypeId} {ls : List Int} (h : W.ownsRow base e 1 (.slice o ls.length c) ls.length (ints ls)) : Ld W (.slice o ls.length c) ls := by
  obtain ⟨_, _, e1, h3⟩ := Ld.of_owns h
  simp only [Value.slice.injEq] at e1
  obtain ⟨rfl, _, rfl⟩ := e1
  exact h3
theorem Ld.of_own' {W : World} {base n c : Nat} {o : Option Addr} {e : TypeId} {ls : List Int} (h : W.ownsRow base e 1 (.slice o n c) n (ints ls)) (hn : ls.length = n) : Ld W (.slice o n c) ls := by
  subst hn; exact Ld.of_own h
theorem ld_at {W : World} {o : Option Addr} {n c k : Nat} {ls : List Int} (h : Ld W (.slice o n c) ls) (hk : k < ls.length) : ∃ g f, o = some ⟨g, f, none⟩ ∧ W.cell? ⟨g, f + k, none⟩ = some (.int .i64 (ls.getD k 0)) := by
  obtain ⟨o2, c2, e, _, h2⟩ := h
  simp only [Value.slice.injEq] at e
  obtain ⟨rfl, _, rfl⟩ := e
  obtain ⟨g, f, e1, _, h4⟩ := h2 k hk
  exact ⟨g, f, e1, h4⟩
theorem ld_cell {W : World} {g f n c k : Nat} {ls : List Int} (h : Ld W (.slice (some ⟨g, f, none⟩) n c) ls) (hk : k < ls.length) : W.cell? ⟨g, f + k, none⟩ = some (.int .i64 (ls.getD k 0)) := by
  obtain ⟨g', f', e, h2⟩ := ld_at h hk
  simp only [Option.some.injEq, Addr.mk.injEq, and_true] at e
  obtain ⟨rfl, rfl⟩ := e
  exact h2
theorem ld_cap {W : World} {o : Option Addr} {n c : Nat} {ls : List Int} (h : Ld W (.slice o n c) ls) : ls.length ≤ c := by
  obtain ⟨o2, c2, e, hc, _⟩ := h
  simp only [Value.slice.injEq] at e
  obtain ⟨_, _, rfl⟩ := e
  exact hc
theorem ld_part {W : World} {g f L c lo N : Nat} {ls : List Int} (h : Ld W (.slice (some ⟨g, f, none⟩) L c) ls) (hl : lo + N ≤ ls.length) : Ld W (.slice (some ⟨g, f + lo, none⟩) N (c - lo)) ((ls.drop lo).take N) := by
  have hc := ld_cap h
  have hlen : ((ls.drop lo).take N).length = N := by simp; omega
  refine ⟨_, _, by rw [hlen], by rw [hlen]; omega, fun i hi => ?_⟩
  rw [hlen] at hi
  obtain ⟨o2, c2, e, _, hx⟩ := h
  simp only [Value.slice.injEq] at e
  obtain ⟨rfl, _, _⟩ := e
  obtain ⟨b, f', e, hb, hcell⟩ := hx (lo + i) (by omega)
  simp only [Option.some.injEq, Addr.mk.injEq, and_true] at e
  obtain ⟨rfl, rfl⟩ := e
  refine ⟨g, f + lo, rfl, hb, ?_⟩
  rw [show f + lo + i = f + (lo + i) by omega, hcell, mid_getD hi]
end Go.Proofs.YtmafgdinegboeaaGreat
