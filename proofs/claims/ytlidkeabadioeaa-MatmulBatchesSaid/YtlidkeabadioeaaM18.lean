/-
  package matmul: Turn, of what can be turned.
  What MatmulTurns and MatmulBatches say, in numbers.
  The statements' counts of fraction bits.
  What the matmul laws' rounds want: told tensors by their lengths, cells of lists, powers of two.
-/
import Derived.Test.YtlidkeabadioeaaM08
import Derived.Test.YtlidkeabadioeaaM10
import Derived.Test.YtlidkeabadioeaaM17
namespace Go.Proofs.Ytlidkeabadioeaa
open Go Go.RowKit Go.Shelf

theorem Ld.setv3 {W : World} {o : Option Addr} {n c : Nat} {ls : List Int} {b : Nat} {x y z : Value} (h : Ld W (.slice o n c) ls) (hn : ∀ a, o = some a → a.block ≠ b) : Ld (((W.setCell ⟨b, 0, none⟩ x).setCell ⟨b, 1, none⟩ y).setCell ⟨b, 2, none⟩ z) (.slice o n c) ls := by
  obtain ⟨o2, c2, e, h1, h2⟩ := h
  simp only [Value.slice.injEq] at e
  obtain ⟨rfl, rfl, rfl⟩ := e
  refine ⟨o, c, rfl, h1, fun k hk => ?_⟩
  obtain ⟨g, f, e1, h3, h4⟩ := h2 k hk
  have hne : ¬ g = b := fun e => hn _ e1 e
  refine ⟨g, f, e1, by simpa using h3, ?_⟩
  rw [← h4]
  simp only [World.cell?]
  rw [Below.heap_setCell _ _ _ _ hne, Below.heap_setCell _ _ _ _ hne, Below.heap_setCell _ _ _ _ hne]
theorem ld_lt {W : World} {a : Addr} {n c : Nat} {ls : List Int} (h : Ld W (.slice (some a) n c) ls) (hl : 0 < ls.length) : a.block < W.heap.size := by
  obtain ⟨o2, c2, e, h1, h2⟩ := h
  simp only [Value.slice.injEq] at e
  obtain ⟨rfl, rfl, rfl⟩ := e
  obtain ⟨g, f, e1, h3, _⟩ := h2 0 hl
  simp only [Option.some.injEq] at e1
  rw [e1]; exact h3
theorem vwb_stl {a : List Int} (ma : may a = true) : vwb a (stl a) 0 65536 = true := by
  have hp := may_prod ma
  refine vwb_iff.2 ⟨ma, stl_len _, fun x hx => ?_, by omega, by omega, by omega, ?_⟩
  · obtain ⟨j, hj, rfl⟩ := List.mem_iff_getElem.1 hx
    have e : (stl a).getD j 0 = (stl a)[j] := by simp [List.getD, List.getElem?_eq_getElem hj]
    rw [← e, stl_getD a j (by rw [stl_len] at hj; exact hj)]
    have := may_drop ma (j + 1)
    omega
  · rw [far_stl]; omega
theorem ltc_axs {n : Nat} (h2 : 2 ≤ n) (h4 : n ≤ 4) : axs (ltc n) n = true := by
  obtain rfl | rfl | rfl : n = 2 ∨ n = 3 ∨ n = 4 := by omega
  · decide
  · decide
  · decide
theorem mem_swap {α : Type} {p : List α} {x y d : α} (h : d ∈ p ++ [x, y]) : d ∈ p ++ [y, x] := by
  simp only [List.mem_append, List.mem_cons, List.not_mem_nil, or_false] at h ⊢
  rcases h with a | b | c
  · exact .inl a
  · exact .inr (.inr b)
  · exact .inr (.inl c)
theorem stT_sts {a p : List Int} {A B : Nat} (ma : may a = true) (ha : a = p ++ [(A : Int), (B : Int)]) (hp : p.length ≤ 2) : sts (stT p A B) := by
  have h1 := (turn_lists p A B hp).2
  rw [← h1, ← ha]
  have hs := (vwb_iff.1 (vwb_stl ma)).2.2.1
  intro x hx
  unfold trl at hx
  obtain ⟨j, _, rfl⟩ := List.mem_map.1 hx
  by_cases hj : j.toNat < (stl a).length
  · exact hs _ (getD_mem hj)
  · rw [getD_past (by omega)]; omega
theorem turn_vwb {a p da : List Int} {A B K : Nat} (ta : tnb a da = true) (ha : a = p ++ [(A : Int), (B : Int)]) (hK : prod p = (K : Int)) (hp : pos p) (h1 : 1 ≤ A ∧ 1 ≤ B ∧ 1 ≤ K) (hl : p.length ≤ 2) (h6 : K * (A * B) ≤ 65536) (hN : prod a = ((K * (A * B) : Nat) : Int)) : vwb (p ++ [(B : Int), (A : Int)]) (stT p A B) 0 da.length = true := by
  obtain ⟨k1, k2, k3⟩ := tnb_parts ta
  have hn : da.length = K * (A * B) := by omega
  have hn1 : 1 ≤ K * (A * B) := Nat.mul_pos (by omega) (Nat.mul_pos (by omega) (by omega))
  refine vwb_iff.2 ⟨may_swap (by rw [← ha]; exact k1), by rw [stT_len]; simp, stT_sts k1 ha hl, by omega, by omega, by omega, ?_⟩
  rw [far_turn h1.1 h1.2.1 p K hp hK]; omega
/-- A view that is told, its lists' lengths by name. -/
def VwN (W : World) (sh st : List Int) (e : Ending) (w' : World) : Prop := ∃ os ns cs ot nt ct, e = .returned (.tuple #[.agg #[.slice os ns cs, .slice ot nt ct, .int .i64 0], .int .i64 0]) ∧ (Ld w' (.slice os ns cs) sh ∧ ∀ a, os = some a → W.heap.size ≤ a.block) ∧ (Ld w' (.slice ot nt ct) st ∧ ∀ a, ot = some a → W.heap.size ≤ a.block) ∧ Below W.heap.size W w'
theorem vwN_of {W : World} {sh st : List Int} {e : Ending} {w' : World} (h : SomeV W 0 sh st 0 e w') : VwN W sh st e w' := by
  obtain ⟨os, cs, ot, ct, rfl, ho, hb⟩ := h
  have lo : ∀ {v : Value} {n : Nat} {xs : List Value} {o : Option Addr} {m c : Nat}, w'.ownsRow W.heap.size 3 1 v n xs → v = .slice o m c → ∀ a, o = some a → W.heap.size ≤ a.block := by
    intro v n xs o m c hv e a ea
    subst e ea
    exact (hv.lt a.block rfl).1
  exact ⟨os, _, cs, ot, _, ct, rfl, ⟨(ov_ld ho).1, lo ho.1 rfl⟩, ⟨(ov_ld ho).2, lo ho.2.1 rfl⟩, hb⟩
theorem someT_set {w W : World} {sh ds : List Int} {os od : Option Addr} {cs cd : Nat} (h1 : W.ownsRow w.heap.size 3 1 (.slice os sh.length cs) sh.length (ints sh)) (h2 : W.ownsRow w.heap.size 2 1 (.slice od ds.length cd) ds.length (ints ds)) (hb : Blk W (w.heap.size + 1) 26 #[.slice none 0 0, .slice none 0 0]) (x y : Value) :
    (((W.setCell ⟨w.heap.size + 1, 0, none⟩ x).setCell ⟨w.heap.size + 1, 1, none⟩ y).ownsRow w.heap.size 3 1 (.slice os sh.length cs) sh.length (ints sh)) ∧ (((W.setCell ⟨w.heap.size + 1, 0, none⟩ x).setCell ⟨w.heap.size + 1, 1, none⟩ y).ownsRow w.heap.size 2 1 (.slice od ds.length cd) ds.length (ints ds)) :=
  ⟨own_tset (own_tset h1 hb (by decide)) (hb.set_ 0 _) (by decide), own_tset (own_tset h2 hb (by decide)) (hb.set_ 0 _) (by decide)⟩
set_option maxRecDepth 100000 in
set_option maxHeartbeats 6000000 in
theorem turn_ok (vs vd : Value) (a da p : List Int) (A B K : Nat) (w : World) (hs : Ld w vs a) (hd : Ld w vd da) (ta : tnb a da = true) (ha : a = p ++ [(A : Int), (B : Int)]) (hK : prod p = (K : Int)) (hp : pos p) (h1 : 1 ≤ A ∧ 1 ≤ B ∧ 1 ≤ K) (hN : prod a = ((K * (A * B) : Nat) : Int)) (h6 : K * (A * B) ≤ 65536) (hl : p.length ≤ 2) :
    Calls Try.prog 14 #[.agg #[vs, vd]] w (SomeT w 0 (p ++ [(B : Int), (A : Int)]) (tnn K A B da)) := by
  have ka := tnb_parts ta
  have hal : a.length = p.length + 2 := by rw [ha]; simp
  have hn : da.length = K * (A * B) := by omega
  have CA := Lib.hid (fun (W : World) (hW : Below w.heap.size w W) => echeck_any vs vd a da W (hs.below hW) (hd.below hW) (by omega) (by omega))
  rw [ta, if_pos rfl] at CA
  have KOF := Lib.hid (fun (W : World) (hW : Below w.heap.size w W) => by
    have q := of_any vs a W (hs.below hW) (by omega)
    rw [show ofe a = 0 from if_pos ka.1] at q
    exact q.mono (fun _ _ hh => vwN_of hh))
  have KL := Lib.hid (fun (W : World) => (ltc_any a.length W (by omega) (by omega)).mono (fun e w' hh => (⟨W.heap.size, hh.1, (by have q := Ld.of_blk (c := a.length) hh.2.1 (by rw [ltc_len]; exact Nat.le_refl _); rwa [ltc_len] at q), hh.2.2⟩ : ∃ g, e = .returned (.slice (some ⟨g, 0, none⟩) a.length a.length) ∧ Ld w' (.slice (some ⟨g, 0, none⟩) a.length a.length) (ltc a.length) ∧ Below W.heap.size W w')))
  have KTR := Lib.hid (fun (W : World) (va vb v : Value) (q1 : Ld W va a) (q2 : Ld W vb (stl a)) (q3 : Ld W v (ltc a.length)) => by
    have q := transpose_any va vb v a (stl a) (ltc a.length) 0 W q1 q2 q3 (by omega) (by rw [stl_len]; omega) (by rw [ltc_len]; omega)
    rw [show tre a (stl a) 0 (ltc a.length) = 0 by unfold tre; rw [vwb_stl ka.1, ltc_axs (by omega) (by omega)]; rfl] at q
    have e1 : trl a (ltc a.length) = p ++ [(B : Int), (A : Int)] := by rw [hal, ha]; exact (turn_lists p A B hl).1
    have e2 : trl (stl a) (ltc a.length) = stT p A B := by rw [hal, ha]; exact (turn_lists p A B hl).2
    rw [e1, e2] at q
    exact q.mono (fun _ _ hh => vwN_of hh))
  have KCO := Lib.hid (fun (W : World) (va vb : Value) (hW : Below w.heap.size w W) (q1 : Ld W va (p ++ [(B : Int), (A : Int)])) (q2 : Ld W vb (stT p A B)) => by
    have q := copy_ok va vb vd _ _ da 0 (K * (B * A)) W q1 q2 (hd.below hW) (turn_vwb ta ha hK hp h1 hl h6 hN) ka.2.2 (by rw [prod_two p B A K hK])
    rwa [cps_tnn hp hK] at q)
  obtain ⟨S1, hS1⟩ : ∃ S, S = p ++ [(B : Int), (A : Int)] := ⟨_, rfl⟩
  obtain ⟨D1, hD1⟩ : ∃ D, D = tnn K A B da := ⟨_, rfl⟩
  have HSL : Hid (0 < S1.length) := Lib.hid (by rw [hS1]; simp)
  rw [← hS1] at KTR KCO
  rw [← hD1] at KCO
  rw [← hS1, ← hD1]
  obtain ⟨o1, c1, rfl, _, _⟩ := id hs
  obtain ⟨o2, c2, rfl, _, _⟩ := id hd
  have HLS := Lib.hid (And.intro hs hd)
  have lo2 : ¬ ((a.length : Int) < 2) := by omega
  obtain ⟨w2, hw2⟩ : ∃ w2, w2 = (w.alloc (.cells #[.slice o1 a.length c1, .slice o2 da.length c2] 26)).alloc (.cells #[.slice none 0 0, .slice none 0 0] 26) := ⟨_, rfl⟩
  have B2 : Hid (Below w.heap.size w w2) := Lib.hid (by rw [hw2]; exact ((Below.refl _ _).alloc (Nat.le_refl _) _).alloc (by simp) _)
  have S2 : Hid (w2.heap.size = w.heap.size + 2) := Lib.hid (by rw [hw2]; simp)
  have Q1 : Hid (Blk w2 (w.heap.size + 1) 26 #[.slice none 0 0, .slice none 0 0]) := Lib.hid (by rw [hw2]; exact blk_new1 w _ _ _)
  have Q0 : Hid (Blk w2 w.heap.size 26 #[.slice o1 a.length c1, .slice o2 da.length c2]) := Lib.hid (by rw [hw2]; exact (Blk.new w _ _).alloc _)
  have CA1 := Lib.hid (CA.out w2 B2.out)
  have HW := Lib.hid hw2
  rw [hw2] at CA1
  clear hw2 hs hd ta hN h6 h1 hp hn hl ha hal ka hS1 hD1
  -- what lies on: the two boxes, and all below
  obtain ⟨F0, hF0⟩ : ∃ F0 : World → Prop, F0 = fun W => Below w.heap.size w W ∧ Blk W w.heap.size 26 #[.slice o1 a.length c1, .slice o2 da.length c2] ∧ Blk W (w.heap.size + 1) 26 #[.slice none 0 0, .slice none 0 0] := ⟨_, rfl⟩
  have F0n : Hid (∀ W W', F0 W → Below W.heap.size W W' → F0 W') := Lib.hid (fun W W' h hb => by rw [hF0] at h ⊢; exact ⟨h.1.trans (hb.mono h.1.size), h.2.1.below hb h.2.1.lt, h.2.2.below hb h.2.2.lt⟩)
  have F0b : Hid (∀ W, F0 W → Below w.heap.size w W) := Lib.hid (fun W h => by rw [hF0] at h; exact h.1)
  have F0k : Hid (∀ W, F0 W → (W.cell? ⟨w.heap.size, 0, none⟩ = some (.slice o1 a.length c1) ∧ W.cell? ⟨w.heap.size, 1, none⟩ = some (.slice o2 da.length c2)) ∧ Blk W (w.heap.size + 1) 26 #[.slice none 0 0, .slice none 0 0]) := Lib.hid (fun W h => by rw [hF0] at h; exact ⟨⟨(blk2 h.2.1).1, (blk2 h.2.1).2.1⟩, h.2.2⟩)
  have G0 : Hid (F0 w2) := Lib.hid (by rw [hF0]; exact ⟨B2.out, Q0.out, Q1.out⟩)
  have F0z : Hid (∀ W Z x y z, F0 W → w.heap.size + 1 < Z → F0 (((W.setCell ⟨Z, 0, none⟩ x).setCell ⟨Z, 1, none⟩ y).setCell ⟨Z, 2, none⟩ z)) := Lib.hid (fun W Z x y z h hz => by
    rw [hF0] at h ⊢
    exact ⟨((h.1.setCell (p := ⟨Z, 0, none⟩) (by show w.heap.size ≤ Z; omega) x).setCell (p := ⟨Z, 1, none⟩) (by show w.heap.size ≤ Z; omega) y).setCell (p := ⟨Z, 2, none⟩) (by show w.heap.size ≤ Z; omega) z,
      ((h.2.1.far (p := ⟨Z, 0, none⟩) (by show w.heap.size ≠ Z; omega) x).far (p := ⟨Z, 1, none⟩) (by show w.heap.size ≠ Z; omega) y).far (p := ⟨Z, 2, none⟩) (by show w.heap.size ≠ Z; omega) z,
      ((h.2.2.far (p := ⟨Z, 0, none⟩) (by show w.heap.size + 1 ≠ Z; omega) x).far (p := ⟨Z, 1, none⟩) (by show w.heap.size + 1 ≠ Z; omega) y).far (p := ⟨Z, 2, none⟩) (by show w.heap.size + 1 ≠ Z; omega) z⟩)
  have F0l : Hid (∀ W, F0 W → w.heap.size + 1 < W.heap.size) := Lib.hid (fun W h => by rw [hF0] at h; exact h.2.2.lt)
  clear hF0 Q0 Q1
  go_enter Try.func14, Try.ntmps14
  go_upto_region 7 with (first
    | (go_at_call 40; (with_reducible refine CA1.out.mono ?_); rintro e wa ⟨rfl, hb⟩; rw [← HW.out] at hb; have Fa := Lib.hid (F0n.out _ _ G0.out hb); obtain ⟨⟨x0, x1⟩, _⟩ := F0k.out _ Fa.out; clear hb)
    | (go_at_call 41; (with_reducible refine (KOF.out _ (F0b.out _ Fa.out)).mono ?_); rintro e wb ⟨oa, na, ca, ob, nb, cb, rfl, h1, h2, hb⟩; have Fb := Lib.hid (F0n.out _ _ Fa.out hb); have V1 := Lib.hid (And.intro h1.1 h2.1); clear h1 h2 hb))
  obtain ⟨v6, hv⟩ : ∃ v, v = wb.alloc (.cells #[.slice oa na ca, .slice ob nb cb, .int .i64 0] 69) := ⟨_, rfl⟩
  obtain ⟨T5, hT⟩ : ∃ T, T = wb.heap.size := ⟨_, rfl⟩
  rw [← hv, ← hT]
  have L5 : Hid (w.heap.size + 1 < T5) := Lib.hid (by rw [hT]; exact F0l.out _ Fb.out)
  obtain ⟨FR, hFR⟩ : ∃ FR : World → Prop, FR = fun W => F0 W ∧ Blk W T5 69 #[.slice oa na ca, .slice ob nb cb, .int .i64 0] ∧ Ld W (.slice oa na ca) a ∧ Ld W (.slice ob nb cb) (stl a) := ⟨_, rfl⟩
  have F6 : Hid (FR v6) := Lib.hid (by rw [hFR, hv, hT]; exact ⟨F0n.out _ _ Fb.out (al_below _), Blk.new _ _ _, V1.out.1.below (al_below _), V1.out.2.below (al_below _)⟩)
  have FRn : Hid (∀ W W', FR W → Below W.heap.size W W' → FR W') := Lib.hid (fun W W' h hb => by rw [hFR] at h ⊢; exact ⟨F0n.out _ _ h.1 hb, h.2.1.below hb h.2.1.lt, h.2.2.1.below hb, h.2.2.2.below hb⟩)
  have FRf : Hid (∀ W, FR W → F0 W) := Lib.hid (fun W h => by rw [hFR] at h; exact h.1)
  have FRl : Hid (∀ W, FR W → T5 < W.heap.size) := Lib.hid (fun W h => by rw [hFR] at h; exact h.2.1.lt)
  have FRv : Hid (∀ W, FR W → Ld W (.slice oa na ca) a ∧ Ld W (.slice ob nb cb) (stl a)) := Lib.hid (fun W h => by rw [hFR] at h; exact h.2.2)
  have KS : Hid (∀ W, FR W → (W.cell? ⟨w.heap.size, 0, none⟩ = some (.slice o1 a.length c1) ∧ W.cell? ⟨w.heap.size, 1, none⟩ = some (.slice o2 da.length c2)) ∧ W.cell? ⟨T5, 0, none⟩ = some (.slice oa na ca) ∧ W.cell? ⟨T5, 1, none⟩ = some (.slice ob nb cb) ∧ W.cell? ⟨T5, 2, none⟩ = some (.int .i64 0)) := Lib.hid (fun W h => by
    rw [hFR] at h
    obtain ⟨p0, p1, p2, _⟩ := blk3 h.2.1
    exact ⟨(F0k.out _ h.1).1, p0, p1, p2⟩)
  have KSz : Hid (∀ W Z x y z, FR W → T5 < Z → ((((W.setCell ⟨Z, 0, none⟩ x).setCell ⟨Z, 1, none⟩ y).setCell ⟨Z, 2, none⟩ z).cell? ⟨w.heap.size, 0, none⟩ = some (.slice o1 a.length c1) ∧ (((W.setCell ⟨Z, 0, none⟩ x).setCell ⟨Z, 1, none⟩ y).setCell ⟨Z, 2, none⟩ z).cell? ⟨w.heap.size, 1, none⟩ = some (.slice o2 da.length c2)) ∧ (((W.setCell ⟨Z, 0, none⟩ x).setCell ⟨Z, 1, none⟩ y).setCell ⟨Z, 2, none⟩ z).cell? ⟨T5, 0, none⟩ = some (.slice oa na ca) ∧ (((W.setCell ⟨Z, 0, none⟩ x).setCell ⟨Z, 1, none⟩ y).setCell ⟨Z, 2, none⟩ z).cell? ⟨T5, 1, none⟩ = some (.slice ob nb cb) ∧ (((W.setCell ⟨Z, 0, none⟩ x).setCell ⟨Z, 1, none⟩ y).setCell ⟨Z, 2, none⟩ z).cell? ⟨T5, 2, none⟩ = some (.int .i64 0)) := Lib.hid (fun W Z x y z h hz => by
    refine ⟨(F0k.out _ (F0z.out W Z x y z (FRf.out _ h) (Nat.lt_trans L5.out hz))).1, ?_⟩
    rw [hFR] at h
    obtain ⟨p0, p1, p2, _⟩ := blk3 (((h.2.1.far (p := ⟨Z, 0, none⟩) (by show T5 ≠ Z; omega) x).far (p := ⟨Z, 1, none⟩) (by show T5 ≠ Z; omega) y).far (p := ⟨Z, 2, none⟩) (by show T5 ≠ Z; omega) z)
    exact ⟨p0, p1, p2⟩)
  have KW := Lib.hid (fun (W : World) (v : Value) (h : FR W) (hv : Ld W v (ltc a.length)) => KTR.out W _ _ v (FRv.out W h).1 (FRv.out W h).2 hv)
  clear hv hT hFR V1 x0 x1 Fa Fb G0 CA1 CA KOF KTR HW
  go_cut [7] (fun s7 wx => ∃ (P : Nat) (o1 : Option Addr) (n1 c1 : Nat) (o2 : Option Addr) (n2 c2 : Nat), s7 = .pointer (some ⟨P, 0, none⟩) ∧ Blk wx P 69 #[.slice o1 n1 c1, .slice o2 n2 c2, .int .i64 0] ∧ Hid (Ld wx (.slice o1 n1 c1) S1 ∧ Ld wx (.slice o2 n2 c2) (stT p A B)) ∧ Hid (F0 wx))
  case first =>
    as_aux_lemma =>
    have B_0 : Hid (FR v6.drew) := Lib.hid (FRn.out _ _ F6.out (below_drw (Below.refl _ _) 1))
    refine wp_region_held_drew (S := fun W => (W.cell? ⟨w.heap.size, 0, none⟩ = some (.slice o1 a.length c1) ∧ W.cell? ⟨w.heap.size, 1, none⟩ = some (.slice o2 da.length c2)) ∧ W.cell? ⟨T5, 0, none⟩ = some (.slice oa na ca) ∧ W.cell? ⟨T5, 1, none⟩ = some (.slice ob nb cb) ∧ W.cell? ⟨T5, 2, none⟩ = some (.int .i64 0)) (by kernel_rfl) ?_ (fun hHeld => ?_)
    · exact KS.out _ B_0.out
    have hHd := hHeld
    generalize v6.drew = w_0 at *
    (refine wpAnyH_take (i := 0) (oi := ⟨some 27, _, _, _, _, _⟩) (v := ?v0_t1) rfl (by kernel_rfl) (by kernel_rfl) (by kernel_rfl) (fun _ _ _ h => h) (Or.inl ⟨by rfl, ?hy0_t1⟩) (by assumption) ?rest0_t1; (case hy0_t1 => ((intro w hSw); (try dsimp only at hSw); go_simp; first | done | (with_reducible rfl))))
    (try simp only [Act.put, List.setIfInBounds_toArray, List.set_cons_zero, List.set_cons_succ])
    (refine wpAnyH_take (i := 1) (oi := ⟨some 28, _, _, _, _, _⟩) (v := ?v1_t2) rfl (by kernel_rfl) (by kernel_rfl) (by kernel_rfl) (fun _ _ _ h => h) (Or.inl ⟨by rfl, ?hy1_t2⟩) (by assumption) ?rest1_t2; (case hy1_t2 => ((intro w hSw); (try dsimp only at hSw); go_simp; first | done | (with_reducible rfl))))
    (try simp only [Act.put, List.setIfInBounds_toArray, List.set_cons_zero, List.set_cons_succ])
    (refine wpAnyH_take (i := 2) (oi := ⟨some 29, _, _, _, _, _⟩) (v := ?v2_t3) rfl (by kernel_rfl) (by kernel_rfl) (by kernel_rfl) (fun _ _ _ h => h) (Or.inl ⟨by rfl, ?hy2_t3⟩) (by assumption) ?rest2_t3; (case hy2_t3 => ((intro w hSw); (try dsimp only at hSw); go_simp; first | done | (with_reducible rfl))))
    (try simp only [Act.put, List.setIfInBounds_toArray, List.set_cons_zero, List.set_cons_succ])
    (refine wpAnyH_take (i := 3) (oi := ⟨some 30, _, _, _, _, _⟩) (v := ?v3_t4) rfl (by kernel_rfl) (by kernel_rfl) (by kernel_rfl) (fun _ _ _ h => h) (Or.inl ⟨by rfl, ?hy3_t4⟩) (by assumption) ?rest3_t4; (case hy3_t4 => ((intro w hSw); (try dsimp only at hSw); go_simp; first | done | (with_reducible rfl))))
    (try simp only [Act.put, List.setIfInBounds_toArray, List.set_cons_zero, List.set_cons_succ])
    refine wpAnyH_ready (rs := [4, 9]) (by kernel_rfl) (by simp) ?_
    refine AllReadyH.cons (o := ⟨some 31, _, _, _, _, _⟩) rfl (fun K hK => ?_) (AllReadyH.cons (o := ⟨some 7, _, _, _, _, _⟩) rfl (fun K hK => ?_) (AllReadyH.nil))
    · go_simp
      (go_at_call 43; (with_reducible refine (KL.out _).mono ?_); rintro e w_1 ⟨g_1, rfl, h1, hb⟩; have B_1 := Lib.hid (FRn.out _ _ B_0.out hb); have X_1 := Lib.hid h1; clear h1 hb)
      refine hK.out _ _ ?_ (fun hHeld => ?_)
      · (try dsimp only)
        exact KS.out _ B_1.out
      clear hK K
      (try simp only [Act.put, List.setIfInBounds_toArray, List.set_cons_zero, List.set_cons_succ])
      refine wpAnyH_ready (rs := [5, 9]) (by kernel_rfl) (by simp) ?_
      refine AllReadyH.cons (o := ⟨some 32, _, _, _, _, _⟩) rfl (fun K hK => ?_) (AllReadyH.cons (o := ⟨some 7, _, _, _, _, _⟩) rfl (fun K hK => ?_) (AllReadyH.nil))
      · go_simp
        (go_at_call 42; (with_reducible refine (KW.out _ _ B_1.out X_1.out).mono ?_); rintro e w_2 ⟨os, ns, cs, ot, nt, ct, rfl, h1, h2, hb⟩; have B_2 := Lib.hid (FRn.out _ _ B_1.out hb); have X_2 := Lib.hid (X_1.out.below hb); have V2_2 := Lib.hid (And.intro h1.1 h2.1); clear h1 h2 hb)
        refine hK.out _ _ ?_ (fun hHeld => ?_)
        · (try dsimp only)
          exact KS.out _ B_2.out
        clear hK K
        (try simp only [Act.put, List.setIfInBounds_toArray, List.set_cons_zero, List.set_cons_succ])
        (refine wpAnyH_take (i := 6) (oi := ⟨some 26, _, _, _, _, _⟩) (v := ?v6_t5) rfl (by kernel_rfl) (by kernel_rfl) (by kernel_rfl) (fun _ _ _ h => h) (Or.inl ⟨by rfl, ?hy6_t5⟩) (by assumption) ?rest6_t5; (case hy6_t5 => ((intro w hSw); (try dsimp only at hSw); go_simp; first | done | (with_reducible rfl))))
        (try simp only [Act.put, List.setIfInBounds_toArray, List.set_cons_zero, List.set_cons_succ])
        (refine wpAnyH_take (i := 7) (oi := ⟨some 33, _, _, _, _, _⟩) (v := ?v7_t6) rfl (by kernel_rfl) (by kernel_rfl) (by kernel_rfl) (fun _ _ _ h => h) (Or.inl ⟨by rfl, ?hy7_t6⟩) (by assumption) ?rest7_t6; (case hy7_t6 => ((intro w hSw); (try dsimp only at hSw); go_simp; first | done | (with_reducible rfl))))
        (try simp only [Act.put, List.setIfInBounds_toArray, List.set_cons_zero, List.set_cons_succ])
        (refine wpAnyH_take (i := 8) (oi := ⟨some 34, _, _, _, _, _⟩) (v := ?v8_t7) rfl (by kernel_rfl) (by kernel_rfl) (by kernel_rfl) (fun _ _ _ h => h) (Or.inl ⟨by rfl, ?hy8_t7⟩) (by assumption) ?rest8_t7; (case hy8_t7 => ((intro w hSw); (try dsimp only at hSw); go_simp; first | done | (with_reducible rfl))))
        (try simp only [Act.put, List.setIfInBounds_toArray, List.set_cons_zero, List.set_cons_succ])
        refine wpAnyH_ready (rs := [9]) (by kernel_rfl) (by simp) ?_
        refine AllReadyH.cons (o := ⟨some 7, _, _, _, _, _⟩) rfl (fun K hK => ?_) (AllReadyH.nil)
        go_simp
        have AP : Hid ((∀ a, os = some a → a.block ≠ w_2.heap.size) ∧ (∀ a, ot = some a → a.block ≠ w_2.heap.size)) := Lib.hid (And.intro (fun a e => Nat.ne_of_lt (ld_lt (by rw [← e]; exact V2_2.out.1) HSL.out)) (fun a e => Nat.ne_of_lt (ld_lt (by rw [← e]; exact V2_2.out.2) (by show 0 < (stT p A B).length; rw [stT_len]; omega))))
        have Z_3 := Lib.hid (And.intro (Blk.new w_2 69 #[.slice none 0 0, .slice none 0 0, .int .i64 0]) (FRl.out _ B_2.out))
        have X_3 := Lib.hid (X_2.out.below (al_below (.cells #[.slice none 0 0, .slice none 0 0, .int .i64 0] 69)))
        have V2_3 := Lib.hid (And.intro (V2_2.out.1.below (al_below (.cells #[.slice none 0 0, .slice none 0 0, .int .i64 0] 69))) (V2_2.out.2.below (al_below (.cells #[.slice none 0 0, .slice none 0 0, .int .i64 0] 69))))
        have B_3 := Lib.hid (FRn.out _ _ B_2.out (al_below (.cells #[.slice none 0 0, .slice none 0 0, .int .i64 0] 69)))
        refine hK.out _ _ ?_ (fun hHeld => ?_)
        · (try dsimp only)
          exact KS.out _ B_3.out
        clear hK K
        generalize w_2.alloc (.cells #[.slice none 0 0, .slice none 0 0, .int .i64 0] 69) = w_3 at *
        (try simp only [Act.put, List.setIfInBounds_toArray, List.set_cons_zero, List.set_cons_succ])
        refine wpAnyH_ready (rs := [10]) (by kernel_rfl) (by simp) ?_
        refine AllReadyH.cons (o := ⟨none, _, _, _, _, _⟩) rfl (fun K hK => ?_) (AllReadyH.nil)
        obtain ⟨p0, p1, p2, pf0, pf1, pf2⟩ := blk3 Z_3.out.1
        go_simp
        refine hK.out _ _ ?_ (fun hHeld => ?_)
        · (try dsimp only)
          exact KSz.out _ _ _ _ _ B_3.out Z_3.out.2
        clear hK K
        (try simp only [Act.put, List.setIfInBounds_toArray, List.set_cons_zero, List.set_cons_succ])
        (refine wpAnyH_take (i := 11) (oi := ⟨some 8, _, _, _, _, _⟩) (v := ?v11_t8) rfl (by kernel_rfl) (by kernel_rfl) (by kernel_rfl) (fun _ _ _ h => h) (Or.inl ⟨by rfl, ?hy11_t8⟩) (by assumption) ?rest11_t8; (case hy11_t8 => ((intro w hSw); (try dsimp only at hSw); go_simp; first | done | (with_reducible rfl))))
        (try simp only [Act.put, List.setIfInBounds_toArray, List.set_cons_zero, List.set_cons_succ])
        refine wpAnyH_done (by kernel_rfl) ?_ _
        go_wp2
        go_meet
        exact ⟨_, _, _, _, _, _, _, rfl, ((Z_3.out.1.set_ 0 _).set_ 1 _).set_ 2 _, Lib.hid ⟨V2_3.out.1.setv3 AP.out.1, V2_3.out.2.setv3 AP.out.2⟩, Lib.hid (F0z.out _ _ _ _ _ (FRf.out _ B_3.out) (Nat.lt_trans L5.out Z_3.out.2))⟩
      · go_simp
        have Z_4 := Lib.hid (And.intro (Blk.new w_1 69 #[.slice none 0 0, .slice none 0 0, .int .i64 0]) (FRl.out _ B_1.out))
        have X_4 := Lib.hid (X_1.out.below (al_below (.cells #[.slice none 0 0, .slice none 0 0, .int .i64 0] 69)))
        have B_4 := Lib.hid (FRn.out _ _ B_1.out (al_below (.cells #[.slice none 0 0, .slice none 0 0, .int .i64 0] 69)))
        refine hK.out _ _ ?_ (fun hHeld => ?_)
        · (try dsimp only)
          exact KS.out _ B_4.out
        clear hK K
        generalize w_1.alloc (.cells #[.slice none 0 0, .slice none 0 0, .int .i64 0] 69) = w_4 at *
        (try simp only [Act.put, List.setIfInBounds_toArray, List.set_cons_zero, List.set_cons_succ])
        refine wpAnyH_ready (rs := [5]) (by kernel_rfl) (by simp) ?_
        refine AllReadyH.cons (o := ⟨some 32, _, _, _, _, _⟩) rfl (fun K hK => ?_) (AllReadyH.nil)
        go_simp
        (go_at_call 42; (with_reducible refine (KW.out _ _ B_4.out X_4.out).mono ?_); rintro e w_5 ⟨os, ns, cs, ot, nt, ct, rfl, h1, h2, hb⟩; have B_5 := Lib.hid (FRn.out _ _ B_4.out hb); have X_5 := Lib.hid (X_4.out.below hb); have Z_5 := Lib.hid (And.intro (Z_4.out.1.below hb Z_4.out.1.lt) Z_4.out.2); have V2_5 := Lib.hid (And.intro h1.1 h2.1); have AP : Hid ((∀ a, os = some a → a.block ≠ w_1.heap.size) ∧ (∀ a, ot = some a → a.block ≠ w_1.heap.size)) := Lib.hid (And.intro (fun a e => Nat.ne_of_gt (Nat.lt_of_lt_of_le Z_4.out.1.lt (h1.2 a e))) (fun a e => Nat.ne_of_gt (Nat.lt_of_lt_of_le Z_4.out.1.lt (h2.2 a e)))); clear h1 h2 hb)
        refine hK.out _ _ ?_ (fun hHeld => ?_)
        · (try dsimp only)
          exact KS.out _ B_5.out
        clear hK K
        (try simp only [Act.put, List.setIfInBounds_toArray, List.set_cons_zero, List.set_cons_succ])
        (refine wpAnyH_take (i := 6) (oi := ⟨some 26, _, _, _, _, _⟩) (v := ?v6_t9) rfl (by kernel_rfl) (by kernel_rfl) (by kernel_rfl) (fun _ _ _ h => h) (Or.inl ⟨by rfl, ?hy6_t9⟩) (by assumption) ?rest6_t9; (case hy6_t9 => ((intro w hSw); (try dsimp only at hSw); go_simp; first | done | (with_reducible rfl))))
        (try simp only [Act.put, List.setIfInBounds_toArray, List.set_cons_zero, List.set_cons_succ])
        (refine wpAnyH_take (i := 7) (oi := ⟨some 33, _, _, _, _, _⟩) (v := ?v7_t10) rfl (by kernel_rfl) (by kernel_rfl) (by kernel_rfl) (fun _ _ _ h => h) (Or.inl ⟨by rfl, ?hy7_t10⟩) (by assumption) ?rest7_t10; (case hy7_t10 => ((intro w hSw); (try dsimp only at hSw); go_simp; first | done | (with_reducible rfl))))
        (try simp only [Act.put, List.setIfInBounds_toArray, List.set_cons_zero, List.set_cons_succ])
        (refine wpAnyH_take (i := 8) (oi := ⟨some 34, _, _, _, _, _⟩) (v := ?v8_t11) rfl (by kernel_rfl) (by kernel_rfl) (by kernel_rfl) (fun _ _ _ h => h) (Or.inl ⟨by rfl, ?hy8_t11⟩) (by assumption) ?rest8_t11; (case hy8_t11 => ((intro w hSw); (try dsimp only at hSw); go_simp; first | done | (with_reducible rfl))))
        (try simp only [Act.put, List.setIfInBounds_toArray, List.set_cons_zero, List.set_cons_succ])
        refine wpAnyH_ready (rs := [10]) (by kernel_rfl) (by simp) ?_
        refine AllReadyH.cons (o := ⟨none, _, _, _, _, _⟩) rfl (fun K hK => ?_) (AllReadyH.nil)
        obtain ⟨p0, p1, p2, pf0, pf1, pf2⟩ := blk3 Z_5.out.1
        go_simp
        refine hK.out _ _ ?_ (fun hHeld => ?_)
        · (try dsimp only)
          exact KSz.out _ _ _ _ _ B_5.out Z_5.out.2
        clear hK K
        (try simp only [Act.put, List.setIfInBounds_toArray, List.set_cons_zero, List.set_cons_succ])
        (refine wpAnyH_take (i := 11) (oi := ⟨some 8, _, _, _, _, _⟩) (v := ?v11_t12) rfl (by kernel_rfl) (by kernel_rfl) (by kernel_rfl) (fun _ _ _ h => h) (Or.inl ⟨by rfl, ?hy11_t12⟩) (by assumption) ?rest11_t12; (case hy11_t12 => ((intro w hSw); (try dsimp only at hSw); go_simp; first | done | (with_reducible rfl))))
        (try simp only [Act.put, List.setIfInBounds_toArray, List.set_cons_zero, List.set_cons_succ])
        refine wpAnyH_done (by kernel_rfl) ?_ _
        go_wp2
        go_meet
        exact ⟨_, _, _, _, _, _, _, rfl, ((Z_5.out.1.set_ 0 _).set_ 1 _).set_ 2 _, Lib.hid ⟨V2_5.out.1.setv3 AP.out.1, V2_5.out.2.setv3 AP.out.2⟩, Lib.hid (F0z.out _ _ _ _ _ (FRf.out _ B_5.out) (Nat.lt_trans L5.out Z_5.out.2))⟩
    · go_simp
      have Z_6 := Lib.hid (And.intro (Blk.new w_0 69 #[.slice none 0 0, .slice none 0 0, .int .i64 0]) (FRl.out _ B_0.out))
      have B_6 := Lib.hid (FRn.out _ _ B_0.out (al_below (.cells #[.slice none 0 0, .slice none 0 0, .int .i64 0] 69)))
      refine hK.out _ _ ?_ (fun hHeld => ?_)
      · (try dsimp only)
        exact KS.out _ B_6.out
      clear hK K
      generalize w_0.alloc (.cells #[.slice none 0 0, .slice none 0 0, .int .i64 0] 69) = w_6 at *
      (try simp only [Act.put, List.setIfInBounds_toArray, List.set_cons_zero, List.set_cons_succ])
      refine wpAnyH_ready (rs := [4]) (by kernel_rfl) (by simp) ?_
      refine AllReadyH.cons (o := ⟨some 31, _, _, _, _, _⟩) rfl (fun K hK => ?_) (AllReadyH.nil)
      go_simp
      (go_at_call 43; (with_reducible refine (KL.out _).mono ?_); rintro e w_7 ⟨g_7, rfl, h1, hb⟩; have B_7 := Lib.hid (FRn.out _ _ B_6.out hb); have Z_7 := Lib.hid (And.intro (Z_6.out.1.below hb Z_6.out.1.lt) Z_6.out.2); have X_7 := Lib.hid h1; clear h1 hb)
      refine hK.out _ _ ?_ (fun hHeld => ?_)
      · (try dsimp only)
        exact KS.out _ B_7.out
      clear hK K
      (try simp only [Act.put, List.setIfInBounds_toArray, List.set_cons_zero, List.set_cons_succ])
      refine wpAnyH_ready (rs := [5]) (by kernel_rfl) (by simp) ?_
      refine AllReadyH.cons (o := ⟨some 32, _, _, _, _, _⟩) rfl (fun K hK => ?_) (AllReadyH.nil)
      go_simp
      (go_at_call 42; (with_reducible refine (KW.out _ _ B_7.out X_7.out).mono ?_); rintro e w_8 ⟨os, ns, cs, ot, nt, ct, rfl, h1, h2, hb⟩; have B_8 := Lib.hid (FRn.out _ _ B_7.out hb); have X_8 := Lib.hid (X_7.out.below hb); have Z_8 := Lib.hid (And.intro (Z_7.out.1.below hb Z_7.out.1.lt) Z_7.out.2); have V2_8 := Lib.hid (And.intro h1.1 h2.1); have AP : Hid ((∀ a, os = some a → a.block ≠ w_0.heap.size) ∧ (∀ a, ot = some a → a.block ≠ w_0.heap.size)) := Lib.hid (And.intro (fun a e => Nat.ne_of_gt (Nat.lt_of_lt_of_le Z_7.out.1.lt (h1.2 a e))) (fun a e => Nat.ne_of_gt (Nat.lt_of_lt_of_le Z_7.out.1.lt (h2.2 a e)))); clear h1 h2 hb)
      refine hK.out _ _ ?_ (fun hHeld => ?_)
      · (try dsimp only)
        exact KS.out _ B_8.out
      clear hK K
      (try simp only [Act.put, List.setIfInBounds_toArray, List.set_cons_zero, List.set_cons_succ])
      (refine wpAnyH_take (i := 6) (oi := ⟨some 26, _, _, _, _, _⟩) (v := ?v6_t13) rfl (by kernel_rfl) (by kernel_rfl) (by kernel_rfl) (fun _ _ _ h => h) (Or.inl ⟨by rfl, ?hy6_t13⟩) (by assumption) ?rest6_t13; (case hy6_t13 => ((intro w hSw); (try dsimp only at hSw); go_simp; first | done | (with_reducible rfl))))
      (try simp only [Act.put, List.setIfInBounds_toArray, List.set_cons_zero, List.set_cons_succ])
      (refine wpAnyH_take (i := 7) (oi := ⟨some 33, _, _, _, _, _⟩) (v := ?v7_t14) rfl (by kernel_rfl) (by kernel_rfl) (by kernel_rfl) (fun _ _ _ h => h) (Or.inl ⟨by rfl, ?hy7_t14⟩) (by assumption) ?rest7_t14; (case hy7_t14 => ((intro w hSw); (try dsimp only at hSw); go_simp; first | done | (with_reducible rfl))))
      (try simp only [Act.put, List.setIfInBounds_toArray, List.set_cons_zero, List.set_cons_succ])
      (refine wpAnyH_take (i := 8) (oi := ⟨some 34, _, _, _, _, _⟩) (v := ?v8_t15) rfl (by kernel_rfl) (by kernel_rfl) (by kernel_rfl) (fun _ _ _ h => h) (Or.inl ⟨by rfl, ?hy8_t15⟩) (by assumption) ?rest8_t15; (case hy8_t15 => ((intro w hSw); (try dsimp only at hSw); go_simp; first | done | (with_reducible rfl))))
      (try simp only [Act.put, List.setIfInBounds_toArray, List.set_cons_zero, List.set_cons_succ])
      refine wpAnyH_ready (rs := [10]) (by kernel_rfl) (by simp) ?_
      refine AllReadyH.cons (o := ⟨none, _, _, _, _, _⟩) rfl (fun K hK => ?_) (AllReadyH.nil)
      obtain ⟨p0, p1, p2, pf0, pf1, pf2⟩ := blk3 Z_8.out.1
      go_simp
      refine hK.out _ _ ?_ (fun hHeld => ?_)
      · (try dsimp only)
        exact KSz.out _ _ _ _ _ B_8.out Z_8.out.2
      clear hK K
      (try simp only [Act.put, List.setIfInBounds_toArray, List.set_cons_zero, List.set_cons_succ])
      (refine wpAnyH_take (i := 11) (oi := ⟨some 8, _, _, _, _, _⟩) (v := ?v11_t16) rfl (by kernel_rfl) (by kernel_rfl) (by kernel_rfl) (fun _ _ _ h => h) (Or.inl ⟨by rfl, ?hy11_t16⟩) (by assumption) ?rest11_t16; (case hy11_t16 => ((intro w hSw); (try dsimp only at hSw); go_simp; first | done | (with_reducible rfl))))
      (try simp only [Act.put, List.setIfInBounds_toArray, List.set_cons_zero, List.set_cons_succ])
      refine wpAnyH_done (by kernel_rfl) ?_ _
      go_wp2
      go_meet
      exact ⟨_, _, _, _, _, _, _, rfl, ((Z_8.out.1.set_ 0 _).set_ 1 _).set_ 2 _, Lib.hid ⟨V2_8.out.1.setv3 AP.out.1, V2_8.out.2.setv3 AP.out.2⟩, Lib.hid (F0z.out _ _ _ _ _ (FRf.out _ B_8.out) (Nat.lt_trans L5.out Z_8.out.2))⟩
  case rest =>
    as_aux_lemma =>
    obtain ⟨T7, oc, nc, cc, od, nd, cd, rfl, hb7, HV, HF⟩ := hcut
    obtain ⟨⟨x0, x1⟩, hz⟩ := F0k.out _ HF.out
    obtain ⟨y0, y1, y2, _⟩ := blk3 hb7
    clear hb7 hz
    go_wp2_with (go_at_call 44; (with_reducible refine (KCO.out _ _ _ (F0b.out _ HF.out) HV.out.1 HV.out.2).mono ?_); rintro e w9 ⟨os, cs, oe, ce, rfl, h1, h2, hb⟩; have F9 := Lib.hid (F0n.out _ _ HF.out hb); have O9 := Lib.hid (And.intro (own_base h1 (F0b.out _ HF.out).size) (own_base h2 (F0b.out _ HF.out).size)); obtain ⟨⟨x0, x1⟩, hz⟩ := F0k.out _ F9.out; obtain ⟨z0, z1, zf0, zf1⟩ := blk2 hz; clear h1 h2 hb hz)
    have R := someT_set O9.out.1 O9.out.2 (F0k.out _ F9.out).2 (.slice os S1.length cs) (.slice oe D1.length ce)
    refine bodyPost_ret (v := .tuple #[.agg #[.slice os S1.length cs, .slice oe D1.length ce], .int .i64 0]) (by simp [results, Try.results14, go_sem, z0, z1]) rfl ?_
    exact ⟨os, cs, oe, ce, rfl, R.1, R.2, ((F0b.out _ F9.out).setCell (p := ⟨w.heap.size + 1, 0, none⟩) (Nat.le_succ _) _).setCell (p := ⟨w.heap.size + 1, 1, none⟩) (Nat.le_succ _) _⟩
end Go.Proofs.Ytlidkeabadioeaa
namespace Go.Proofs.Ytlidkeabadioeaa

theorem smA_pick {d : Nat → Int} {j : Nat} : ∀ {n : Nat}, j < n → (∀ k, k < n → k ≠ j → d k = 0) → smA d n = d j
  | n + 1, hj, h => by
    show smA d n + d n = d j
    by_cases e : j = n
    · subst e
      rw [smA_same (d' := fun _ => 0) (fun k hk => h k (by omega) (by omega)), smA_none, Int.zero_add]
    · rw [smA_pick (n := n) (by omega) (fun k hk hne => h k (by omega) hne), h n (by omega) (by omega), Int.add_zero]
section
variable {r n c : Nat}
theorem two_fit : mfit [(r : Int), (n : Int)] [(n : Int), (c : Int)] = true := by simp [mfit]
theorem two_msh : msh [(r : Int), (n : Int)] [(n : Int), (c : Int)] = [(r : Int), (c : Int)] := rfl
theorem two_mun : mun [(r : Int), (n : Int)] [(n : Int), (c : Int)] = r * c := by
  show ((r : Int) * ((c : Int) * 1)).toNat = _
  rw [Int.mul_one, ← Int.natCast_mul, Int.toNat_natCast]
theorem two_mrw : mrw [(r : Int), (n : Int)] [(n : Int), (c : Int)] = (r : Int) := by
  show (r : Int) * 1 = _; rw [Int.mul_one]
/-- A word of a product of two matrices. -/
theorem mux_two (da db : List Int) {i j : Nat} (hi : i < r) (hj : j < c) : mux [(r : Int), (n : Int)] da [(n : Int), (c : Int)] db (i * c + j) = smA (fun k => da.getD (i * n + k) 0 * db.getD (k * c + j) 0) n := by
  unfold mux
  rw [two_mrw]
  show mN da db n c r (i * c + j) = _
  rw [mN_at hj, Nat.div_eq_of_lt hi]
  unfold mS
  exact smA_same (fun k _ => by rw [Nat.zero_mul, Nat.zero_add])
theorem tn1_get {A B j i : Nat} (ds : List Int) (hj : j < B) (hi : i < A) : (tnn 1 A B ds).getD (j * A + i) 0 = ds.getD (i * B + j) 0 := by
  have := tnn_get (K := 1) (x := 0) ds (by omega) hj hi
  rwa [Nat.zero_mul, Nat.zero_mul, Nat.zero_add, Nat.zero_add] at this
/-- Each place of a table is a row's and a column's. -/
theorem split2 {r c k : Nat} (h : k < r * c) : ∃ i j, i < r ∧ j < c ∧ k = i * c + j := by
  obtain ⟨x, i, j, hx, hi, hj, e⟩ := split3 (K := 1) (B := r) (A := c) (k := k) (by omega)
  obtain rfl : x = 0 := by omega
  exact ⟨i, j, hi, hj, by rw [e, Nat.zero_mul, Nat.zero_add]⟩
/-- By 1 on the diagonal. -/
theorem turns_one {da ods : List Int} {f : Nat} (ta : tnb [(r : Int), (n : Int)] da = true) (ho : ∀ k j, k < n → j < n → ods.getD (k * n + j) 0 = if k = j then 2 ^ f else 0) :
    mue [(r : Int), (n : Int)] da [(n : Int), (n : Int)] ods f = 0 ∧ muw [(r : Int), (n : Int)] da [(n : Int), (n : Int)] ods f = da := by
  obtain ⟨h1, h2, h3⟩ := tnb_parts ta
  have hl : da.length = r * n := by
    have : (da.length : Int) = (r : Int) * ((n : Int) * 1) := h2
    rw [Int.mul_one, ← Int.natCast_mul] at this; omega
  have hw : ∀ k, k < r * n → rd (mux [(r : Int), (n : Int)] da [(n : Int), (n : Int)] ods k) (2 ^ f) = da.getD k 0 := fun k hk => by
    obtain ⟨i, j, hi, hj, rfl⟩ := split2 hk
    rw [mux_two da ods hi hj, smA_pick (d := fun k => da.getD (i * n + k) 0 * ods.getD (k * n + j) 0) hj (fun k hk hne => by show da.getD (i * n + k) 0 * ods.getD (k * n + j) 0 = 0; rw [ho k j hk hj, if_neg hne, Int.mul_zero])]
    show rd (da.getD (i * n + j) 0 * ods.getD (j * n + j) 0) (2 ^ f) = _
    rw [ho j j hj hj, if_pos rfl, rd_whole _ (pow_ne f)]
  constructor
  · refine mue_yes two_fit (by rw [two_msh]; exact h1) (fun k hk => ?_)
    rw [two_mun] at hk
    rw [hw k hk]
    exact wds_wd h3 (by omega)
  · refine ext_getD (by rw [muw_len, two_mun, hl]) (fun k hk => ?_)
    rw [muw_len] at hk
    rw [muw_at hk]
    rw [two_mun] at hk
    rw [hw k hk]
    exact if_pos (wds_wd h3 (by omega))
/-- Both turned, the other way round. -/
theorem mux_turn (da db : List Int) {i j : Nat} (hi : i < r) (hj : j < c) : mux [(c : Int), (n : Int)] (tnn 1 n c db) [(n : Int), (r : Int)] (tnn 1 r n da) (j * r + i) = mux [(r : Int), (n : Int)] da [(n : Int), (c : Int)] db (i * c + j) := by
  rw [mux_two _ _ hj hi, mux_two _ _ hi hj]
  refine smA_same (fun k hk => ?_)
  rw [tn1_get db hj hk, tn1_get da hk hi, Int.mul_comm]
theorem turns_turn {da db : List Int} {f : Nat} (h : mue [(r : Int), (n : Int)] da [(n : Int), (c : Int)] db f = 0) :
    mue [(c : Int), (n : Int)] (tnn 1 n c db) [(n : Int), (r : Int)] (tnn 1 r n da) f = 0 ∧ muw [(c : Int), (n : Int)] (tnn 1 n c db) [(n : Int), (r : Int)] (tnn 1 r n da) f = tnn 1 r c (muw [(r : Int), (n : Int)] da [(n : Int), (c : Int)] db f) := by
  obtain ⟨h1, h2, h3⟩ := mue_ok h
  rw [two_msh] at h2
  constructor
  · refine mue_yes two_fit (by rw [two_msh]; exact may_swap (p := []) h2) (fun k hk => ?_)
    rw [two_mun] at hk
    obtain ⟨j, i, hj, hi, rfl⟩ := split2 hk
    rw [mux_turn _ _ hi hj]
    exact h3 _ (by rw [two_mun]; exact row_lt hi hj)
  · refine ext_getD (by rw [muw_len, two_mun, tnn_len, Nat.one_mul]) (fun k hk => ?_)
    rw [muw_len] at hk
    rw [muw_at hk]
    rw [two_mun] at hk
    obtain ⟨j, i, hj, hi, rfl⟩ := split2 hk
    rw [mux_turn _ _ hi hj, tn1_get _ hj hi, muw_at (by rw [two_mun]; exact row_lt hi hj)]
theorem mid_at {ls : List Int} {lo m k : Nat} (h : k < m) : ((ls.drop lo).take m).getD k 0 = ls.getD (lo + k) 0 := mid_getD h
theorem drop_take_len {ls : List Int} {lo m : Nat} (h : lo + m ≤ ls.length) : ((ls.drop lo).take m).length = m := by simp; omega
/-- One row of a product. -/
theorem turns_row {da db : List Int} {f x : Nat} (hx : x < r) (h : mue [(r : Int), (n : Int)] da [(n : Int), (c : Int)] db f = 0) (mb : may [(n : Int), (c : Int)] = true) :
    mue [((1 : Nat) : Int), (n : Int)] ((da.drop (x * n)).take n) [(n : Int), (c : Int)] db f = 0 ∧ muw [((1 : Nat) : Int), (n : Int)] ((da.drop (x * n)).take n) [(n : Int), (c : Int)] db f = ((muw [(r : Int), (n : Int)] da [(n : Int), (c : Int)] db f).drop (x * c)).take c := by
  obtain ⟨h1, h2, h3⟩ := mue_ok h
  have e : ∀ j, j < c → mux [((1 : Nat) : Int), (n : Int)] ((da.drop (x * n)).take n) [(n : Int), (c : Int)] db j = mux [(r : Int), (n : Int)] da [(n : Int), (c : Int)] db (x * c + j) := fun j hj => by
    have q := mux_two (r := 1) (n := n) (c := c) ((da.drop (x * n)).take n) db (i := 0) (j := j) (by omega) hj
    rw [Nat.zero_mul, Nat.zero_add] at q
    rw [q, mux_two da db hx hj]
    exact smA_same (fun k hk => by rw [Nat.zero_mul, Nat.zero_add, mid_at hk])
  have hc1 : 1 ≤ (c : Int) ∧ (c : Int) ≤ 4096 := may_dim mb (i := 1) (by simp)
  constructor
  · refine mue_yes two_fit ?_ (fun k hk => ?_)
    · rw [two_msh]
      refine (may_iff _).2 ⟨by simp, fun d hd => ?_, ?_⟩
      · simp only [List.mem_cons, List.not_mem_nil, or_false] at hd
        rcases hd with rfl | rfl <;> omega
      · show ((1 : Nat) : Int) * ((c : Int) * 1) ≤ 65536; omega
    · rw [two_mun, Nat.one_mul] at hk
      rw [e k hk]
      exact h3 _ (by rw [two_mun]; exact blk_lt hx hk)
  · have hlen : (muw [(r : Int), (n : Int)] da [(n : Int), (c : Int)] db f).length = r * c := by rw [muw_len, two_mun]
    have hle : x * c + c ≤ r * c := by
      have : (x + 1) * c ≤ r * c := Nat.mul_le_mul_right c hx
      rwa [Nat.add_mul, Nat.one_mul] at this
    refine ext_getD (by rw [muw_len, two_mun, Nat.one_mul, drop_take_len (by rw [hlen]; exact hle)]) (fun k hk => ?_)
    rw [muw_len] at hk
    rw [muw_at hk]
    rw [two_mun, Nat.one_mul] at hk
    rw [mid_at hk, e k hk, muw_at (by rw [two_mun]; exact blk_lt hx hk)]
end
section
variable {K r n c : Nat}
theorem bat_at {a da b db : List Int} {f N x : Nat} {a' da' b' db' : List Int} (h : mue a da b db f = 0) (hN : mun a b = K * N) (hN' : mun a' b' = N) (hx : x < K) (hfit : mfit a' b' = true) (hm : may (msh a' b') = true) (e : ∀ k, k < N → mux a' da' b' db' k = mux a da b db (x * N + k)) :
    mue a' da' b' db' f = 0 ∧ muw a' da' b' db' f = ((muw a da b db f).drop (x * N)).take N := by
  obtain ⟨_, _, h3⟩ := mue_ok h
  have hle : x * N + N ≤ K * N := by
    have : (x + 1) * N ≤ K * N := Nat.mul_le_mul_right N hx
    rwa [Nat.add_mul, Nat.one_mul] at this
  constructor
  · exact mue_yes hfit hm (fun k hk => by rw [hN'] at hk; rw [e k hk]; exact h3 _ (by rw [hN]; exact blk_lt hx hk))
  · refine ext_getD (by rw [muw_len, hN', drop_take_len (by rw [muw_len, hN]; exact hle)]) (fun k hk => ?_)
    rw [muw_len] at hk
    rw [muw_at hk]
    rw [hN'] at hk
    rw [mid_at hk, e k hk, muw_at (by rw [hN]; exact blk_lt hx hk)]
end
end Go.Proofs.Ytlidkeabadioeaa
namespace Go.Proofs.Ytlidkeabadioeaa
open Go.RowKit
theorem ff_any (i : Int) (w : World) : Calls Try.prog 13 #[.int .i64 i] w fun e w' => e = .returned (.int .i64 (8 + i % 18446744073709551616 % 25)) ∧ w = w' := by
  have C := Lib.hid (fun W : World => within_any i 25 W (by decide) (by decide))
  have e1 : wrap64 (8 + i % 18446744073709551616 % 25) = 8 + i % 18446744073709551616 % 25 := IntWalk.wrap64_in _ ⟨by omega, by omega⟩
  have E := Lib.hid e1
  clear e1
  generalize i % 18446744073709551616 % 25 = r at *
  go_enter Try.func13, Try.ntmps13
  go_wp2_with (go_at_call 20; (with_reducible refine (C.out _).mono ?_); rintro e w' ⟨rfl, rfl⟩)
  go_ret
  exact ⟨by show Ending.returned (.int .i64 (wrap64 (8 + r))) = _; rw [E.out], rfl⟩
end Go.Proofs.Ytlidkeabadioeaa
namespace Go.Proofs.Ytlidkeabadioeaa
open Go.RowKit Go.Shelf

theorem Ld.of_own {W : World} {base c : Nat} {o : Option Addr} {e : TypeId} {ls : List Int} (h : W.ownsRow base e 1 (.slice o ls.length c) ls.length (ints ls)) : Ld W (.slice o ls.length c) ls := by
  obtain ⟨_, _, e1, h3⟩ := Ld.of_owns h
  simp only [Value.slice.injEq] at e1
  obtain ⟨rfl, _, rfl⟩ := e1
  exact h3
theorem Ld.of_own' {W : World} {base n c : Nat} {o : Option Addr} {e : TypeId} {ls : List Int} (h : W.ownsRow base e 1 (.slice o n c) n (ints ls)) (hn : ls.length = n) : Ld W (.slice o n c) ls := by
  subst hn; exact Ld.of_own h
/-- The n-th number's cell. -/
theorem ld_at {W : World} {o : Option Addr} {n c k : Nat} {ls : List Int} (h : Ld W (.slice o n c) ls) (hk : k < ls.length) : ∃ g f, o = some ⟨g, f, none⟩ ∧ W.cell? ⟨g, f + k, none⟩ = some (.int .i64 (ls.getD k 0)) := by
  obtain ⟨o2, c2, e, _, h2⟩ := h
  simp only [Value.slice.injEq] at e
  obtain ⟨rfl, _, rfl⟩ := e
  obtain ⟨g, f, e1, _, h4⟩ := h2 k hk
  exact ⟨g, f, e1, h4⟩
/-- A told tensor, its lists' lengths by name. -/
def TyL (W : World) (E : Int) (S : List Int) (ms : Nat) (D : List Int) (md : Nat) (e : Ending) (w' : World) : Prop := ∃ os cs od cd, e = .returned (.tuple #[.agg #[.slice os ms cs, .slice od md cd], .int .i64 E]) ∧ Ld w' (.slice os ms cs) S ∧ Ld w' (.slice od md cd) D ∧ Below W.heap.size W w'
theorem tyL_of {W w' : World} {E : Int} {S D : List Int} {ms md : Nat} {e : Ending} (hs : ms = S.length) (hd : md = D.length) (h : SomeT W E S D e w') : TyL W E S ms D md e w' := by
  subst hs hd
  obtain ⟨o, c, o2, c2, rfl, h1, h2, h3⟩ := ty_of h
  exact ⟨o, c, o2, c2, rfl, h1, h2, h3⟩
theorem ld_nod {W : World} {g n : Nat} (h : Blk W g 2 (ints (nod n)).toArray) : Ld W (.slice (some ⟨g, 0, none⟩) n n) (nod n) := by
  have q := Ld.of_blk (c := n) h (by simp [nod])
  rwa [show (nod n).length = n by simp [nod]] at q
theorem unl_muw_len (a da b db : List Int) (f : Nat) : (unl (mue a da b db f) (muw a da b db f)).length ≤ 65536 := by
  unfold unl
  split
  · next h => rw [muw_len]; exact (mun_msh (mue_ok h).2.1).2
  · exact Nat.zero_le _
theorem muw_wd (a da b db : List Int) (f m : Nat) : wd ((muw a da b db f).getD m 0) = true := by
  by_cases h : m < mun a b
  · rw [muw_at h]; exact wd_tw _
  · rw [getD_past (by rw [muw_len]; omega)]; decide
theorem wd_pow' {f : Nat} (h : fb f = true) : wd (2 ^ f) = true := by
  unfold fb at h
  simp only [decide_eq_true_eq] at h
  have h2 : (2 : Nat) ^ f ≤ 2 ^ 32 := Nat.pow_le_pow_right (by decide) (by omega)
  have h3 : (0 : Int) < 2 ^ f := Int.pow_pos (by decide)
  have h4 : ((2 ^ f : Nat) : Int) = 2 ^ f := by push_cast; rfl
  have h5 : (2 : Nat) ^ 32 = 4294967296 := by decide
  exact wd_mk (by omega)
theorem wrap_pow1 {f : Nat} (h : fb f = true) : wrap64 (2 ^ f) = 2 ^ f := by
  have := wd_bd (wd_pow' h)
  generalize (2 : Int) ^ f = x at *
  exact IntWalk.wrap64_in x ⟨by omega, by omega⟩
theorem wrap_pow2 {f : Nat} (h : fb f = true) : IntKind.i64.wrap (2 ^ f) = 2 ^ f := by
  have := wd_bd (wd_pow' h)
  generalize (2 : Int) ^ f = x at *
  exact IntWalk.i64_in x ⟨by omega, by omega⟩
theorem nat_wrap {a b c : Nat} (h : c = a * b) (hc : c ≤ 65536) : wrap64 ((a : Int) * (b : Int)) = (c : Int) ∧ IntKind.i64.wrap ((a : Int) * (b : Int)) = (c : Int) := by
  rw [← Int.natCast_mul, ← h]
  exact ⟨IntWalk.wrap64_in _ (by omega), IntWalk.i64_in _ (by omega)⟩
theorem nat_wrap_add {a b c : Nat} (h : c = a + b) (hc : c ≤ 65536) : wrap64 ((a : Int) + (b : Int)) = (c : Int) ∧ IntKind.i64.wrap ((a : Int) + (b : Int)) = (c : Int) := by
  rw [← Int.natCast_add, ← h]
  exact ⟨IntWalk.wrap64_in _ (by omega), IntWalk.i64_in _ (by omega)⟩
theorem ld_cell {W : World} {g f n c k : Nat} {ls : List Int} (h : Ld W (.slice (some ⟨g, f, none⟩) n c) ls) (hk : k < ls.length) : W.cell? ⟨g, f + k, none⟩ = some (.int .i64 (ls.getD k 0)) := by
  obtain ⟨g', f', e, h2⟩ := ld_at h hk
  simp only [Option.some.injEq, Addr.mk.injEq, and_true] at e
  obtain ⟨rfl, rfl⟩ := e
  exact h2
theorem nat_wrap_one {a c : Nat} (h : c = a + 1) (hc : c ≤ 65536) : wrap64 ((a : Int) + 1) = (c : Int) ∧ IntKind.i64.wrap ((a : Int) + 1) = (c : Int) := by
  have e : (a : Int) + 1 = (c : Int) := by omega
  rw [e]
  exact ⟨IntWalk.wrap64_in _ (by omega), IntWalk.i64_in _ (by omega)⟩
theorem ld_cap {W : World} {o : Option Addr} {n c : Nat} {ls : List Int} (h : Ld W (.slice o n c) ls) : ls.length ≤ c := by
  obtain ⟨o2, c2, e, hc, _⟩ := h
  simp only [Value.slice.injEq] at e
  obtain ⟨_, _, rfl⟩ := e
  exact hc
theorem ld_part {W : World} {g f L c lo N : Nat} {ls : List Int} (h : Ld W (.slice (some ⟨g, f, none⟩) L c) ls) (hl : lo + N ≤ ls.length) : Ld W (.slice (some ⟨g, f + lo, none⟩) N (c - lo)) ((ls.drop lo).take N) := by
  have hc := ld_cap h
  have hlen : ((ls.drop lo).take N).length = N := by simp; omega
  refine ⟨_, _, by rw [hlen], by rw [hlen]; omega, fun i hi => ?_⟩
  rw [hlen] at hi
  obtain ⟨o2, c2, e, _, hx⟩ := h
  simp only [Value.slice.injEq] at e
  obtain ⟨rfl, _, _⟩ := e
  obtain ⟨b, f', e, hb, hcell⟩ := hx (lo + i) (by omega)
  simp only [Option.some.injEq, Addr.mk.injEq, and_true] at e
  obtain ⟨rfl, rfl⟩ := e
  refine ⟨g, f + lo, rfl, hb, ?_⟩
  rw [show f + lo + i = f + (lo + i) by omega, hcell, mid_getD hi]
theorem run_part {P : Program} {t e : TypeId} {i : TypeInfo} (hu : P.underlying t = some (.slice e)) (hi : P.info? e = some i) (hs : i.size = 1) (g f L c lo hi' N : Nat) (h : lo + N = hi') (hc : hi' ≤ c) (h0 : 1 ≤ N) (wx : World) :
    (Instr.slice t (.slice (some ⟨g, f, none⟩) L c) (some (.int .i64 (lo : Int))) (some (.int .i64 (hi' : Int))) none).run P wx = .ok (.slice (some ⟨g, f + lo, none⟩) N (c - lo)) wx := by
  have a3 : ¬ c = lo := by omega
  have a4 : hi' - lo = N := by omega
  have a6 : lo ≤ hi' := by omega
  simp [Instr.slice, run_underlying hu, Instr.sliceBounds, Instr.sliceBound, asIntOf, sizeOf, typeInfo, hi, hs, Addr.add, hc, a6, a3, a4]
theorem info64 : Try.prog.info? 2 = some ((Try.prog.info? 2).getD default) ∧ ((Try.prog.info? 2).getD default).size = 1 := by
  obtain ⟨i, h1, _, h2, _⟩ := info_parts infoW
  rw [h1]
  exact ⟨rfl, h2⟩
theorem eqw_same (va vb : Value) (l : List Int) (W : World) (ha : Ld W va l) (hb : Ld W vb l) (hl : l.length ≤ 17592186044416) : Calls Try.prog 21 #[va, vb] W fun e w' => e = .returned (.bool true) ∧ Below W.heap.size W w' := by
  have C4 := eqw_any va vb l l W ha hb hl hl
  rwa [show decide (l = l) = true by simp] at C4
theorem row_tnb {n lo : Nat} {da : List Int} (h1 : 1 ≤ n) (h2 : n ≤ 40) (h3 : lo + n ≤ da.length) (h4 : wds da = true) : tnb [((1 : Nat) : Int), (n : Int)] ((da.drop lo).take n) = true := by
  refine tnb_of ((may_iff _).2 ⟨by simp, fun d hd => ?_, ?_⟩) ?_ (fun k hk => wds_wd (wds_mid h4 h3) hk)
  · simp only [List.mem_cons, List.not_mem_nil, or_false] at hd
    rcases hd with rfl | rfl <;> omega
  · show ((1 : Nat) : Int) * ((n : Int) * 1) ≤ 65536; omega
  · rw [drop_take_len h3]; show (n : Int) = ((1 : Nat) : Int) * ((n : Int) * 1); omega
theorem one_tnb {n : Nat} {L : List Int} {O : Int} (h1 : 1 ≤ n) (h2 : n ≤ 40) (hl : L.length = n * n) (hO : wd O = true) (h : ∀ k j, k < n → j < n → L.getD (k * n + j) 0 = if k = j then O else 0) : tnb [(n : Int), (n : Int)] L = true := by
  have hnn : n * n ≤ 1600 := Nat.mul_le_mul h2 h2
  have hp : prod [(n : Int), (n : Int)] = ((n * n : Nat) : Int) := by show (n : Int) * ((n : Int) * 1) = _; push_cast; rw [Int.mul_one]
  refine tnb_of ((may_iff _).2 ⟨by simp, fun d hd => ?_, ?_⟩) (by rw [hp, hl]) (fun k hk => ?_)
  · simp only [List.mem_cons, List.not_mem_nil, or_false] at hd
    rcases hd with rfl | rfl <;> omega
  · rw [hp]; omega
  · rw [hl] at hk
    obtain ⟨a, b, ha, hb, rfl⟩ := split2 hk
    rw [h a b ha hb]
    split
    · exact hO
    · decide
theorem two_of {sh : List Int} (h : sh.length = 2) (hm : may sh = true) : ∃ A B : Nat, sh = [(A : Int), (B : Int)] := by
  obtain ⟨x, y, rfl⟩ : ∃ x y, sh = [x, y] := by
    match sh, h with
    | [x, y], _ => exact ⟨x, y, rfl⟩
  have h1 : 1 ≤ x := (may_dim hm (i := 0) (by simp)).1
  have h2 : 1 ≤ y := (may_dim hm (i := 1) (by simp)).1
  exact ⟨x.toNat, y.toNat, by rw [Int.toNat_of_nonneg (by omega), Int.toNat_of_nonneg (by omega)]⟩
theorem diag_step {L : List Int} {n j a b : Nat} {O : Int} (hl : j * n + j < L.length) (hj : j < n) (ha : a < n) (hb : b < n) (h : L.getD (a * n + b) 0 = if a = b ∧ a < j then O else 0) : (L.set (j * n + j) O).getD (a * n + b) 0 = if a = b ∧ a < j + 1 then O else 0 := by
  by_cases e : a = j ∧ b = j
  · obtain ⟨rfl, rfl⟩ := e
    rw [set_getD_self hl, if_pos ⟨rfl, by omega⟩]
  · have hne : j * n + j ≠ a * n + b := fun q => by
      rcases Nat.lt_trichotomy a j with g | g | g
      · have := Nat.mul_le_mul_right n (show a + 1 ≤ j from g); rw [Nat.add_mul, Nat.one_mul] at this; omega
      · subst g; exact e ⟨rfl, by omega⟩
      · have := Nat.mul_le_mul_right n (show j + 1 ≤ a from g); rw [Nat.add_mul, Nat.one_mul] at this; omega
    rw [set_getD_ne hne, h]
    by_cases g : a = b
    · subst g
      have : a ≠ j := fun e2 => e ⟨e2, e2⟩
      by_cases g2 : a < j
      · rw [if_pos ⟨rfl, g2⟩, if_pos ⟨rfl, by omega⟩]
      · rw [if_neg (by omega), if_neg (by omega)]
    · rw [if_neg (fun q => g q.1), if_neg (fun q => g q.1)]
end Go.Proofs.Ytlidkeabadioeaa
