
import Derived.Test.YtmafgdinegboeaaGreatM01
import Derived.Test.YtmafgdinegboeaaGreatM04
import Derived.Test.YtmafgdinegboeaaGreatM08
import Derived.Test.YtmafgdinegboeaaGreatM11
import Derived.Test.YtmafgdinegboeaaGreatM14
namespace Go.Proofs.YtmafgdinegboeaaGreat
open Go Go.RowKit Go.Shelf
attribute [local go_sem] Oper.semAt_some

theorem close3_any (s : Int) (n : Nat) (w : World) (hs : R s) (h : n ≤ 126) : Calls Tryz.prog 90 #[Wv s, .int .i64 n] w fun e w' => e = .returned (.tuple #[.int .i64 (tw (rd s (2 ^ n))), .int .i64 (te (rd s (2 ^ n)))]) ∧ Below w.heap.size w w' := close_any s n w hs h

theorem eachm_end {X : World} {b c D base n : Nat} {e : TypeId} {v : Value} {xs : List Value} {cs ds : Array Value} {o : Obj} (hO : X.ownsRow base e 1 v n xs) (hb : Blk X b 26 cs) (hc : Blk X c 41 ds) (hbc : c ≠ b) (hD : X.heap[D]? = some o) (ho : o.isCells = false) (hne : e ≠ 26) (hne2 : e ≠ 41) (u1 u2 u3 : Value) (o' : Obj) :
    ((((X.setCell ⟨b, 0, none⟩ u1).setCell ⟨b, 1, none⟩ u2).setCell ⟨c, 0, none⟩ u3).putObj D o').ownsRow base e 1 v n xs := by
  have h1 := hO.kept (grown_set X ⟨b, 0, none⟩ u1) (.inr (tens_not_row hO hb hne))
  have hb1 := hb.set_ 0 u1
  have h2 := h1.kept (grown_set _ ⟨b, 1, none⟩ u2) (.inr (tens_not_row h1 hb1 hne))
  have hc2 : Blk ((X.setCell ⟨b, 0, none⟩ u1).setCell ⟨b, 1, none⟩ u2) c 41 ds := (hc.far (p := ⟨b, 0, none⟩) hbc u1).far (p := ⟨b, 1, none⟩) hbc u2
  have h3 := h2.kept (grown_set _ ⟨c, 0, none⟩ u3) (.inr (tens_not_row h2 hc2 hne2))
  have hDb : D ≠ b := by rintro rfl; rw [show X.heap[D]? = _ from hb] at hD; cases hD; cases ho
  have hDc : D ≠ c := by rintro rfl; rw [show X.heap[D]? = _ from hc] at hD; cases hD; cases ho
  exact own_kept h3 (grownBy_putObj' _ D o') (fun r er => by cases er; exact ⟨o, ((Below.heap_setCell _ _ _ _ hDc).trans ((Below.heap_setCell _ _ _ _ hDb).trans (Below.heap_setCell _ _ _ _ hDb))).trans hD, ho⟩)
theorem own_low {W0 X : World} {base n T : Nat} {e : TypeId} {v : Value} {xs : List Value} (h : W0.ownsRow base e 1 v n xs) (hb : Below T W0 X) (hg : ∀ g, v.ownBlock = some g → g < T) : X.ownsRow base e 1 v n xs := by
  refine ⟨h.1, ?_⟩
  rcases h.2 with e | ⟨g, cap, cur, rfl, hb', hh, rest⟩
  · exact .inl e
  · exact .inr ⟨g, cap, cur, rfl, hb', (hb.block g (hg g rfl)).trans hh, rest⟩
def MSt (da db : List Int) (D C f : Nat) (W0 : World) (T0 : Nat) (vS : Value) (l : List (Nat × Nat)) (q : Nat) (ex : List Int) (W : World) : Prop :=
  ∃ vd, Blk W T0 26 #[vS, vd] ∧ W.ownsRow W0.heap.size 2 1 vd (dat da db D C f l ++ ex).length (ints (dat da db D C f l ++ ex)) ∧ Blk W (T0 + 1) 3 #[.int .i64 (q : Nat)] ∧ Below T0 W0 W ∧ W0.heap.size ≤ W.heap.size ∧ okr da db D C f l
def MEr (da db : List Int) (D C Rb f : Nat) (w : World) (L : List Nat) (W : World) : Prop :=
  ∃ n j, n < L.length * Rb ∧ j < C ∧ okr da db D C f (rows Rb L n) ∧ (∀ i, i < j → er3 da db D C f (L.getD (n / Rb) 0) n i = 0) ∧ er3 da db D C f (L.getD (n / Rb) 0) n j ≠ 0 ∧
    Blk W (w.heap.size + 3) 26 #[.slice none 0 0, .slice none 0 0] ∧ Blk W (w.heap.size + 4) 41 #[.int .i64 (er3 da db D C f (L.getD (n / Rb) 0) n j)] ∧ Below w.heap.size w W
theorem mst_own {α : Type} (da db : List Int) (D C f : Nat) (W0 : World) (T0 : Nat) (vS : Value) {ll : List α → List (Nat × Nat)} {qq : List α → Nat} (hT : T0 + 1 < W0.heap.size) : OwnFrom W0.heap.size (fun (pre : List α) W => MSt da db D C f W0 T0 vS (ll pre) (qq pre) [] W) := by
  rintro s X Y row ⟨vd, h1, h2, h3, h4, h5, h6⟩ hg hr
  have hc : ∀ r, row = some r → ∃ o : Obj, X.heap[r]? = some o ∧ o.isCells = false := fun r e => (hr r e).2
  exact ⟨vd, blk_own (β := Unit) T0 _ (fun _ => _) () X Y row h1 hg hc, own_kept h2 hg hc, blk_own (β := Unit) (T0 + 1) _ (fun _ => _) () X Y row h3 hg hc, h4.grown hg (by omega) (fun k e => by have := (hr k e).1; omega), Nat.le_trans h5 hg.size, h6⟩
theorem mer_own {α : Type} (da db : List Int) (D C Rb f : Nat) {W0 w : World} (g : α → Nat) (hB : w.heap.size ≤ W0.heap.size) (c : Code) : OwnFrom W0.heap.size (fun (pre : List α) W => c = .ret ∧ MEr da db D C Rb f w (pre.map g) W) := by
  rintro s X Y row ⟨e, n, j, h1, h2, h3, h4, h5, h6, h7, h8⟩ hg hr
  have hc : ∀ r, row = some r → ∃ o : Obj, X.heap[r]? = some o ∧ o.isCells = false := fun r e => (hr r e).2
  exact ⟨e, n, j, h1, h2, h3, h4, h5, blk_own (β := Unit) _ _ (fun _ => _) () X Y row h6 hg hc, blk_own (β := Unit) _ _ (fun _ => _) () X Y row h7 hg hc, h8.grown hg h8.size (fun k e => by have := (hr k e).1; omega)⟩

def MKp (C1 : Nat) (W0 W V0 W' : World) : Prop := KeepsFrom W0.heap.size W W' ∧ Kp2 C1 (C1 + 1) W W' ∧ V0.heap.size ≤ W'.heap.size
theorem mkp_own {C1 : Nat} {W0 W V0 X Y : World} {row : Option Nat} (h : MKp C1 W0 W V0 X) (hC : C1 + 1 < V0.heap.size) (hV : W.heap.size ≤ V0.heap.size) (hg : X.grownBy Y row) (hr : ∀ r, row = some r → V0.heap.size ≤ r ∧ ∃ o : Obj, X.heap[r]? = some o ∧ o.isCells = false) : MKp C1 W0 W V0 Y := by
  obtain ⟨h1, ⟨h2, h3⟩, h4⟩ := h
  refine ⟨ownFrom_keepsFrom (β := Unit) hV () X Y row h1 hg hr, ⟨?_, ?_⟩, Nat.le_trans h4 hg.size⟩
  · exact (hg.block C1 (by omega) (fun e => by have := (hr _ e.symm).1; omega)).trans h2
  · exact (hg.block (C1 + 1) (by omega) (fun e => by have := (hr _ e.symm).1; omega)).trans h3
def MEi (da db : List Int) (D C Rb f : Nat) (w : World) (x n0 : Nat) (l : List (Nat × Nat)) {M : Nat} (pre : List (Fin M)) (W : World) : Prop :=
  ∃ (front : List (Fin M)) (y : Fin M) (j : Nat), pre = front ++ [y] ∧ front.length < Rb ∧ j < C ∧ okr da db D C f (l ++ front.map (fun y : Fin M => (x, n0 + y.1))) ∧ (∀ i, i < j → er3 da db D C f x (n0 + y.1) i = 0) ∧ er3 da db D C f x (n0 + y.1) j ≠ 0 ∧
    Blk W (w.heap.size + 3) 26 #[.slice none 0 0, .slice none 0 0] ∧ Blk W (w.heap.size + 4) 41 #[.int .i64 (er3 da db D C f x (n0 + y.1) j)] ∧ Below w.heap.size w W
theorem rows_ext (Rb : Nat) (L : List Nat) (x : Nat) (hR : 1 ≤ Rb) : ∀ k, k ≤ Rb → rows Rb (L ++ [x]) (L.length * Rb + k) = rows Rb (L ++ [x]) (L.length * Rb) ++ (List.range k).map (fun i => (x, L.length * Rb + i))
  | 0, _ => by simp
  | k + 1, h => by
    rw [← Nat.add_assoc, rows_snoc, rows_ext Rb L x hR k (by omega), getD_snoc Rb L x k hR (by omega), List.range_succ, List.map_append, List.append_assoc]; rfl
theorem cks_rows {M : Nat} (x n0 : Nat) (k : Nat) (h : k ≤ M) : (cks k h).map (fun y : Fin M => (x, n0 + y.1)) = (List.range k).map (fun i => (x, n0 + i)) := by
  rw [← cks_map k h, List.map_map]; rfl

def Sm (B T : Nat) (X Y : World) : Prop := X.heap.size ≤ Y.heap.size ∧ ∀ k o, X.heap[k]? = some o → k ≠ T → (k < B ∨ ∀ cs r, o ≠ .cells cs 2 r) → Y.heap[k]? = some o
theorem Sm.refl (B T : Nat) (X : World) : Sm B T X X := ⟨Nat.le_refl _, fun _ _ h _ _ => h⟩
theorem Sm.trans {B T : Nat} {X Y Z : World} (h : Sm B T X Y) (k : Sm B T Y Z) : Sm B T X Z := ⟨Nat.le_trans h.1 k.1, fun i o h1 h2 h3 => k.2 i o (h.2 i o h1 h2 h3) h2 h3⟩
theorem Sm.of {B T : Nat} {X Y : World} (h : Below X.heap.size X Y) : Sm B T X Y := ⟨h.size, fun k _o h1 _ _ => (h.block k (Array.getElem?_eq_some_iff.1 h1).1).trans h1⟩
theorem Sm.blk {B T b : Nat} {X Y : World} {u : TypeId} {cs : Array Value} (h : Sm B T X Y) (hb : Blk X b u cs) (hn : b ≠ T) (hu : u ≠ 2) : Blk Y b u cs := h.2 b _ hb hn (.inr (fun c r e => by cases e; exact hu rfl))
theorem Sm.keeps {B T Q : Nat} {X Y : World} (h : Sm B T X Y) (hT : T < Q) : KeepsFrom Q X Y := ⟨h.1, fun k o hk ho hc => h.2 k o ho (by omega) (.inr (fun cs r e => by subst e; cases hc))⟩
theorem Sm.low {B T k : Nat} {X Y : World} (h : Sm B T X Y) (hk : k < B) (hl : k < X.heap.size) (hn : k ≠ T) : Y.heap[k]? = X.heap[k]? := by
  obtain ⟨o, ho⟩ : ∃ o, X.heap[k]? = some o := ⟨_, Array.getElem?_eq_getElem hl⟩
  rw [ho]; exact h.2 k o ho hn (.inl hk)
theorem boxed_blk {W : World} {b : Nat} {t : TypeId} {v : Value} (h : Boxed W b t v) : Blk W b t #[v] := h
theorem grown_predrew2 {A W : World} {r : Option Nat} (h : A.grownBy W r) : A.drew.grownBy W r := ⟨h.os, h.tape, h.output, h.size, h.block⟩
theorem sm_step {X w9 : World} {T g n B m c : Nat} {y : Int} {dv : Value} {xs : List Value} (hu : X.ownsRow B 2 1 dv n xs) (hgrow : (X.alloc (.cells #[.int .i64 y] 2)).drew.grownBy w9 dv.ownBlock) : Sm B T X (w9.setCell ⟨T, m, none⟩ (.slice (some ⟨g, 0, none⟩) (n + 1) c)) := by
  have hsz : X.heap.size ≤ w9.heap.size := Nat.le_trans (by simp) hgrow.size
  refine ⟨by simpa using hsz, fun k o ho hk hc => ?_⟩
  have hl := (Array.getElem?_eq_some_iff.1 ho).1
  have hne : some k ≠ dv.ownBlock := by
    intro e
    rcases hu.2 with ⟨rfl, _⟩ | ⟨g', cap, cur, rfl, hb', hh, _⟩
    · simp [Value.ownBlock] at e
    · simp only [Value.ownBlock, Option.some.injEq] at e
      subst e
      rw [hh] at ho
      cases ho
      rcases hc with hc | hc
      · omega
      · exact hc _ _ rfl
  exact (Below.heap_setCell _ _ _ k hk).trans ((hgrow.block k (by simp; omega) hne).trans ((Below.heap_alloc _ _ _ hl).trans ho))
theorem ld_mid {W : World} {g f L c lo n : Nat} {ls : List Int} (h : Ld W (.slice (some ⟨g, f, none⟩) L c) ls) (hn : lo + n ≤ L) : Ld W (.slice (some ⟨g, f + lo, none⟩) n n) ((ls.drop lo).take n) := by
  obtain ⟨o2, c2, e, h1, h2⟩ := h
  simp only [Value.slice.injEq] at e
  obtain ⟨rfl, rfl, rfl⟩ := e
  have hl : ((ls.drop lo).take n).length = n := by simp; omega
  refine ⟨_, _, by rw [hl], by omega, fun k hk => ?_⟩
  obtain ⟨b, f', e1, e2, e3⟩ := h2 (lo + k) (by omega)
  simp only [Option.some.injEq, Addr.mk.injEq, and_true] at e1
  obtain ⟨rfl, rfl⟩ := e1
  refine ⟨g, f + lo, rfl, e2, ?_⟩
  rw [show f + lo + k = f + (lo + k) by omega, e3, take_getD (by omega)]
  simp [List.getD, List.getElem?_drop]
theorem mid_getD {ls : List Int} {lo n k : Nat} (h : k < n) : ((ls.drop lo).take n).getD k 0 = ls.getD (lo + k) 0 := by
  rw [take_getD h]; simp [List.getD, List.getElem?_drop]
theorem cS_mS {da db : List Int} {D C x r j : Nat} (hj : j < C) : cS ((da.drop (r * D)).take D) ((db.drop (x * (D * C))).take (D * C)) C D j = mS da db D C x r j := by
  unfold cS mS
  refine smA_same (fun k hk => ?_)
  have : (k + 1) * C ≤ D * C := Nat.mul_le_mul_right C hk
  rw [Nat.add_mul, Nat.one_mul] at this
  rw [mid_getD hk, mid_getD (by omega)]
theorem wcs_mS {da db : List Int} {D C x r : Nat} : wcs (cS ((da.drop (r * D)).take D) ((db.drop (x * (D * C))).take (D * C)) C D) C = wcs (mS da db D C x r) C := congrArg List.toArray (wcl_same (fun _m hm => cS_mS hm))
theorem wds_mid {ls : List Int} {lo n : Nat} (h : wds ls = true) (hn : lo + n ≤ ls.length) : wds ((ls.drop lo).take n) = true := wds_yes (fun k hk => by
  have hl : ((ls.drop lo).take n).length = n := by simp; omega
  rw [hl] at hk
  rw [mid_getD hk]
  exact wds_at h (by omega))

theorem mkp_sm {C1 T : Nat} {W0 W V0 X Y : World} (hk : MKp C1 W0 W V0 X) (h : Sm W0.heap.size T X Y) (hT : T < C1) (hC : C1 + 1 < W0.heap.size) (hX : W0.heap.size ≤ X.heap.size) : MKp C1 W0 W V0 Y :=
  ⟨hk.1.trans (h.keeps (by omega)), hk.2.1.trans ⟨h.low (by omega) (by omega) (by omega), h.low (by omega) (by omega) (by omega)⟩, Nat.le_trans hk.2.2 h.1⟩
theorem mkp_set {C1 b i : Nat} {W0 W V0 X : World} {v : Value} (hk : MKp C1 W0 W V0 X) (h1 : C1 ≠ b) (h2 : C1 + 1 ≠ b) : MKp C1 W0 W V0 (X.setCell ⟨b, i, none⟩ v) :=
  ⟨hk.1.trans ((KeepsOthers.setCell _ _ _).from _), hk.2.1.trans ⟨Below.heap_setCell _ _ _ _ h1, Below.heap_setCell _ _ _ _ h2⟩, by simpa using hk.2.2⟩

set_option maxRecDepth 100000 in
set_option maxHeartbeats 8000000 in
theorem mul_ok (vs vd vt ve : Value) (a da b db : List Int) (f D C Rb NB : Nat) (w : World) (hs : Ld w vs a) (hd : Ld w vd da) (ht : Ld w vt b) (he : Ld w ve db) (ta : tnb a da = true) (tb : tnb b db = true) (hf : fb (f : Nat) = true)
    (hfit : mfit a b = true) (hm : may (msh a b) = true) (eD : a.getD (a.length - 1) 0 = (D : Int)) (eC : b.getD (b.length - 1) 0 = (C : Int)) (eR : mrw a b = (Rb : Int)) (pa : prod a = ((NB * Rb * D : Nat) : Int)) (pb : prod b = ((NB * (D * C) : Nat) : Int))
    (hD : 1 ≤ D ∧ D ≤ 4096) (hC : 1 ≤ C ∧ C ≤ 4096) (hRb : 1 ≤ Rb) (hNB : 1 ≤ NB) (h6 : NB * Rb * D ≤ 65536) (h7 : NB * (D * C) ≤ 65536) (h8 : NB * Rb * C ≤ 65536) :
    Calls Tryz.prog 40 #[.agg #[vs, vd], .agg #[vt, ve], .int .i64 (f : Nat)] w (SomeT w (fer (mvr da db D C Rb f) (NB * Rb * C)) (unl (fer (mvr da db D C Rb f) (NB * Rb * C)) (msh a b)) (unl (fer (mvr da db D C Rb f) (NB * Rb * C)) (vls (mva da db D C Rb f) (NB * Rb * C)))) := by
  obtain ⟨i1, hi1, hy0, hy1, hy2⟩ := info_parts infoW
  obtain ⟨ma, hda, hwa⟩ := tnb_parts ta
  obtain ⟨mb, hdb, hwb⟩ := tnb_parts tb
  have la := may_len ma
  have lb := may_len mb
  have lda : da.length = NB * Rb * D := by omega
  have ldb : db.length = NB * (D * C) := by omega
  have hDC1 : 1 ≤ D * C := Nat.mul_le_mul hD.1 hC.1
  have hDC2 : D * C ≤ 65536 := by have := Nat.mul_le_mul_right (D * C) hNB; omega
  have hf3 : f ≤ 126 := by have := (fb_bd hf); omega
  have CA := Lib.hid (fun (W : World) (hW : Below w.heap.size w W) => echeck_any vs vd a da W (hs.below hW) (hd.below hW) (by omega) (by omega))
  have CB := Lib.hid (fun (W : World) (hW : Below w.heap.size w W) => echeck_any vt ve b db W (ht.below hW) (he.below hW) (by omega) (by omega))
  have CF := Lib.hid (fun (W : World) => checkf_any (f : Nat) W)
  rw [ta, if_pos rfl] at CA
  rw [tb, if_pos rfl] at CB
  rw [hf, if_pos rfl] at CF
  have CP : Hid (∀ W, Below w.heap.size w W → Calls Tryz.prog 102 #[vs, vt] W (SomeP W (msh a b) (Rb : Int) (D : Int) (C : Int))) := Lib.hid (fun W hW => by
    have q := productof_any vs vt a b W (hs.below hW) (ht.below hW) ma mb
    simp only [hfit, hm, if_true, eR, eD, eC] at q
    exact q)
  obtain ⟨o1, c1, rfl, _, _⟩ := id hs
  obtain ⟨o2, c2, rfl, hc2, hx2⟩ := id hd
  obtain ⟨o3, c3, rfl, _, _⟩ := id ht
  obtain ⟨o4, c4, rfl, hc4, hx4⟩ := id he
  have hRD : 1 ≤ NB * Rb * D := Nat.mul_le_mul (Nat.mul_le_mul hNB hRb) hD.1
  obtain ⟨ba, fa, rfl, _, _⟩ := hx2 0 (by omega)
  obtain ⟨bb, fb', rfl, _, _⟩ := hx4 0 (by have := Nat.mul_le_mul hNB hDC1; omega)
  have HD2 := Lib.hid hd
  have HE2 := Lib.hid he
  have HN := Lib.hid (And.intro lda (And.intro ldb (And.intro hwa hwb)))
  have HB := Lib.hid (And.intro hD (And.intro hC (And.intro hRb (And.intro hNB (And.intro h6 (And.intro h7 h8))))))
  have HC := Lib.hid (And.intro hc2 hc4)
  obtain ⟨DC, hDC⟩ : ∃ DC, DC = D * C := ⟨_, rfl⟩
  have HDC := Lib.hid hDC
  have ewc : (D : Int) * (C : Int) = (DC : Int) := by rw [hDC]; push_cast; rfl
  have hdcb : -9223372036854775808 ≤ (DC : Int) ∧ (DC : Int) ≤ 9223372036854775807 := by omega
  have hDC3 : 1 ≤ DC := by omega
  have ew : wrap64 ((D : Int) * (C : Int)) = (DC : Int) := by rw [ewc]; exact IntWalk.wrap64_in _ hdcb
  have ew2 : IntKind.i64.wrap ((D : Int) * (C : Int)) = (DC : Int) := by rw [ewc]; exact IntWalk.i64_in _ hdcb
  have HSL := Lib.hid (may_len hm)
  have HSP := Lib.hid (And.intro hDC3 hf3)
  generalize msh a b = S at *
  clear hs hd ht he ta tb hf hfit hm eD eC eR pa pb hx2 hx4 hda hdb lda ldb hwa hwb ma mb hDC1 hDC2 hDC ewc hdcb hc2 hc4 hRD hDC3 hD hC hRb hNB h6 h7 h8 la lb hf3
  refine (callsIn_wide (n := 12)).1 ?_
  refine callsIn_of_wp_marks Tryz.func40 rfl trivial ?_
  simp only [Tryz.ntmps40, List.size_toArray, List.length_cons, List.length_nil, Nat.reduceAdd, Nat.reduceSub, Array.replicate_succ, Array.replicate_zero, List.push_toArray, List.append_toArray, List.nil_append, List.cons_append]
  refine wpIn_wide.2 ?_
  obtain ⟨w5, hw5⟩ : ∃ w5, w5 = ((((w.alloc (.cells #[.slice o1 a.length c1, .slice (some ⟨ba, fa, none⟩) da.length c2] 26)).alloc (.cells #[.slice o3 b.length c3, .slice (some ⟨bb, fb', none⟩) db.length c4] 26)).alloc (.cells #[.int .i64 (f : Nat)] 3)).alloc (.cells #[.slice none 0 0, .slice none 0 0] 26)).alloc (.cells #[.int .i64 0] 41) := ⟨_, rfl⟩
  have B5 : Hid (Below w.heap.size w w5) := Lib.hid (by rw [hw5]; exact (((((Below.refl _ _).alloc (Nat.le_refl _) _).alloc (by simp) _).alloc (by simp; omega) _).alloc (by simp; omega) _).alloc (by simp; omega) _)
  have HW5 := Lib.hid hw5
  have S5 : Hid (w5.heap.size = w.heap.size + 5) := Lib.hid (by rw [hw5]; simp)
  have Q0 : Hid (Blk w5 w.heap.size 26 #[.slice o1 a.length c1, .slice (some ⟨ba, fa, none⟩) da.length c2]) := Lib.hid (by rw [hw5]; exact ((((Blk.new w _ _).alloc _).alloc _).alloc _).alloc _)
  have Q1 : Hid (Blk w5 (w.heap.size + 1) 26 #[.slice o3 b.length c3, .slice (some ⟨bb, fb', none⟩) db.length c4]) := Lib.hid (by rw [hw5]; exact (((blk_new1 w _ _ _).alloc _).alloc _).alloc _)
  have Q2 : Hid (Blk w5 (w.heap.size + 2) 3 #[.int .i64 (f : Nat)]) := Lib.hid (by
    rw [hw5]
    have q := Blk.new ((w.alloc (.cells #[.slice o1 a.length c1, .slice (some ⟨ba, fa, none⟩) da.length c2] 26)).alloc (.cells #[.slice o3 b.length c3, .slice (some ⟨bb, fb', none⟩) db.length c4] 26)) 3 #[.int .i64 (f : Nat)]
    rw [World.size_alloc, World.size_alloc] at q
    exact (q.alloc _).alloc _)
  have Q3 : Hid (Blk w5 (w.heap.size + 3) 26 #[.slice none 0 0, .slice none 0 0]) := Lib.hid (by
    rw [hw5]
    have q := Blk.new (((w.alloc (.cells #[.slice o1 a.length c1, .slice (some ⟨ba, fa, none⟩) da.length c2] 26)).alloc (.cells #[.slice o3 b.length c3, .slice (some ⟨bb, fb', none⟩) db.length c4] 26)).alloc (.cells #[.int .i64 (f : Nat)] 3)) 26 #[.slice none 0 0, .slice none 0 0]
    rw [World.size_alloc, World.size_alloc, World.size_alloc] at q
    exact q.alloc _)
  have Q4 : Hid (Blk w5 (w.heap.size + 4) 41 #[.int .i64 0]) := Lib.hid (by
    rw [hw5]
    have q := Blk.new ((((w.alloc (.cells #[.slice o1 a.length c1, .slice (some ⟨ba, fa, none⟩) da.length c2] 26)).alloc (.cells #[.slice o3 b.length c3, .slice (some ⟨bb, fb', none⟩) db.length c4] 26)).alloc (.cells #[.int .i64 (f : Nat)] 3)).alloc (.cells #[.slice none 0 0, .slice none 0 0] 26)) 41 #[.int .i64 0]
    rw [World.size_alloc, World.size_alloc, World.size_alloc, World.size_alloc] at q
    exact q)
  clear hw5
  have FK : Hid (∀ W, Below w5.heap.size w5 W → (W.cell? ⟨w.heap.size, 0, none⟩ = some (.slice o1 a.length c1) ∧ W.cell? ⟨w.heap.size, 1, none⟩ = some (.slice (some ⟨ba, fa, none⟩) da.length c2)) ∧ (W.cell? ⟨w.heap.size + 1, 0, none⟩ = some (.slice o3 b.length c3) ∧ W.cell? ⟨w.heap.size + 1, 1, none⟩ = some (.slice (some ⟨bb, fb', none⟩) db.length c4)) ∧ W.cell? ⟨w.heap.size + 2, 0, none⟩ = some (.int .i64 (f : Nat))) := Lib.hid (fun W hW =>
    ⟨⟨(blk2 (Q0.out.below hW Q0.out.lt)).1, (blk2 (Q0.out.below hW Q0.out.lt)).2.1⟩, ⟨(blk2 (Q1.out.below hW Q1.out.lt)).1, (blk2 (Q1.out.below hW Q1.out.lt)).2.1⟩, (Q2.out.below hW Q2.out.lt).cell 0⟩)
  obtain ⟨⟨x0, x1⟩, ⟨x2, x3⟩, x4⟩ := FK.out _ (Below.refl _ _)
  have CA5 := Lib.hid (CA.out w5 B5.out)
  have F5 := Lib.hid (Below.refl w5.heap.size w5)
  go_upto_region 1 with (fail)
  rw [← HW5.out]
  simp only [Nat.add_assoc, Nat.reduceAdd]
  go_step3
  go_upto_region 6 with (first
    | (go_at_call 83; (with_reducible refine CA5.out.mono ?_); rintro e wa ⟨rfl, hb⟩; have Fa := Lib.hid hb; obtain ⟨⟨x0, x1⟩, ⟨x2, x3⟩, x4⟩ := FK.out _ Fa.out; clear hb)
    | (go_at_call 83; (with_reducible refine (CB.out _ (B5.out.trans (Fa.out.mono B5.out.size))).mono ?_); rintro e wb ⟨rfl, hb⟩; have Fb := Lib.hid (Fa.out.trans (hb.mono Fa.out.size)); obtain ⟨⟨x0, x1⟩, ⟨x2, x3⟩, x4⟩ := FK.out _ Fb.out; clear hb)
    | (go_at_call 84; (with_reducible refine (CF.out _).mono ?_); rintro e w' ⟨rfl, rfl⟩)
    | (go_at_call 102; (with_reducible refine (CP.out _ (B5.out.trans (Fb.out.mono B5.out.size))).mono ?_); rintro e w6 ⟨oS, cS, rfl, hown, hb⟩; have F6 := Lib.hid (Fb.out.trans (hb.mono Fb.out.size)); have OW := Lib.hid (own_base hown.out (Fb.out.size)); obtain ⟨⟨x0, x1⟩, ⟨x2, x3⟩, x4⟩ := FK.out _ F6.out; clear hb hown))
  obtain ⟨wp, hwp⟩ : ∃ wp, wp = w6.alloc (.cells #[.slice oS S.length cS, .int .i64 (Rb : Nat), .int .i64 (D : Nat), .int .i64 (C : Nat)] 172) := ⟨_, rfl⟩
  obtain ⟨P8, hP8⟩ : ∃ P, P = w6.heap.size := ⟨_, rfl⟩
  rw [← hwp, ← hP8]
  have Fp : Hid (Below w5.heap.size w5 wp) := Lib.hid (by rw [hwp]; exact F6.out.trans ((al_below0 _).mono F6.out.size))
  have Q8 : Hid (Blk wp P8 172 #[.slice oS S.length cS, .int .i64 (Rb : Nat), .int .i64 (D : Nat), .int .i64 (C : Nat)]) := Lib.hid (by rw [hwp, hP8]; exact Blk.new _ _ _)
  have OWp : Hid (wp.ownsRow w5.heap.size 3 1 (.slice oS S.length cS) S.length (ints S)) := Lib.hid (by rw [hwp]; exact OW.out.alloc _)
  have Z8 : Hid (w5.heap.size ≤ P8 ∧ wp.heap.size = P8 + 1) := Lib.hid (by rw [hP8, hwp]; exact ⟨F6.out.size, World.size_alloc _ _⟩)
  clear hwp hP8 F6 OW Fb Fa x0 x1 x2 x3 x4 CA5 CA CB CF CP
  obtain ⟨y0, y1, y2, y3⟩ := blk4 Q8.out
  go_wp2
  go_step3
  obtain ⟨w9, hw9⟩ : ∃ w9, w9 = (wp.alloc (.cells #[.slice oS S.length cS, .slice none 0 0] 26)).alloc (.cells #[.int .i64 0] 3) := ⟨_, rfl⟩
  rw [Z8.out.2, ← hw9]
  obtain ⟨T0, hT0⟩ : ∃ T, T = P8 + 1 := ⟨_, rfl⟩
  rw [← hT0]
  have Z9 : Hid (w9.heap.size = T0 + 2 ∧ T0 = P8 + 1 ∧ w5.heap.size ≤ P8) := Lib.hid (by rw [hw9, World.size_alloc, World.size_alloc, Z8.out.2, hT0]; exact ⟨rfl, rfl, Z8.out.1⟩)
  have F9 : Hid (Below w5.heap.size w5 w9) := Lib.hid (by rw [hw9]; exact (Fp.out.alloc Fp.out.size _).alloc (by have := Fp.out.size; simp; omega) _)
  have Q10 : Hid (Blk w9 T0 26 #[.slice oS S.length cS, .slice none 0 0]) := Lib.hid (by rw [hw9, hT0, ← Z8.out.2]; exact (Blk.new wp _ _).alloc _)
  have Q11 : Hid (Blk w9 (T0 + 1) 3 #[.int .i64 ((0 : Nat) : Int)]) := Lib.hid (by rw [hw9, hT0, ← Z8.out.2]; exact blk_new1 wp _ _ _)
  have Q8' : Hid (Blk w9 P8 172 #[.slice oS S.length cS, .int .i64 (Rb : Nat), .int .i64 (D : Nat), .int .i64 (C : Nat)]) := Lib.hid (by rw [hw9]; exact (Q8.out.alloc _).alloc _)
  have OW9 : Hid (w9.ownsRow w5.heap.size 3 1 (.slice oS S.length cS) S.length (ints S)) := Lib.hid (by rw [hw9]; exact (OWp.out.alloc _).alloc _)
  have OWb : Hid (∀ g, (Value.slice oS S.length cS).ownBlock = some g → g < T0) := Lib.hid (fun g e => by have := (OWp.out.lt g e).2; have := Z8.out.2; omega)
  clear hw9 hT0 Z8 Fp Q8 OWp y0 y1 y2 y3
  obtain ⟨y0, y1, y2, y3⟩ := blk4 Q8'.out
  obtain ⟨⟨x0, x1⟩, ⟨x2, x3⟩, x4⟩ := FK.out _ F9.out
  have KCH := Lib.hid (fun (W : World) => chunk_any bb fb' db.length c4 DC HSP.out.1 W)
  go_wp2_with (go_at_call 89; (with_reducible refine (KCH.out _).mono ?_); rintro e w' ⟨rfl, rfl⟩)
  have hdl : db.length = NB * DC := by rw [HN.out.2.1, HDC.out]
  rw [hdl]
  obtain ⟨W0, hW0⟩ : ∃ W0, W0 = (w9.alloc (.cells #[.slice (some ⟨bb, fb', none⟩) (NB * DC) c4] 24)).alloc (.cells #[.int .i64 (DC : Nat)] 3) := ⟨_, rfl⟩
  obtain ⟨C1, hC1⟩ : ∃ C, C = w9.heap.size := ⟨_, rfl⟩
  rw [← hW0, ← hC1]
  have E0 : Hid (W0.heap.size = C1 + 2 ∧ C1 = T0 + 2) := Lib.hid (by rw [hW0, hC1, World.size_alloc, World.size_alloc, Z9.out.1]; exact ⟨rfl, rfl⟩)
  have G0 : Hid (Below w9.heap.size w9 W0) := Lib.hid (by rw [hW0]; exact (al_below0 _).trans ((al_below0 _).mono (by simp)))
  have X1 : Hid (Boxed W0 C1 24 (.slice (some ⟨bb, fb', none⟩) (NB * DC) c4)) := Lib.hid (by rw [hW0, hC1]; exact (Boxed.new w9 _ _).alloc _)
  have X2 : Hid (Boxed W0 (C1 + 1) 3 (.int .i64 (DC : Nat))) := Lib.hid (by
    rw [hW0, hC1]
    have q := Boxed.new (w9.alloc (.cells #[.slice (some ⟨bb, fb', none⟩) (NB * DC) c4] 24)) 3 (.int .i64 (DC : Nat))
    rwa [World.size_alloc] at q)
  have F0 : Hid (Below w5.heap.size w5 W0) := Lib.hid (F9.out.trans (G0.out.mono F9.out.size))
  have R10 : Hid (Blk W0 T0 26 #[.slice oS S.length cS, .slice none 0 0]) := Lib.hid (Q10.out.below G0.out Q10.out.lt)
  have R11 : Hid (Blk W0 (T0 + 1) 3 #[.int .i64 ((0 : Nat) : Int)]) := Lib.hid (Q11.out.below G0.out Q11.out.lt)
  have R8 : Hid (Blk W0 P8 172 #[.slice oS S.length cS, .int .i64 (Rb : Nat), .int .i64 (D : Nat), .int .i64 (C : Nat)]) := Lib.hid (Q8'.out.below G0.out Q8'.out.lt)
  have RW : Hid (W0.ownsRow w5.heap.size 3 1 (.slice oS S.length cS) S.length (ints S)) := Lib.hid (Below.keepOwn OW9.out G0.out (Nat.le_refl _))
  have hc4 : NB * DC ≤ c4 := by rw [← hdl]; exact HC.out.2
  have h76 : NB * DC ≤ 65536 := by rw [HDC.out]; exact HB.out.2.2.2.2.2.1
  clear hW0 hC1 Q10 Q11 Q8' OW9 y0 y1 y2 y3 x0 x1 x2 x3 x4 KCH ew ew2
  refine (wpIn_wide (n := 12)).1 ?_
  refine wpIn_rangeFunc_ownH (F := Fence.wide) (n := 12) rfl (by decide) (gf := 157) (lb := #[.pointer (some ⟨C1, 0, none⟩), .pointer (some ⟨C1 + 1, 0, none⟩)]) rfl trivial (enters_of Tryz.func157 (by kernel_rfl) rfl)
    (chunk_stops 11 (by decide) C1 (C1 + 1) bb fb' DC NB c4 HSP.out.1 h76 hc4 W0 X1.out X2.out)
    Kp2.trans (Kp2.put (by have := E0.out; omega) (by have := E0.out; omega)) (Below.refl _ _) (fun _ => rfl)
    (fun pre W => MSt da db D C f W0 T0 (.slice oS S.length cS) (rows Rb (pre.map (fun x : Fin NB => x.1)) (pre.length * Rb)) (pre.length * Rb) [] W)
    (fun c pre W => c = .ret ∧ MEr da db D C Rb f w (pre.map (fun x : Fin NB => x.1)) W)
    ?ownI ?ownX ?i0
    (fun x a' W => ∃ Bx, W0.heap.size ≤ Bx ∧ Boxed W Bx 24 (.slice (some ⟨bb, fb' + x.1 * DC, none⟩) DC DC) ∧ a' = { tmps := #[Value.agg #[Value.slice o1 a.length c1, Value.slice (some { block := ba, off := fa }) da.length c2], Value.agg #[Value.slice o3 b.length c3, Value.slice (some { block := bb, off := fb' }) (NB * DC) c4], Value.int IntKind.i64 ↑f, Value.pointer (some { block := w.heap.size, off := 0 }), Value.pointer (some { block := w.heap.size + 1, off := 0 }), Value.pointer (some { block := w.heap.size + 2, off := 0 }), Value.pointer (some { block := w.heap.size + 3, off := 0 }), Value.pointer (some { block := w.heap.size + 4, off := 0 }), Value.pointer (some { block := P8, off := 0 }), Value.int IntKind.i64 0, Value.pointer (some { block := T0, off := 0 }), Value.pointer (some { block := T0 + 1, off := 0 }), Value.pointer (some ⟨Bx, 0, none⟩), undef, undef, undef, undef, undef, Value.agg #[Value.slice o1 a.length c1, Value.slice (some { block := ba, off := fa }) da.length c2], Value.int IntKind.i64 0, Value.bool false, Value.bool false, Value.agg #[Value.slice o3 b.length c3, Value.slice (some { block := bb, off := fb' }) (NB * DC) c4], Value.int IntKind.i64 0, Value.bool false, Value.bool false, Value.bool false, Value.int IntKind.i64 ↑f, Value.int IntKind.i64 0, Value.bool false, Value.bool false, undef, Value.tuple #[Value.agg #[Value.slice oS S.length cS, Value.int IntKind.i64 ↑Rb, Value.int IntKind.i64 ↑D, Value.int IntKind.i64 ↑C], Value.int IntKind.i64 0], Value.pointer (some { block := w.heap.size, off := 0 }), Value.slice o1 a.length c1, Value.pointer (some { block := w.heap.size + 1, off := 0 }), Value.slice o3 b.length c3, Value.tuple #[Value.agg #[Value.slice oS S.length cS, Value.int IntKind.i64 ↑Rb, Value.int IntKind.i64 ↑D, Value.int IntKind.i64 ↑C], Value.int IntKind.i64 0], Value.agg #[Value.slice oS S.length cS, Value.int IntKind.i64 ↑Rb, Value.int IntKind.i64 ↑D, Value.int IntKind.i64 ↑C], Value.int IntKind.i64 0, Value.int IntKind.i64 0, Value.bool false, undef, undef, Value.pointer (some { block := P8, off := 0 }), Value.slice oS S.length cS, Value.agg #[Value.slice oS S.length cS, Value.slice none 0 0], Value.pointer (some { block := w.heap.size + 1, off := 1 }), Value.slice (some { block := bb, off := fb' }) (NB * DC) c4, Value.pointer (some { block := P8, off := 2 }), Value.int IntKind.i64 ↑D, Value.pointer (some { block := P8, off := 3 }), Value.int IntKind.i64 ↑C, Value.int IntKind.i64 ↑DC, Value.func (Fn.func 157) #[] #[Value.pointer (some { block := C1, off := 0 }), Value.pointer (some { block := C1 + 1, off := 0 })], Value.slice (some ⟨bb, fb' + x.1 * DC, none⟩) DC DC, undef, undef, undef, undef, undef, undef, undef, undef, undef, undef, undef, undef, undef, undef, undef, undef, undef, undef, undef, undef, undef, undef, undef, undef, undef, undef, undef, undef, undef, undef, undef, undef, undef, undef, undef, undef, undef, undef, undef, undef, undef, undef, undef, undef, undef], defers := [] })
    ?ownA ?assign ?body ?done ?stop
  case ownI => exact mst_own _ _ _ _ _ _ _ _ (by have := E0.out; omega)
  case ownX => exact mer_own _ _ _ _ _ _ _ (by have := S5.out; have := Z9.out; have := E0.out; omega)
  case i0 =>
    have e1 : rows Rb (([] : List (Fin NB)).map (fun x : Fin NB => x.1)) (([] : List (Fin NB)).length * Rb) = [] := by simp [rows]
    have e2 : ([] : List (Fin NB)).length * Rb = 0 := by simp
    refine ⟨_, R10.out, ?_, ?_, Below.refl _ _, Nat.le_refl _, ?_⟩
    · rw [e1]; exact World.ownsRow_nil _ _ _ _
    · rw [e2]; exact R11.out
    · rw [e1]; intro p hp; cases hp
  case ownA => exact fun x a' _ X Y row hs hg hr => by obtain ⟨Bx, h1, h2, h3⟩ := hs; exact ⟨Bx, h1, boxed_own Bx 24 (fun (_ : Unit) => _) () X Y row h2 hg (fun r e => (hr r e).2), h3⟩
  case assign =>
    rintro l pre x W K ⟨vdx, hT, hO, hN, hBW, hSz, hok⟩ hK
    unfold pck
    gi_wp2
    have e0 := E0.out
    exact hK _ _ ((KeepsOthers.alloc _ _).from _) ⟨Below.heap_alloc _ _ _ (by omega), Below.heap_alloc _ _ _ (by omega)⟩ ⟨vdx, hT.alloc _, hO.alloc _, hN.alloc _, hBW.alloc (by omega) _, by simp; omega, hok⟩ ⟨W.heap.size, hSz, Boxed.new W 24 _, rfl⟩
  case body =>
    rintro l pre x a' W hl ⟨r, hr⟩ ⟨vdx, hT, hO, hN, hBW, hSz, hok⟩ ⟨Bx, hBx, bX, rfl⟩ hlt
    obtain ⟨n0, hn0⟩ : ∃ n0, n0 = pre.length * Rb := ⟨_, rfl⟩
    rw [← hn0] at hO hN hok
    have hnR : n0 + Rb ≤ NB * Rb := by
      rw [hn0]
      have : (pre.length + 1) * Rb ≤ NB * Rb := Nat.mul_le_mul_right Rb hlt
      rwa [Nat.add_mul, Nat.one_mul] at this
    obtain ⟨M, hM⟩ : ∃ M, M = NB * Rb - n0 := ⟨_, rfl⟩
    obtain ⟨ND, hND⟩ : ∃ ND, ND = n0 * D := ⟨_, rfl⟩
    have hMD : da.length - ND = M * D := by rw [HN.out.1, hM, hND, Nat.sub_mul]
    have hRb1 : 1 ≤ Rb := HB.out.2.2.1
    have hD1 : 1 ≤ D ∧ D ≤ 4096 := HB.out.1
    have hda6 : da.length ≤ 65536 := by rw [HN.out.1]; exact HB.out.2.2.2.2.1
    have hND2 : ND + D ≤ da.length := by
      rw [hND, HN.out.1]
      have : (n0 + 1) * D ≤ NB * Rb * D := Nat.mul_le_mul_right D (by omega)
      rwa [Nat.add_mul, Nat.one_mul] at this
    have hM0 : M * D ≤ 65536 := by omega
    have hcM : M * D ≤ c2 - ND := by have := HC.out.1; omega
    have hs1 := fun wx : World => run_on (P := Tryz.prog) (t := 24) Tryz.underlying24 hi1 hy1 ba fa da.length c2 ND (by omega) (by have := HC.out.1; omega) wx
    have HnR := Lib.hid (And.intro hnR (And.intro hM (And.intro hND hn0)))
    have hBW5 := Lib.hid (F0.out.trans (hBW.mono (by have := Z9.out; omega)))
    have KS : Hid (∀ W', Below W.heap.size W W' → W'.cell? ⟨w.heap.size, 1, none⟩ = some (.slice (some ⟨ba, fa, none⟩) da.length c2) ∧ W'.cell? ⟨T0 + 1, 0, none⟩ = some (.int .i64 (n0 : Nat)) ∧ W'.cell? ⟨P8, 2, none⟩ = some (.int .i64 (D : Nat))) := Lib.hid (fun W' hW => by
      have k1 := (FK.out _ (hBW5.out.trans (hW.mono hBW5.out.size))).1.2
      have k2 := (hN.below hW hN.lt).cell 0
      have k3 := ((R8.out.below hBW (by have := Z9.out; omega)).below hW (R8.out.below hBW (by have := Z9.out; omega)).lt).cell 2
      exact ⟨k1, k2, k3⟩)
    have KC2 := Lib.hid (fun (V : World) => chunk_any ba (fa + ND) (M * D) (c2 - ND) D hD1.1 V)
    have B0 : Hid (Below W.heap.size W W.drew) := Lib.hid (below_drw (Below.refl _ _) 1)
    have ewc : (n0 : Int) * (D : Int) = (ND : Int) := by rw [hND]; push_cast; rfl
    have hNb : -9223372036854775808 ≤ (ND : Int) ∧ (ND : Int) ≤ 9223372036854775807 := by omega
    have ew : wrap64 ((n0 : Int) * (D : Int)) = (ND : Int) := by rw [ewc]; exact IntWalk.wrap64_in _ hNb
    have ew2 : IntKind.i64.wrap ((n0 : Int) * (D : Int)) = (ND : Int) := by rw [ewc]; exact IntWalk.i64_in _ hNb
    clear hM hND hnR hn0 ewc hNb
    gi_wp2
    refine' region_inF (S := fun W' => W'.cell? ⟨w.heap.size, 1, none⟩ = some (.slice (some ⟨ba, fa, none⟩) da.length c2) ∧ W'.cell? ⟨T0 + 1, 0, none⟩ = some (.int .i64 (n0 : Nat)) ∧ W'.cell? ⟨P8, 2, none⟩ = some (.int .i64 (D : Nat))) (X := (W.drew.alloc (.cells #[.slice (some ⟨ba, fa + ND, none⟩) (M * D) (c2 - ND)] 24)).alloc (.cells #[.int .i64 (D : Nat)] 3)) (by kernel_rfl) (by kernel_rfl) ?sA (fun hHeld => ?rA) ?qA
    case sA => exact KS.out _ B0.out
    case rA =>
      simp only [List.size_toArray, List.length_cons, List.length_nil, Nat.reduceAdd, Array.replicate_succ, Array.replicate_zero, List.push_toArray, List.nil_append, List.cons_append]
      (refine wpAnyH_take (i := 0) (oi := ⟨some 56, _, _, _, _, _⟩) (v := ?v0_a1) rfl (by kernel_rfl) (by kernel_rfl) (by kernel_rfl) (fun _ _ _ h => by cases h.1) (Or.inl ⟨by rfl, ?hy0_a1⟩) (by assumption) ?rest0_a1; (case hy0_a1 => intro w hSw; (try dsimp only at hSw); go_simp; first | done | with_reducible rfl))
      (try simp only [Act.put, pq])
      (refine wpAnyH_take (i := 1) (oi := ⟨some 57, _, _, _, _, _⟩) (v := ?v1_a2) rfl (by kernel_rfl) (by kernel_rfl) (by kernel_rfl) (fun _ _ _ h => by cases h.1) (Or.inl ⟨by rfl, ?hy1_a2⟩) (by assumption) ?rest1_a2; (case hy1_a2 => intro w hSw; (try dsimp only at hSw); go_simp; first | done | with_reducible rfl))
      (try simp only [Act.put, pq])
      (refine wpAnyH_take (i := 2) (oi := ⟨some 58, _, _, _, _, _⟩) (v := ?v2_a3) rfl (by kernel_rfl) (by kernel_rfl) (by kernel_rfl) (fun _ _ _ h => by cases h.1) (Or.inl ⟨by rfl, ?hy2_a3⟩) (by assumption) ?rest2_a3; (case hy2_a3 => intro w hSw; (try dsimp only at hSw); go_simp; first | done | with_reducible rfl))
      (try simp only [Act.put, pq])
      (refine wpAnyH_take (i := 3) (oi := ⟨some 59, _, _, _, _, _⟩) (v := ?v3_a4) rfl (by kernel_rfl) (by kernel_rfl) (by kernel_rfl) (fun _ _ _ h => by cases h.1) (Or.inl ⟨by rfl, ?hy3_a4⟩) (by assumption) ?rest3_a4; (case hy3_a4 => intro w hSw; (try dsimp only at hSw); go_simp; first | done | with_reducible rfl))
      (try simp only [Act.put, pq])
      (refine wpAnyH_take (i := 4) (oi := ⟨some 60, _, _, _, _, _⟩) (v := ?v4_a5) rfl (by kernel_rfl) (by kernel_rfl) (by kernel_rfl) (fun _ _ _ h => by cases h.1) (Or.inl ⟨by rfl, ?hy4_a5⟩) (by assumption) ?rest4_a5; (case hy4_a5 => intro w hSw; (try dsimp only at hSw); go_simp; first | done | with_reducible rfl))
      (try simp only [Act.put, pq])
      (refine wpAnyH_take (i := 5) (oi := ⟨some 61, _, _, _, _, _⟩) (v := ?v5_a6) rfl (by kernel_rfl) (by kernel_rfl) (by kernel_rfl) (fun _ _ _ h => by cases h.1) (Or.inl ⟨by rfl, ?hy5_a6⟩) (by assumption) ?rest5_a6; (case hy5_a6 => intro w hSw; (try dsimp only at hSw); go_simp; first | done | with_reducible rfl))
      (try simp only [Act.put, pq])
      (refine wpAnyH_take (i := 6) (oi := ⟨some 62, _, _, _, _, _⟩) (v := ?v6_a7) rfl (by kernel_rfl) (by kernel_rfl) (by kernel_rfl) (fun _ _ _ h => by cases h.1) (Or.inl ⟨by rfl, ?hy6_a7⟩) (by assumption) ?rest6_a7; (case hy6_a7 => intro w hSw; (try dsimp only at hSw); go_simp; first | done | with_reducible rfl))
      (try simp only [Act.put, pq])
      (refine wpAnyH_take (i := 7) (oi := ⟨some 63, _, _, _, _, _⟩) (v := ?v7_a8) rfl (by kernel_rfl) (by kernel_rfl) (by kernel_rfl) (fun _ _ _ h => by cases h.1) (Or.inl ⟨by rfl, ?hy7_a8⟩) (by assumption) ?rest7_a8; (case hy7_a8 => intro w hSw; (try dsimp only at hSw); go_simp; first | done | with_reducible rfl))
      (try simp only [Act.put, pq])
      (refine wpAnyH_take (i := 8) (oi := ⟨some 64, _, _, _, _, _⟩) (v := ?v8_a9) rfl (by kernel_rfl) (by kernel_rfl) (by kernel_rfl) (fun _ _ _ h => by cases h.1) (Or.inl ⟨by rfl, ?hy8_a9⟩) (by assumption) ?rest8_a9; (case hy8_a9 => intro w hSw; (try dsimp only at hSw); go_simp; first | done | with_reducible rfl))
      (try simp only [Act.put, pq])
      refine wpAnyH_ready (rs := [9]) (by kernel_rfl) (by simp) ?_
      refine AllReadyH.cons (o := ⟨some 65, _, _, _, _, _⟩) rfl (fun K hK => ?_) (AllReadyH.nil)
      go_simp
      (go_at_call 89; (with_reducible refine (KC2.out _).mono ?_); rintro e w_1 ⟨rfl, rfl⟩)
      refine hK.out _ _ ?_ (fun hHeld => ?_)
      · (try dsimp only)
        exact KS.out _ ((B0.out.alloc B0.out.size _).alloc (Nat.le_trans B0.out.size (by simp)) _)
      clear hK K
      (try simp only [List.setIfInBounds_toArray, List.set_cons_zero, List.set_cons_succ])
      refine wpAnyH_done (by kernel_rfl) ?_ _
      exact ⟨rfl, rfl, rfl⟩
    case qA =>
      clear ew ew2 hs1
      gi_wp2
      obtain ⟨V0, hV0⟩ : ∃ V, V = (W.drew.alloc (.cells #[.slice (some ⟨ba, fa + ND, none⟩) (M * D) (c2 - ND)] 24)).alloc (.cells #[.int .i64 (D : Nat)] 3) := ⟨_, rfl⟩
      obtain ⟨D1, hD1'⟩ : ∃ d, d = W.drew.heap.size := ⟨_, rfl⟩
      rw [← hV0, ← hD1']
      have E1 : Hid (V0.heap.size = D1 + 2 ∧ D1 = W.heap.size) := Lib.hid (by rw [hV0, hD1', World.size_alloc, World.size_alloc]; exact ⟨rfl, rfl⟩)
      have KW : Hid (Below W.heap.size W V0) := Lib.hid (by rw [hV0]; exact (B0.out.alloc B0.out.size _).alloc (Nat.le_trans B0.out.size (by simp)) _)
      have Y1 : Hid (Boxed V0 D1 24 (.slice (some ⟨ba, fa + ND, none⟩) (M * D) (c2 - ND))) := Lib.hid (by rw [hV0, hD1']; exact (Boxed.new W.drew _ _).alloc _)
      have Y2 : Hid (Boxed V0 (D1 + 1) 3 (.int .i64 (D : Nat))) := Lib.hid (by
        rw [hV0, hD1']
        have q := Boxed.new (W.drew.alloc (.cells #[.slice (some ⟨ba, fa + ND, none⟩) (M * D) (c2 - ND)] 24)) 3 (.int .i64 (D : Nat))
        rwa [World.size_alloc] at q)
      clear hV0 hD1' B0 KC2
      obtain ⟨L, hL⟩ : ∃ L, L = pre.map (fun x : Fin NB => x.1) := ⟨_, rfl⟩
      have hLl : L.length = pre.length := by rw [hL, List.length_map]
      have HLL := Lib.hid (And.intro hL hLl)
      have hr' : V0.heap[l]? = some (.loop r) := (KW.out.block l (Array.getElem?_eq_some_iff.1 hr).1).trans hr
      have hbase : rows Rb (L ++ [x.1]) n0 = rows Rb (pre.map (fun x : Fin NB => x.1)) n0 := by
        rw [hL]; exact rows_app Rb _ _ _ hRb1 (by rw [List.length_map, ← HnR.out.2.2.2]; exact Nat.le_refl _)
      have hT2 := hT.below KW.out hT.lt
      have hO2 := Below.keepOwn hO KW.out (Nat.le_refl _)
      have hN2 := hN.below KW.out hN.lt
      have hB2 := hBW.trans (KW.out.mono (by have := E0.out; omega))
      have hX2 := box_on bX KW.out
      have hS2 : W0.heap.size ≤ V0.heap.size := Nat.le_trans hSz KW.out.size
      have HWW := Lib.hid (And.intro hT (And.intro hBW (And.intro hSz (And.intro hBx hlt))))
      refine wpIn_rangeFunc_ownN (l₀ := l) (r₀ := r) rfl hr' (by decide) (gf := 157) (lb := #[.pointer (some ⟨D1, 0, none⟩), .pointer (some ⟨D1 + 1, 0, none⟩)]) rfl trivial (enters_of Tryz.func157 (by kernel_rfl) rfl)
        ((chunk_stops 9 (by decide) D1 (D1 + 1) ba (fa + ND) D M (c2 - ND) hD1.1 hM0 hcM V0 Y1.out Y2.out).inRound l)
        Kp2.trans (Kp2.put (by have := E1.out; omega) (by have := E1.out; omega)) (Below.refl _ _) (fun _ => rfl)
        (fun pre' W' => (MSt da db D C f W0 T0 (.slice oS S.length cS) (rows Rb (L ++ [x.1]) n0 ++ pre'.map (fun y : Fin M => (x.1, n0 + y.1))) (n0 + pre'.length) [] W' ∧ pre'.length < Rb) ∧ (Boxed W' Bx 24 (.slice (some ⟨bb, fb' + x.1 * DC, none⟩) DC DC) ∧ Boxed W' D1 24 (.slice (some ⟨ba, fa + ND, none⟩) (M * D) (c2 - ND)) ∧ Boxed W' (D1 + 1) 3 (.int .i64 (D : Nat))) ∧ MKp C1 W0 W V0 W')
        (fun c pre' W' => ((c = .exit 1 ∧ pre'.length = Rb ∧ MSt da db D C f W0 T0 (.slice oS S.length cS) (rows Rb (L ++ [x.1]) n0 ++ pre'.map (fun y : Fin M => (x.1, n0 + y.1))) (n0 + Rb) [] W') ∨ (c = .ret ∧ MEi da db D C Rb f w x.1 n0 (rows Rb (L ++ [x.1]) n0) pre' W')) ∧ MKp C1 W0 W V0 W')
        ?ownI2 ?ownX2 ?i2
        (fun y a'' _ => a'' = { tmps := #[Value.agg #[Value.slice o1 a.length c1, Value.slice (some { block := ba, off := fa }) da.length c2], Value.agg #[Value.slice o3 b.length c3, Value.slice (some { block := bb, off := fb' }) (NB * DC) c4], Value.int IntKind.i64 ↑f, Value.pointer (some { block := w.heap.size, off := 0 }), Value.pointer (some { block := w.heap.size + 1, off := 0 }), Value.pointer (some { block := w.heap.size + 2, off := 0 }), Value.pointer (some { block := w.heap.size + 3, off := 0 }), Value.pointer (some { block := w.heap.size + 4, off := 0 }), Value.pointer (some { block := P8, off := 0 }), Value.int IntKind.i64 0, Value.pointer (some { block := T0, off := 0 }), Value.pointer (some { block := T0 + 1, off := 0 }), Value.pointer (some { block := Bx, off := 0 }), Value.slice (some ⟨ba, fa + ND + y.1 * D, none⟩) D D, undef, undef, undef, undef, Value.agg #[Value.slice o1 a.length c1, Value.slice (some { block := ba, off := fa }) da.length c2], Value.int IntKind.i64 0, Value.bool false, Value.bool false, Value.agg #[Value.slice o3 b.length c3, Value.slice (some { block := bb, off := fb' }) (NB * DC) c4], Value.int IntKind.i64 0, Value.bool false, Value.bool false, Value.bool false, Value.int IntKind.i64 ↑f, Value.int IntKind.i64 0, Value.bool false, Value.bool false, undef, Value.tuple #[Value.agg #[Value.slice oS S.length cS, Value.int IntKind.i64 ↑Rb, Value.int IntKind.i64 ↑D, Value.int IntKind.i64 ↑C], Value.int IntKind.i64 0], Value.pointer (some { block := w.heap.size, off := 0 }), Value.slice o1 a.length c1, Value.pointer (some { block := w.heap.size + 1, off := 0 }), Value.slice o3 b.length c3, Value.tuple #[Value.agg #[Value.slice oS S.length cS, Value.int IntKind.i64 ↑Rb, Value.int IntKind.i64 ↑D, Value.int IntKind.i64 ↑C], Value.int IntKind.i64 0], Value.agg #[Value.slice oS S.length cS, Value.int IntKind.i64 ↑Rb, Value.int IntKind.i64 ↑D, Value.int IntKind.i64 ↑C], Value.int IntKind.i64 0, Value.int IntKind.i64 0, Value.bool false, undef, undef, Value.pointer (some { block := P8, off := 0 }), Value.slice oS S.length cS, Value.agg #[Value.slice oS S.length cS, Value.slice none 0 0], Value.pointer (some { block := w.heap.size + 1, off := 1 }), Value.slice (some { block := bb, off := fb' }) (NB * DC) c4, Value.pointer (some { block := P8, off := 2 }), Value.int IntKind.i64 ↑D, Value.pointer (some { block := P8, off := 3 }), Value.int IntKind.i64 ↑C, Value.int IntKind.i64 ↑DC, Value.func (Fn.func 157) #[] #[Value.pointer (some { block := C1, off := 0 }), Value.pointer (some { block := C1 + 1, off := 0 })], Value.slice (some { block := bb, off := fb' + ↑x * DC }) DC DC, Value.pointer (some { block := w.heap.size, off := 1 }), Value.slice (some { block := ba, off := fa }) da.length c2, Value.int IntKind.i64 ↑n0, Value.pointer (some { block := P8, off := 2 }), Value.int IntKind.i64 ↑D, Value.int IntKind.i64 ↑ND, Value.slice (some { block := ba, off := fa + ND }) (M * D) (c2 - ND), Value.pointer (some { block := P8, off := 2 }), Value.int IntKind.i64 ↑D, Value.func (Fn.func 157) #[] #[Value.pointer (some { block := D1, off := 0 }), Value.pointer (some { block := D1 + 1, off := 0 })], Value.slice (some ⟨ba, fa + ND + y.1 * D, none⟩) D D, undef, undef, undef, undef, undef, undef, undef, undef, undef, undef, undef, undef, undef, undef, undef, undef, undef, undef, undef, undef, undef, undef, undef, undef, undef, undef, undef, undef, undef, undef, undef, undef, undef, undef], defers := [] })
        (fun _ _ _ _ _ _ hs _ _ => hs) ?assign2 ?body2 ?done2 ?stop2
      case ownI2 =>
        rintro s X Y row ⟨⟨h1, h2⟩, h3, h4⟩ hg hrr
        exact ⟨⟨mst_own da db D C f W0 T0 _ (ll := fun s : List (Fin M) => rows Rb (L ++ [x.1]) n0 ++ s.map (fun y : Fin M => (x.1, n0 + y.1))) (qq := fun s => n0 + s.length) (by have := E0.out; omega) s X Y row h1 hg (fun q e => ⟨Nat.le_trans hS2 (hrr q e).1, (hrr q e).2⟩), h2⟩, ⟨boxed_own Bx 24 (fun (_ : Unit) => _) () X Y row h3.1 hg (fun q e => (hrr q e).2), boxed_own D1 24 (fun (_ : Unit) => _) () X Y row h3.2.1 hg (fun q e => (hrr q e).2), boxed_own (D1 + 1) 3 (fun (_ : Unit) => _) () X Y row h3.2.2 hg (fun q e => (hrr q e).2)⟩, mkp_own h4 (by have := E0.out; have := E1.out; omega) KW.out.size hg hrr⟩
      case ownX2 =>
        rintro c s X Y row ⟨h, h4⟩ hg hrr
        have hc : ∀ q, row = some q → ∃ o : Obj, X.heap[q]? = some o ∧ o.isCells = false := fun q e => (hrr q e).2
        refine ⟨?_, mkp_own h4 (by have := E0.out; have := E1.out; omega) KW.out.size hg hrr⟩
        rcases h with ⟨e, h1, h2⟩ | ⟨e, front, y, j, a1, a2, a3, a4, a5, a6, a7, a8, a9⟩
        · exact .inl ⟨e, h1, mst_own da db D C f W0 T0 _ (ll := fun s : List (Fin M) => rows Rb (L ++ [x.1]) n0 ++ s.map (fun y : Fin M => (x.1, n0 + y.1))) (qq := fun s => n0 + Rb) (by have := E0.out; omega) s X Y row h2 hg (fun q e => ⟨Nat.le_trans hS2 (hrr q e).1, (hrr q e).2⟩)⟩
        · exact .inr ⟨e, front, y, j, a1, a2, a3, a4, a5, a6, blk_own (β := Unit) _ _ (fun _ => _) () X Y row a7 hg hc, blk_own (β := Unit) _ _ (fun _ => _) () X Y row a8 hg hc, a9.grown hg a9.size (fun k e => by have := (hrr k e).1; have := E0.out; have := Z9.out; have := S5.out; omega)⟩
      case i2 =>
        have hc1 : C1 + 1 < W.heap.size := by have := E0.out; omega
        refine ⟨⟨⟨vdx, hT2, ?_, ?_, hB2, hS2, ?_⟩, hRb1⟩, ⟨hX2, Y1.out, Y2.out⟩, ⟨KW.out.size, fun k o hk h0 ho => (KW.out.block k (Array.getElem?_eq_some_iff.1 h0).1).trans h0⟩, ⟨KW.out.block _ (by omega), KW.out.block _ (by omega)⟩, Nat.le_refl _⟩
        · rw [List.map_nil, show rows Rb (L ++ [x.1]) n0 ++ [] = rows Rb (L ++ [x.1]) n0 from List.append_nil _, hbase]; exact hO2
        · exact hN2
        · rw [List.map_nil, show rows Rb (L ++ [x.1]) n0 ++ [] = rows Rb (L ++ [x.1]) n0 from List.append_nil _, hbase]; exact hok
      case assign2 =>
        rintro l2 pre' y W' K hi hK
        unfold pck
        gi_wp2
        exact hK _ _ (KeepsFrom.refl _ _) (Kp2.refl _ _ _) hi rfl
      case body2 =>
        rintro l2 pre' y a'' W' _ _ ⟨⟨⟨vd', hT', hO', hN', hBW', hS', hok'⟩, hlr⟩, hX', hK'⟩ rfl hlt'
        obtain ⟨RL, hRL⟩ : ∃ RL, RL = rows Rb (L ++ [x.1]) n0 ++ pre'.map (fun y : Fin M => (x.1, n0 + y.1)) := ⟨_, rfl⟩
        rw [← hRL] at hO' hok'
        rw [List.append_nil] at hO'
        obtain ⟨rr, hrr⟩ : ∃ rr, rr = n0 + y.1 := ⟨_, rfl⟩
        have hyM : y.1 < M := y.2
        have hrD : rr * D = ND + y.1 * D := by rw [hrr, Nat.add_mul, HnR.out.2.2.1]
        have hrl : rr * D + D ≤ da.length := by
          rw [HN.out.1]
          have : (rr + 1) * D ≤ NB * Rb * D := Nat.mul_le_mul_right D (by have := HnR.out; omega)
          rwa [Nat.add_mul, Nat.one_mul] at this
        have hxl : x.1 * (D * C) + D * C ≤ db.length := by
          rw [HN.out.2.1]
          have : (x.1 + 1) * (D * C) ≤ NB * (D * C) := Nat.mul_le_mul_right _ x.2
          rwa [Nat.add_mul, Nat.one_mul] at this
        have hBW5' : Below w5.heap.size w5 W' := F0.out.trans (hBW'.mono (by have := Z9.out; omega))
        have hBw : Below w.heap.size w W' := B5.out.trans (hBW5'.mono B5.out.size)
        have KSU : Hid (Calls Tryz.prog 103 #[.agg #[.slice oS S.length cS, .int .i64 (Rb : Nat), .int .i64 (D : Nat), .int .i64 (C : Nat)], .slice (some ⟨ba, fa + ND + y.1 * D, none⟩) D D, .slice (some ⟨bb, fb' + x.1 * DC, none⟩) DC DC] W' (SomeZ W' (mS da db D C x.1 rr) C)) := Lib.hid (by
          have q1 := ld_mid (HD2.out.below hBw) hrl
          have q2 := ld_mid (HE2.out.below hBw) hxl
          rw [hrD, ← Nat.add_assoc] at q1
          rw [← HDC.out] at q2
          have q := sums_any (.slice oS S.length cS) _ _ (Rb : Nat) D C _ _ W' ⟨_, _, _, rfl⟩ q1 q2 (by simp; omega) (by simp; rw [HDC.out] at *; omega) hD1 HB.out.2.1 (by rw [← HDC.out]; have := Nat.mul_le_mul_right DC HB.out.2.2.2.1; omega) (wds_mid HN.out.2.2.1 (by omega)) (wds_mid HN.out.2.2.2 (by rw [HDC.out]; omega))
          refine q.mono (fun e w' hh => ?_)
          obtain ⟨g, rfl, h1, h2⟩ := hh
          refine ⟨g, rfl, Lib.hid ?_, h2⟩
          have h3 := h1.out
          rw [← hrD, HDC.out] at h3
          rwa [wcs_mS] at h3)
        have y8 := R8.out.below hBW' (by have := Z9.out; omega)
        obtain ⟨y0, y1, y2, y3⟩ := blk4 y8
        have bxc := hX'.1.cell
        have HI0 := Lib.hid (And.intro hT' (And.intro hO' (And.intro hN' (And.intro hBW' (And.intro hS' (And.intro hok' (And.intro hX' hK')))))))
        have HL2 := Lib.hid (And.intro hlr (And.intro hRL (And.intro hrr (And.intro hyM (And.intro hrD (And.intro hrl hxl))))))
        clear hT' hO' hN' hBW' hS' hok' hX' hK' hlr hRL hrr hyM hrD hrl hxl hBw hBW5' y8
        gi_wp2_with (refine And.intro trivial ?_; (with_reducible refine CallsIn.mono (CallsIn.inRound _ (CallsIn.inRound _ (callsIn_wide.2 KSU.out))) ?_); rintro e X1 ⟨g, rfl, hgb, hb1⟩; have b1 := Lib.hid hb1; have HG := Lib.hid hgb.out; clear hb1 hgb)
        clear y0 y1 y2 y3 bxc KSU
        have HX0 : Hid (MSt da db D C f W0 T0 (.slice oS S.length cS) RL (n0 + pre'.length) (rwv da db D C f (x.1, rr) 0) X1) := Lib.hid (by
          obtain ⟨i1', i2', i3', i4', i5', i6', _⟩ := HI0.out
          have e0 : dat da db D C f RL ++ rwv da db D C f (x.1, rr) 0 = dat da db D C f RL := List.append_nil _
          refine ⟨vd', i1'.below b1.out i1'.lt, ?_, i3'.below b1.out i3'.lt, i4'.trans (b1.out.mono (by have := E0.out; omega)), Nat.le_trans i5' b1.out.size, i6'⟩
          rw [e0]; exact Below.keepOwn i2' b1.out (Nat.le_refl _))
        have HgT : Hid (g ≠ T0) := Lib.hid (fun e => by
          subst e
          have h1 := HG.out
          obtain ⟨vv, h2, _⟩ := HX0.out
          rw [Blk, show X1.heap[g]? = _ from h2] at h1
          simp at h1)
        gi_loopw [72] (fun s72 wQ => ∃ j : Nat, j ≤ C ∧ s72 = .int .i64 j ∧ Hid (MSt da db D C f W0 T0 (.slice oS S.length cS) RL (n0 + pre'.length) (rwv da db D C f (x.1, rr) j) wQ) ∧ Hid (∀ i, i < j → er3 da db D C f x.1 rr i = 0) ∧ Hid (Sm W0.heap.size T0 X1 wQ)) (fun s72 _ => C - (intOf s72).toNat)
        case atStart => exact ⟨0, Nat.zero_le _, rfl, HX0, Lib.hid (fun i hi => absurd hi (Nat.not_lt_zero _)), Lib.hid (Sm.refl _ _ _)⟩
        case round =>
          obtain ⟨j, hj, rfl, HM, HEr, HS⟩ := hrel
          obtain ⟨vj, m1, m2, m3, m4, m5, m6⟩ := HM.out
          have BW5 := Lib.hid (F0.out.trans (m4.mono (show w5.heap.size ≤ T0 by have := Z9.out; omega)))
          by_cases hjc : j < C
          · have hwg := HS.out.blk HG.out HgT.out (by decide)
            have hlc := wcs_at (f := mS da db D C x.1 rr) hjc
            have l0 := (hwg.cell (j * 2)).trans hlc.1
            have l1 := (hwg.cell (j * 2 + 1)).trans hlc.2
            have hsR : R (mS da db D C x.1 rr j) := by
              rw [← cS_mS hjc]
              have q := HL2.out
              exact cS_R hD1.2 (Nat.le_refl _) hjc (by simp; omega) (by simp; omega) (wds_mid HN.out.2.2.1 (by omega)) (wds_mid HN.out.2.2.2 (by omega))
            have KCL := Lib.hid (fun (V : World) => close3_any (mS da db D C x.1 rr j) f V hsR HSP.out.2)
            have KFX : Hid (∀ V, Below wr.heap.size wr V → V.cell? ⟨w.heap.size + 2, 0, none⟩ = some (.int .i64 (f : Nat))) := Lib.hid (fun V hV => (FK.out _ (BW5.out.trans (hV.mono BW5.out.size))).2.2)
            have hva : va3 da db D C f x.1 rr j = tw (rd (mS da db D C x.1 rr j) (2 ^ f)) := rfl
            have hve : er3 da db D C f x.1 rr j = te (rd (mS da db D C x.1 rr j) (2 ^ f)) := rfl
            rw [← hva, ← hve] at KCL
            generalize mS da db D C x.1 rr j = s at *
            have HWR := Lib.hid (And.intro m1 (And.intro m2 (And.intro m3 (And.intro m4 (And.intro m5 m6)))))
            have KA := Lib.hid ((Below.refl wr.heap.size wr).alloc (Nat.le_refl _) (.cells #[.int .i64 (hi s), .int .u64 (lo s)] 121))
            have x4 := KFX.out _ KA.out
            clear m1 m2 m3 m4 m5 m6 hwg hlc hsR hva hve
            have hC6 : C ≤ 4096 := HB.out.2.1.2
            have hTB : T0 + 1 < W0.heap.size := by have := E0.out; omega
            have hRLl : RL.length = n0 + pre'.length := by rw [HL2.out.2.1, List.length_append, rows_len, List.length_map]
            have hlen : (dat da db D C f RL ++ rwv da db D C f (x.1, rr) j).length ≤ 65536 := by
              rw [List.length_append, dat_len, rwv_len, hRLl]
              have h1 : (n0 + pre'.length + 1) * C ≤ NB * Rb * C := Nat.mul_le_mul_right C (by have := HL2.out.1; have := HnR.out; omega)
              rw [Nat.add_mul, Nat.one_mul] at h1
              have := HB.out.2.2.2.2.2.2
              omega
            by_cases he : er3 da db D C f x.1 rr j = 0
            · have KC0 : Hid (∀ V, Calls Tryz.prog 90 #[.agg #[.int .i64 (hi s), .int .u64 (lo s)], .int .i64 (f : Nat)] V fun e w' => e = .returned (.tuple #[.int .i64 (va3 da db D C f x.1 rr j), .int .i64 0]) ∧ Below V.heap.size V w') := Lib.hid (fun V => by have q := KCL.out V; rw [he] at q; exact q)
              have EA : Hid (dat da db D C f RL ++ rwv da db D C f (x.1, rr) (j + 1) = (dat da db D C f RL ++ rwv da db D C f (x.1, rr) j) ++ [va3 da db D C f x.1 rr j]) := Lib.hid (by rw [rwv_snoc, List.append_assoc])
              have HE3 : Hid (∀ i, i < j + 1 → er3 da db D C f x.1 rr i = 0) := Lib.hid (fun i hi => by
                by_cases e : i = j
                · subst e; exact he
                · exact HEr.out i (by omega))
              generalize va3 da db D C f x.1 rr j = v at *
              obtain ⟨DL, hDL⟩ : ∃ DL, DL = dat da db D C f RL ++ rwv da db D C f (x.1, rr) j := ⟨_, rfl⟩
              rw [← hDL] at HWR EA hlen
              clear hDL he KCL HM HEr hRLl
              gi_wp2_with (first
                | (gi_at_builtin; refine wpListIn_append_own _ rfl _ _ 24 rfl W0.heap.size 2 i1 (.int .i64 0) 1 8 Tryz.underlying24 hi1 hy0 hy1 hy2 rfl (by decide) vj DL.length (ints DL) rfl (HO.out.alloc _) ⟨X2.heap.size, 0, none⟩ 1 1 [.int .i64 v] rfl rfl (cell_one_new _ _ _) (by simp [Value.oneCell']) (by unfold maxLen; omega) (by omega) (by simp; omega) ?_; intro v9 w9x hown hgrow _; obtain ⟨g9, cp9, rfl⟩ := own_slice1 hown (by omega); replace hgrow := grown_predrew2 hgrow; have Q9 := Lib.hid (cp_step (g := X2.heap.size + 1) HT.out HO.out HB2.out hgrow (.inr rfl) (Nat.lt_of_succ_lt hTB) s3); have HOW := Lib.hid hown; have HNX := Lib.hid ((((HN2.out.alloc (.cells #[.int .i64 v] 2)).drew).kept hgrow (fun e => by have := (HO.out.lt (T0 + 1) e.symm).1; omega))); have HSM := Lib.hid (sm_step (T := T0) (g := g9) (m := 1) (c := cp9) HO.out hgrow); have HSZ := Lib.hid hgrow.size; obtain ⟨p0, p1, h0, h1⟩ := blk2 Q9.out.1; clear hown hgrow)
                | (refine And.intro trivial ?_; (with_reducible refine CallsIn.mono (CallsIn.inRound _ (CallsIn.inRound _ (callsIn_wide.2 (KC0.out _)))) ?_); rintro e X2 ⟨rfl, hb2⟩; have b2 := Lib.hid (KA.out.trans (hb2.mono KA.out.size)); have HT := Lib.hid (HWR.out.1.below b2.out HWR.out.1.lt); have HO := Lib.hid (Below.keepOwn HWR.out.2.1 b2.out (Nat.le_refl _)); have HN2 := Lib.hid (HWR.out.2.2.1.below b2.out HWR.out.2.2.1.lt); have HB2 := Lib.hid (HWR.out.2.2.2.1.trans (b2.out.mono (by have := HWR.out.2.2.2.2.1; have := E0.out; omega))); have s3 := Nat.le_trans HWR.out.2.2.2.2.1 b2.out.size; obtain ⟨t0, t1, tf0, tf1⟩ := blk2 HT.out; clear hb2))
              have FIN : Hid (MSt da db D C f W0 T0 (.slice oS S.length cS) RL (n0 + pre'.length) (rwv da db D C f (x.1, rr) (j + 1)) (w9x.setCell ⟨T0, 1, none⟩ (.slice (some ⟨g9, 0, none⟩) (DL.length + 1) cp9))) := Lib.hid (by
                refine ⟨_, Q9.out.1.set_ 1 _, ?_, HNX.out.far (p := ⟨T0, 1, none⟩) (by show ¬ T0 + 1 = T0; omega) _, Q9.out.2.setCell (p := ⟨T0, 1, none⟩) (Nat.le_refl _) _, ?_, HWR.out.2.2.2.2.2⟩
                · rw [EA.out, ints_snoc, List.length_append]
                  exact own_setx (i := 1) HOW.out Q9.out.1 (by decide)
                · have h9 := HSZ.out
                  rw [show (X2.alloc (.cells #[.int .i64 v] 2)).drew.heap.size = X2.heap.size + 1 from World.size_alloc _ _] at h9
                  rw [World.size_setCell]
                  omega)
              have FSM := Lib.hid ((HS.out.trans (Sm.of b2.out)).trans HSM.out)
              go_roundw
              case rel => exact ⟨j + 1, by omega, by go_num, FIN, HE3, FSM⟩
              case measure => simp [intOf]; omega
            · have hev : (er3 da db D C f x.1 rr j != 0) = true := by rw [bne_iff_ne]; exact he
              have KC0 : Hid (∀ V, Calls Tryz.prog 90 #[.agg #[.int .i64 (hi s), .int .u64 (lo s)], .int .i64 (f : Nat)] V fun e w' => e = .returned (.tuple #[.int .i64 (va3 da db D C f x.1 rr j), .int .i64 (er3 da db D C f x.1 rr j)]) ∧ Below V.heap.size V w') := Lib.hid (fun V => KCL.out V)
              have HEE := Lib.hid he
              have HQ3 : Hid (∀ V, Below wr.heap.size wr V → Blk V (w.heap.size + 3) 26 #[.slice none 0 0, .slice none 0 0] ∧ Blk V (w.heap.size + 4) 41 #[.int .i64 0]) := Lib.hid (fun V hV => ⟨Q3.out.below (BW5.out.trans (hV.mono BW5.out.size)) Q3.out.lt, Q4.out.below (BW5.out.trans (hV.mono BW5.out.size)) Q4.out.lt⟩)
              generalize hEE : er3 da db D C f x.1 rr j = E at *
              have HEQ := Lib.hid hEE
              generalize va3 da db D C f x.1 rr j = v at *
              clear he KCL HM hEE hlen hRLl
              gi_wp2_with (refine And.intro trivial ?_; (with_reducible refine CallsIn.mono (CallsIn.inRound _ (CallsIn.inRound _ (callsIn_wide.2 (KC0.out _)))) ?_); rintro e X2 ⟨rfl, hb2⟩; have b2 := Lib.hid (KA.out.trans (hb2.mono KA.out.size)); obtain ⟨z3, z4⟩ := HQ3.out _ b2.out; obtain ⟨t0, t1, tf0, tf1⟩ := blk2 z3; have u0 := z4.cell 0; have uf0 := z4.frozen 0; have HZ3 := Lib.hid (And.intro z3 z4); clear z3 z4; clear hb2)
              have SW := Lib.hid (((Sm.of b1.out).trans HS.out).trans (Sm.of (B := W0.heap.size) (T := T0) b2.out))
              have hz : w.heap.size + 5 ≤ P8 ∧ T0 = P8 + 1 ∧ W0.heap.size = C1 + 2 ∧ C1 = T0 + 2 ∧ W0.heap.size ≤ V0.heap.size := by have := Z9.out; have := S5.out; have := E0.out; omega
              have KM := mkp_sm HI0.out.2.2.2.2.2.2.2 SW.out (by omega) (by omega) HI0.out.2.2.2.2.1
              have KM2 := mkp_set (i := 0) (v := .int .i64 E) (mkp_set (i := 1) (v := .slice none 0 0) (mkp_set (i := 0) (v := .slice none 0 0) KM (show C1 ≠ w.heap.size + 3 by omega) (show C1 + 1 ≠ w.heap.size + 3 by omega)) (show C1 ≠ w.heap.size + 3 by omega) (show C1 + 1 ≠ w.heap.size + 3 by omega)) (show C1 ≠ w.heap.size + 4 by omega) (show C1 + 1 ≠ w.heap.size + 4 by omega)
              have KK := ((SW.out.keeps (show T0 < V0.heap.size by omega)).trans ((KeepsOthers.setCell _ ⟨w.heap.size + 3, 0, none⟩ (.slice none 0 0)).from _)).trans (((KeepsOthers.setCell _ ⟨w.heap.size + 3, 1, none⟩ (.slice none 0 0)).from _).trans ((KeepsOthers.setCell _ ⟨w.heap.size + 4, 0, none⟩ (.int .i64 E)).from _))
              have q3 := ((HZ3.out.1.set_ 0 (.slice none 0 0)).set_ 1 (.slice none 0 0)).far (p := ⟨w.heap.size + 4, 0, none⟩) (by show ¬ w.heap.size + 3 = w.heap.size + 4; omega) (.int .i64 E)
              have q4 := ((HZ3.out.2.far (p := ⟨w.heap.size + 3, 0, none⟩) (by show ¬ w.heap.size + 4 = w.heap.size + 3; omega) (.slice none 0 0)).far (p := ⟨w.heap.size + 3, 1, none⟩) (by show ¬ w.heap.size + 4 = w.heap.size + 3; omega) (.slice none 0 0)).set_ 0 (.int .i64 E)
              have qb := (((B5.out.trans ((BW5.out.trans (b2.out.mono BW5.out.size)).mono B5.out.size)).setCell (p := ⟨w.heap.size + 3, 0, none⟩) (Nat.le_add_right _ _) (.slice none 0 0)).setCell (p := ⟨w.heap.size + 3, 1, none⟩) (Nat.le_add_right _ _) (.slice none 0 0)).setCell (p := ⟨w.heap.size + 4, 0, none⟩) (Nat.le_add_right _ _) (.int .i64 E)
              have EN := HL2.out
              refine ⟨KK, .inr ⟨rfl, pre', y, j, rfl, EN.1, hjc, ?_, ?_, ?_, q3, ?_, qb⟩, KM2⟩
              · rw [← EN.2.1]; exact HWR.out.2.2.2.2.2
              · rw [← EN.2.2.1]; exact HEr.out
              · rw [← EN.2.2.1, HEQ.out]; exact HEE.out
              · rw [← EN.2.2.1, HEQ.out]; exact q4
          · have hjC : j = C := by omega
            rw [hjC] at m2 HEr
            obtain ⟨q, hq⟩ : ∃ q, q = n0 + pre'.length := ⟨_, rfl⟩
            rw [← hq] at m3
            have hz : w.heap.size + 5 ≤ P8 ∧ T0 = P8 + 1 ∧ W0.heap.size = C1 + 2 ∧ C1 = T0 + 2 ∧ W0.heap.size ≤ V0.heap.size ∧ D1 = W.heap.size ∧ W0.heap.size ≤ W.heap.size ∧ W0.heap.size ≤ Bx := by have := Z9.out; have := S5.out; have := E0.out; have := E1.out; have := HWW.out.2.2.1; have := HWW.out.2.2.2.1; omega
            have y8 := R8.out.below m4 (show P8 < T0 by omega)
            have y8s := y8.far (p := ⟨T0 + 1, 0, none⟩) (by show ¬ P8 = T0 + 1; omega) (.int .i64 ((q : Int) + 1))
            have SW := Lib.hid ((Sm.of (B := W0.heap.size) (T := T0) b1.out).trans HS.out)
            have KM := mkp_set (b := T0 + 1) (i := 0) (v := .int .i64 ((q : Int) + 1)) (mkp_sm HI0.out.2.2.2.2.2.2.2 SW.out (by omega) (by omega) HI0.out.2.2.2.2.1) (by omega) (by omega)
            have KK := (SW.out.keeps (show T0 < V0.heap.size by omega)).trans ((KeepsOthers.setCell wr ⟨T0 + 1, 0, none⟩ (.int .i64 ((q : Int) + 1))).from _)
            obtain ⟨ib, id1, id2⟩ := HI0.out.2.2.2.2.2.2.1
            have hdd : D1 + 1 ≠ T0 + 1 := by omega
            have bx2 := (SW.out.blk (boxed_blk ib) (by omega) (by decide)).far (p := ⟨T0 + 1, 0, none⟩) (by show ¬ Bx = T0 + 1; omega) (.int .i64 ((q : Int) + 1))
            have d12 := (SW.out.blk (boxed_blk id1) (by omega) (by decide)).far (p := ⟨T0 + 1, 0, none⟩) (by show ¬ D1 = T0 + 1; omega) (.int .i64 ((q : Int) + 1))
            have d22 := (SW.out.blk (boxed_blk id2) (by omega) (by decide)).far (p := ⟨T0 + 1, 0, none⟩) (by show ¬ D1 + 1 = T0 + 1; omega) (.int .i64 ((q : Int) + 1))
            have KP : Kp2 D1 (D1 + 1) W' (wr.setCell ⟨T0 + 1, 0, none⟩ (.int .i64 ((q : Int) + 1))) := ⟨(show _ = _ from d12).trans (show _ = _ from boxed_blk id1).symm, (show _ = _ from d22).trans (show _ = _ from boxed_blk id2).symm⟩
            have hRLl : RL.length = n0 + pre'.length := by rw [HL2.out.2.1, List.length_append, rows_len, List.length_map]
            have FIN2 : MSt da db D C f W0 T0 (.slice oS S.length cS) (rows Rb (L ++ [x.1]) n0 ++ (pre' ++ [y]).map (fun y : Fin M => (x.1, n0 + y.1))) (q + 1) [] (wr.setCell ⟨T0 + 1, 0, none⟩ (.int .i64 ((q : Int) + 1))) := by
              have hNq : Blk (wr.setCell ⟨T0 + 1, 0, none⟩ (.int .i64 ((q : Int) + 1))) (T0 + 1) 3 #[.int .i64 ((q + 1 : Nat) : Int)] := by
                have h := m3.set_ 0 (.int .i64 ((q : Int) + 1))
                rw [show ((q + 1 : Nat) : Int) = (q : Int) + 1 by push_cast; rfl]
                exact h
              have e1 : rows Rb (L ++ [x.1]) n0 ++ (pre' ++ [y]).map (fun y : Fin M => (x.1, n0 + y.1)) = RL ++ [(x.1, rr)] := by
                rw [List.map_append, ← List.append_assoc, ← HL2.out.2.1, HL2.out.2.2.1]; rfl
              rw [e1]
              refine ⟨vj, m1.far (p := ⟨T0 + 1, 0, none⟩) (by show ¬ T0 = T0 + 1; omega) _, ?_, hNq, m4.setCell (p := ⟨T0 + 1, 0, none⟩) (Nat.le_succ _) _, by rw [World.size_setCell]; exact m5, okr_snoc da db D C f m6 HEr.out⟩
              rw [List.append_nil, dat_snoc]
              exact own_setx (i := 0) m2 m3 (by decide)
            have HF := Lib.hid (And.intro KK (And.intro KP (And.intro FIN2 (And.intro KM (And.intro bx2 (And.intro d12 d22))))))
            have n1 := m3.cell 0
            have n2 := m3.frozen 0
            have yy := y8.cell 1
            have yy2 := y8s.cell 1
            have hRb6 : Rb ≤ 65536 ∧ q ≤ 65536 ∧ NB * Rb ≤ 65536 := by
              have h1 := Nat.mul_le_mul (Nat.le_refl (NB * Rb)) hD1.1
              have h2 := Nat.mul_le_mul_right Rb HB.out.2.2.2.1
              have h3 := HB.out.2.2.2.2.1
              have h4 := HnR.out
              have h5 := HL2.out
              omega
            have HQ := Lib.hid (And.intro hq (And.intro hRLl hz))
            have hRb6a := hRb6.1
            have hq6a := hRb6.2.1
            clear hz hRLl KK KP FIN2 KM bx2 d12 d22 ib id1 id2 y8 y8s m1 m2 m3 m4 m5 m6 hjC hRb6 hdd hq
            by_cases hlast : pre'.length + 1 = Rb
            · have hrem : ((q : Int) + 1) % (Rb : Int) = 0 := by
                have e1 : (q : Int) + 1 = ((pre.length + 1 : Nat) : Int) * (Rb : Int) := by
                  rw [← Int.natCast_mul, HQ.out.1, HnR.out.2.2.2, Nat.add_mul, Nat.one_mul]
                  omega
                rw [e1]; exact Int.mul_emod_left _ _
              have HLS := Lib.hid hlast
              clear hlast
              gi_wp2
              have e5 : n0 + Rb = q + 1 := by have := HLS.out; have := HQ.out.1; omega
              refine ⟨HF.out.1, .inl ⟨rfl, ?_, ?_⟩, HF.out.2.2.2.1⟩
              · rw [List.length_append]; exact HLS.out
              · rw [e5]; exact HF.out.2.2.1
            · have hrem : ((q : Int) + 1) % (Rb : Int) = ((pre'.length + 1 : Nat) : Int) := by
                have e1 : (q : Int) + 1 = ((pre'.length + 1 : Nat) : Int) + (pre.length : Int) * (Rb : Int) := by
                  rw [← Int.natCast_mul, HQ.out.1, HnR.out.2.2.2]; push_cast; omega
                rw [e1, Int.add_mul_emod_self_right]
                exact Int.emod_eq_of_lt (by omega) (by have := HL2.out.1; omega)
              have hne : (((pre'.length + 1 : Nat) : Int) == 0) = false := by simp; omega
              have HLS := Lib.hid (And.intro hlast HL2.out.1)
              clear hlast
              obtain ⟨ml, hml⟩ : ∃ ml : Nat, ml = pre'.length + 1 := ⟨_, rfl⟩
              rw [← hml] at hrem hne
              clear hml
              gi_wp2
              have e5 : n0 + (pre' ++ [y]).length = q + 1 := by rw [List.length_append]; have := HQ.out.1; simp; omega
              refine ⟨HF.out.1, HF.out.2.1, ⟨?_, ?_⟩, ⟨HF.out.2.2.2.2.1, HF.out.2.2.2.2.2.1, HF.out.2.2.2.2.2.2⟩, HF.out.2.2.2.1⟩
              · rw [e5]; exact HF.out.2.2.1
              · rw [List.length_append]; have := HLS.out; simp; omega
      case done2 =>
        rintro ys W' hys ⟨⟨_, h2⟩, _⟩
        rw [show ys = _ from hys, cks_len] at h2
        exact absurd h2 (by have := HnR.out; omega)
      case stop2 =>
        rintro c pre' W' ⟨k, hk, rfl⟩ ⟨(⟨rfl, h1, h2⟩ | ⟨rfl, h⟩), h3⟩
        · rw [cks_len] at h1
          subst h1
          have hL0 : L.length * k = n0 := by rw [HLL.out.2, ← HnR.out.2.2.2]
          have hrw := rows_ext k L x.1 hRb1 k (Nat.le_refl _)
          rw [hL0] at hrw
          rw [cks_rows, ← hrw] at h2
          have e1 : (pre ++ [x]).map (fun x : Fin NB => x.1) = L ++ [x.1] := by rw [List.map_append, HLL.out.1]; rfl
          have e2 : (pre ++ [x]).length * k = n0 + k := by rw [List.length_append, Nat.add_mul, ← HnR.out.2.2.2]; simp
          have h5 : MSt da db D C f W0 T0 (.slice oS S.length cS) (rows k ((pre ++ [x]).map (fun x : Fin NB => x.1)) ((pre ++ [x]).length * k)) ((pre ++ [x]).length * k) [] W' := by rw [e1, e2]; exact h2
          have H5 := Lib.hid (And.intro h3.1 (And.intro h3.2.1 h5))
          clear h2 h3 h5 e1 e2 hrw
          gi_wp2
          exact H5.out
        · obtain ⟨front, y, j, a1, a2, a3, a4, a5, a6, a7, a8, a9⟩ := h
          obtain ⟨q, rfl⟩ : ∃ q, k = q + 1 := ⟨k - 1, by
            have := congrArg List.length a1
            rw [cks_len, List.length_append] at this
            simp at this; omega⟩
          obtain ⟨b1, b2⟩ := List.append_inj' (show cks q (Nat.le_of_succ_le hk) ++ [⟨q, hk⟩] = front ++ [y] from a1) rfl
          subst b1
          obtain rfl : (⟨q, hk⟩ : Fin M) = y := by simpa using b2
          rw [cks_len] at a2
          have hL0 : L.length * Rb = n0 := by rw [HLL.out.2, ← HnR.out.2.2.2]
          have hrw := rows_ext Rb L x.1 hRb1 q (Nat.le_of_lt a2)
          have hgd := getD_snoc Rb L x.1 q hRb1 a2
          rw [hL0] at hrw hgd
          rw [cks_rows, ← hrw] at a4
          have e1 : (pre ++ [x]).map (fun x : Fin NB => x.1) = L ++ [x.1] := by rw [List.map_append, HLL.out.1]; rfl
          have h5 : MEr da db D C Rb f w ((pre ++ [x]).map (fun x : Fin NB => x.1)) W' := by
            rw [e1]
            refine ⟨n0 + q, j, ?_, a3, a4, ?_, ?_, a7, ?_, a9⟩
            · rw [List.length_append, Nat.add_mul, hL0]; simp; omega
            · rw [hgd]; exact a5
            · rw [hgd]; exact a6
            · rw [hgd]; exact a8
          have H5 := Lib.hid (And.intro h3.1 h5)
          clear a1 a4 a5 a6 a7 a8 a9 hrw hgd e1 h5 h3 b2
          gi_wp2
          exact ⟨H5.out.1, rfl, H5.out.2⟩
  case done =>
    rintro Dq ys X hD hys ⟨dv, hTb, hDv, hNb, hBX, hXs, hok⟩ hK
    have hL : (ys.map (fun x : Fin NB => x.1)) = List.range NB := by rw [show ys = _ from hys]; exact cks_map NB _
    have hl : ys.length = NB := by rw [show ys = _ from hys]; exact cks_len NB _
    rw [hL, hl] at hDv hok
    rw [List.append_nil, dat_all HB.out.2.2.1 _ (Nat.le_refl _)] at hDv
    have hf : fer (mvr da db D C Rb f) (NB * Rb * C) = 0 := fer_no (okr_all HB.out.2.2.1 (Nat.le_refl _) hok)
    have e0 := E0.out
    have z9 := Z9.out
    have s5 := S5.out
    have hBX5 : Below w5.heap.size w5 X := F0.out.trans (hBX.mono (by omega))
    obtain ⟨c0', c1', f0, f1⟩ := blk2 hTb
    have R2 := Q3.out.below hBX5 Q3.out.lt
    have R3 := Q4.out.below hBX5 Q4.out.lt
    obtain ⟨d0, d1, g0, g1⟩ := blk2 R2
    obtain ⟨u0, uf0⟩ := And.intro (R3.cell 0) (R3.frozen 0)
    obtain ⟨od, cd, rfl, _⟩ := Ld.of_owns hDv
    have HDv := Lib.hid hDv
    have HF := Lib.hid hf
    have hRW := own_low RW.out hBX OWb.out
    have HX := Lib.hid (And.intro R2 (And.intro R3 (And.intro hBX5 (And.intro hK hRW))))
    have hDa : ¬ Dq = w.heap.size + 3 := by omega
    have hDb : ¬ Dq = w.heap.size + 4 := by omega
    have HN4 := Lib.hid (And.intro hD (And.intro e0 (And.intro z9 s5)))
    clear hTb hDv hBX hf R2 R3 hK hys hL hl hok hNb hRW hBX5 e0 z9 s5 hD hXs
    generalize hVL : vls (mva da db D C Rb f) (NB * Rb * C) = VL at *
    have HK2 := Lib.hid (show (((X.setCell ⟨w.heap.size + 3, 0, none⟩ (.slice oS S.length cS)).setCell ⟨w.heap.size + 3, 1, none⟩ (.slice od VL.length cd)).setCell ⟨w.heap.size + 4, 0, none⟩ (.int .i64 0)).heap[Dq]? = some (.deferred (some [])) from ((Below.heap_setCell _ _ _ _ hDb).trans ((Below.heap_setCell _ _ _ _ hDa).trans (Below.heap_setCell _ _ _ _ hDa))).trans HX.out.2.2.2.1)
    have E1 := Lib.hid (eachm_end HX.out.2.2.2.2 HX.out.1 HX.out.2.1 (by omega) HX.out.2.2.2.1 rfl (by decide) (by decide) (.slice oS S.length cS) (.slice od VL.length cd) (.int .i64 0) (.deferred none))
    have E2 := Lib.hid (eachm_end HDv.out HX.out.1 HX.out.2.1 (by omega) HX.out.2.2.2.1 rfl (by decide) (by decide) (.slice oS S.length cS) (.slice od VL.length cd) (.int .i64 0) (.deferred none))
    have E3 := Lib.hid (((((B5.out.trans (HX.out.2.2.1.mono B5.out.size)).setCell (p := ⟨w.heap.size + 3, 0, none⟩) (by show w.heap.size ≤ w.heap.size + 3; omega) (.slice oS S.length cS)).setCell (p := ⟨w.heap.size + 3, 1, none⟩) (by show w.heap.size ≤ w.heap.size + 3; omega) (.slice od VL.length cd)).setCell (p := ⟨w.heap.size + 4, 0, none⟩) (by show w.heap.size ≤ w.heap.size + 4; omega) (.int .i64 0)).trans (belowK_b (w := w) (Nat.le_refl _) _ Dq _ (.deferred none) (by have := HN4.out; omega) HK2.out rfl rfl))
    have q1 : Blk ((((X.setCell ⟨w.heap.size + 3, 0, none⟩ (.slice oS S.length cS)).setCell ⟨w.heap.size + 3, 1, none⟩ (.slice od VL.length cd)).setCell ⟨w.heap.size + 4, 0, none⟩ (.int .i64 0)).putObj Dq (.deferred none)) (w.heap.size + 3) 26 #[.slice oS S.length cS, .slice od VL.length cd] := (((HX.out.1.set_ 0 _).set_ 1 _).far (p := ⟨w.heap.size + 4, 0, none⟩) (by show ¬ w.heap.size + 3 = w.heap.size + 4; omega) _).kept (grownBy_putObj' _ Dq _) (by intro e; cases e; omega)
    have q2 : Blk ((((X.setCell ⟨w.heap.size + 3, 0, none⟩ (.slice oS S.length cS)).setCell ⟨w.heap.size + 3, 1, none⟩ (.slice od VL.length cd)).setCell ⟨w.heap.size + 4, 0, none⟩ (.int .i64 0)).putObj Dq (.deferred none)) (w.heap.size + 4) 41 #[.int .i64 0] := (((HX.out.2.1.far (p := ⟨w.heap.size + 3, 0, none⟩) (by show ¬ w.heap.size + 4 = w.heap.size + 3; omega) _).far (p := ⟨w.heap.size + 3, 1, none⟩) (by show ¬ w.heap.size + 4 = w.heap.size + 3; omega) _).set_ 0 _).kept (grownBy_putObj' _ Dq _) (by intro e; cases e; omega)
    have Q := Lib.hid (And.intro (q1.cell 0) (And.intro (q1.cell 1) (q2.cell 0)))
    clear q1 q2 HX
    go_wp2
    rw [Exit.noGoto_ret]
    refine ⟨by simp, .inl ⟨_, _, rfl, run_takeDeferred HK2.out, ?_⟩⟩
    obtain ⟨p0, p1, p2⟩ := Q.out
    refine ⟨.tuple #[.agg #[.slice oS S.length cS, .slice od VL.length cd], .int .i64 0], by simp [results, Tryz.results40, go_sem, p0, p1, p2], ?_⟩
    rw [HF.out]
    exact ⟨oS, cS, od, cd, rfl, own_base E1.out B5.out.size, own_base E2.out (by have := HN4.out; omega), E3.out⟩
  case stop =>
    rintro Dq cd pre X hD ⟨k0, hk0, rfl⟩ ⟨rfl, n, j, b1, b2, b3, b4, b5, h1, h2, h3⟩ hK
    rw [cks_map] at b1 b3 b4 b5 h2
    rw [List.length_range] at b1
    have hk1 : n / Rb < k0 := Nat.div_lt_of_lt_mul (by rw [Nat.mul_comm]; exact b1)
    rw [range_getD hk1] at b4 b5 h2
    have hrw : rows Rb (List.range k0) n = rows Rb (List.range NB) n := by
      unfold rows
      refine List.map_congr_left (fun r hr => ?_)
      have h1 := List.mem_range.1 hr
      have h2 : r / Rb ≤ n / Rb := Nat.div_le_div_right (by omega)
      rw [range_getD (by omega), range_getD (by omega)]
    rw [hrw] at b3
    have hn : n < NB * Rb := by
      have := Nat.mul_le_mul_right Rb hk0
      omega
    have HF := Lib.hid (fer_row (NB := NB) HB.out.2.2.1 hn b2 b3 b4 b5)
    have HZ := Lib.hid b5
    generalize er3 da db D C f (n / Rb) n j = E at *
    have e1 := h2.kept (grownBy_putObj' X Dq (.deferred none)) (by intro e; cases e; rw [show X.heap[_]? = _ from h2] at hK; cases hK)
    have e2 := h1.kept (grownBy_putObj' X Dq (.deferred none)) (by intro e; cases e; rw [show X.heap[_]? = _ from h1] at hK; cases hK)
    have e3 : Below w.heap.size w (X.putObj Dq (.deferred none)) := h3.trans (belowK_b (w := w) (Nat.le_refl _) _ Dq _ (.deferred none) (by have := E0.out; have := Z9.out; have := S5.out; omega) hK rfl rfl)
    obtain ⟨p0, p1, _⟩ := blk2 e2
    have p2 := e1.cell 0
    have HE := Lib.hid e3
    have HK := Lib.hid hK
    clear e1 e2 e3 hK h1 h2 h3 b1 b2 b3 b4 b5 hk1 hrw hn
    gi_wp2
    go_wp2
    rw [Exit.noGoto_ret]
    refine ⟨by simp, .inl ⟨_, _, rfl, run_takeDeferred HK.out, ?_⟩⟩
    refine ⟨.tuple #[.agg #[.slice none 0 0, .slice none 0 0], .int .i64 E], by simp [results, Tryz.results40, go_sem, p0, p1, p2], ?_⟩
    rw [HF.out]
    have u0 : ∀ l : List Int, unl E l = [] := fun l => by unfold unl; rw [if_neg HZ.out]
    rw [u0, u0]
    exact ⟨none, 0, none, 0, rfl, World.ownsRow_nil _ _ _ _, World.ownsRow_nil _ _ _ _, HE.out⟩
end Go.Proofs.YtmafgdinegboeaaGreat
