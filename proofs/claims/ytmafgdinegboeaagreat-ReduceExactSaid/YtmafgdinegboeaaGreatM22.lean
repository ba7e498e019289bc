/-
  package reduce: Max.
-/
import Derived.Test.YtmafgdinegboeaaGreatM21
namespace Go.Proofs.YtmafgdinegboeaaGreat
open Go Go.RowKit Go.Shelf
attribute [local go_sem] Oper.semAt_some

/-- Where the n-th place's index stands along an axis. -/
def stx (sh : List Int) (a : Nat) (n : Nat) : Int := (atl sh (n : Nat)).getD a 0
/-- The greatest words when n are counted, and where they stand. -/
def mxl (sh ds : List Int) (a n M : Nat) : List Int := (List.range M).map fun m : Nat => mxv (into sh [(a : Int)]) (stx sh a) (fun k => ds.getD k 0) n (m : Int)
def mpl (sh ds : List Int) (a n M : Nat) : List Int := (List.range M).map fun m : Nat => mxp (into sh [(a : Int)]) (stx sh a) (fun k => ds.getD k 0) n (m : Int)
theorem mxl_len (sh ds : List Int) (a n M : Nat) : (mxl sh ds a n M).length = M := by simp [mxl]
theorem mpl_len (sh ds : List Int) (a n M : Nat) : (mpl sh ds a n M).length = M := by simp [mpl]
theorem map_getD {f : Nat → Int} {M m : Nat} (h : m < M) : ((List.range M).map f).getD m 0 = f m := by
  simp [List.getD_eq_getElem?_getD, h]
theorem mxl_getD {sh ds : List Int} {a n M m : Nat} (h : m < M) : (mxl sh ds a n M).getD m 0 = mxv (into sh [(a : Int)]) (stx sh a) (fun k => ds.getD k 0) n (m : Int) := map_getD h
theorem mpl_getD {sh ds : List Int} {a n M m : Nat} (h : m < M) : (mpl sh ds a n M).getD m 0 = mxp (into sh [(a : Int)]) (stx sh a) (fun k => ds.getD k 0) n (m : Int) := map_getD h
theorem mxl_zero (sh ds : List Int) (a M : Nat) : mxl sh ds a 0 M = List.replicate M 0 ∧ mpl sh ds a 0 M = List.replicate M 0 := by
  refine ⟨ext_getD (by simp [mxl]) (fun k hk => ?_), ext_getD (by simp [mpl]) (fun k hk => ?_)⟩
  · rw [mxl_len] at hk
    rw [mxl_getD hk]
    simp [List.getD_eq_getElem?_getD, hk, mxv]
  · rw [mpl_len] at hk
    rw [mpl_getD hk]
    simp [List.getD_eq_getElem?_getD, hk, mxp]
/-- A greater word, or the first one. -/
theorem mxl_put {sh ds : List Int} {a n M k : Nat} (hk : into sh [(a : Int)] n = (k : Int)) (hM : k < M) (c : stx sh a n = 0 ∨ (mxl sh ds a n M).getD k 0 < ds.getD n 0) : mxl sh ds a (n + 1) M = (mxl sh ds a n M).set k (ds.getD n 0) ∧ mpl sh ds a (n + 1) M = (mpl sh ds a n M).set k (stx sh a n) := by
  rw [mxl_getD hM] at c
  refine ⟨ext_getD (by simp [mxl]) (fun j hj => ?_), ext_getD (by simp [mpl]) (fun j hj => ?_)⟩
  · rw [mxl_len] at hj
    rw [mxl_getD hj]
    show (if into sh [(a : Int)] n = (j : Int) ∧ (stx sh a n = 0 ∨ mxv _ _ _ n (j : Int) < ds.getD n 0) then ds.getD n 0 else mxv _ _ _ n (j : Int)) = _
    by_cases e : k = j
    · subst e
      rw [if_pos ⟨hk, c⟩, set_getD_self (by rw [mxl_len]; exact hM)]
    · rw [if_neg (fun h => by have := h.1; omega), set_getD_ne e, mxl_getD hj]
  · rw [mpl_len] at hj
    rw [mpl_getD hj]
    show (if into sh [(a : Int)] n = (j : Int) ∧ (stx sh a n = 0 ∨ mxv _ _ _ n (j : Int) < ds.getD n 0) then stx sh a n else mxp _ _ _ n (j : Int)) = _
    by_cases e : k = j
    · subst e
      rw [if_pos ⟨hk, c⟩, set_getD_self (by rw [mpl_len]; exact hM)]
    · rw [if_neg (fun h => by have := h.1; omega), set_getD_ne e, mpl_getD hj]
theorem mxl_keep {sh ds : List Int} {a n M k : Nat} (hk : into sh [(a : Int)] n = (k : Int)) (hM : k < M) (c : ¬ (stx sh a n = 0 ∨ (mxl sh ds a n M).getD k 0 < ds.getD n 0)) : mxl sh ds a (n + 1) M = mxl sh ds a n M ∧ mpl sh ds a (n + 1) M = mpl sh ds a n M := by
  rw [mxl_getD hM] at c
  have hc : ∀ j : Nat, ¬ (into sh [(a : Int)] n = (j : Int) ∧ (stx sh a n = 0 ∨ mxv (into sh [(a : Int)]) (stx sh a) (fun k => ds.getD k 0) n (j : Int) < ds.getD n 0)) := fun j h => by
    have : k = j := by have := h.1; omega
    subst this
    exact c h.2
  refine ⟨ext_getD (by simp [mxl]) (fun j hj => ?_), ext_getD (by simp [mpl]) (fun j hj => ?_)⟩
  · rw [mxl_len] at hj
    rw [mxl_getD hj, mxl_getD hj]
    exact if_neg (hc j)
  · rw [mpl_len] at hj
    rw [mpl_getD hj, mpl_getD hj]
    exact if_neg (hc j)
/-- A tensor and picks, told. -/
def SomeM (w : World) (sh L P : List Int) (e : Ending) (w' : World) : Prop := ∃ os cs gd gp, e = .returned (.tuple #[.agg #[.slice os sh.length cs, .slice (some ⟨gd, 0, none⟩) L.length L.length], .slice (some ⟨gp, 0, none⟩) P.length P.length, .int .i64 0]) ∧ Hid (w'.ownsRow w.heap.size 3 1 (.slice os sh.length cs) sh.length (ints sh)) ∧
  Hid (Blk w' gd 2 (ints L).toArray ∧ Blk w' gp 3 (ints P).toArray ∧ w.heap.size ≤ gd ∧ w.heap.size ≤ gp) ∧ Below w.heap.size w w'
/-- What the cut behind the two rows asks. -/
def MxC (w4 wx : World) (S2 S3 M m6 c6 : Nat) (o6 : Option Addr) : Prop := ∃ gd gp : Nat, Hid (Blk wx S2 26 #[.slice o6 m6 c6, .slice (some ⟨gd, 0, none⟩) M M]) ∧ Hid (Blk wx S3 23 #[.slice (some ⟨gp, 0, none⟩) M M]) ∧ Hid (Blk wx gd 2 (ints (List.replicate M 0)).toArray) ∧ Hid (Blk wx gp 3 (ints (List.replicate M 0)).toArray) ∧ Hid (w4.heap.size ≤ gd ∧ w4.heap.size ≤ gp) ∧ Hid (Below S2 w4 wx) ∧ Hid (w4.heap.size ≤ wx.heap.size ∧ ∀ k, k < w4.heap.size → ¬ k = S2 → ¬ k = S3 → wx.heap[k]? = w4.heap[k]?)
/-- How the memory stands on the way there. -/
def Mst (w4 W : World) (S2 S3 : Nat) (x y z : Value) : Prop := Blk W S2 26 #[x, y] ∧ Blk W S3 23 #[z] ∧ w4.heap.size ≤ W.heap.size ∧ (∀ k, k < w4.heap.size → ¬ k = S2 → ¬ k = S3 → W.heap[k]? = w4.heap[k]?) ∧ Below S2 w4 W ∧ S2 ≤ w4.heap.size ∧ S2 ≤ S3
theorem mst_alloc {w4 W : World} {S2 S3 : Nat} {x y z : Value} (h : Mst w4 W S2 S3 x y z) (o : Obj) : Mst w4 (W.alloc o) S2 S3 x y z :=
  ⟨h.1.alloc o, h.2.1.alloc o, by rw [World.size_alloc]; exact Nat.le_succ_of_le h.2.2.1, fun k hk h2 h3 => (Below.heap_alloc _ _ k (Nat.lt_of_lt_of_le hk h.2.2.1)).trans (h.2.2.2.1 k hk h2 h3), h.2.2.2.2.1.alloc (Nat.le_trans h.2.2.2.2.2.1 h.2.2.1) o, h.2.2.2.2.2⟩
theorem mst_s2 {w4 W : World} {S2 S3 : Nat} {x y z : Value} (h : Mst w4 W S2 S3 x y z) (hn : ¬ S2 = S3) (u v : Value) : Mst w4 ((W.setCell ⟨S2, 0, none⟩ u).setCell ⟨S2, 1, none⟩ v) S2 S3 u v z :=
  ⟨(h.1.set_ 0 u).set_ 1 v, (h.2.1.far (p := ⟨S2, 0, none⟩) (Ne.symm hn) u).far (p := ⟨S2, 1, none⟩) (Ne.symm hn) v, by rw [World.size_setCell, World.size_setCell]; exact h.2.2.1, fun k hk h2 h3 => (Below.heap_setCell _ _ _ k h2).trans ((Below.heap_setCell _ _ _ k h2).trans (h.2.2.2.1 k hk h2 h3)), (h.2.2.2.2.1.setCell (p := ⟨S2, 0, none⟩) (Nat.le_refl _) u).setCell (p := ⟨S2, 1, none⟩) (Nat.le_refl _) v, h.2.2.2.2.2⟩
theorem mst_s3 {w4 W : World} {S2 S3 : Nat} {x y z : Value} (h : Mst w4 W S2 S3 x y z) (hn : ¬ S2 = S3) (u : Value) : Mst w4 (W.setCell ⟨S3, 0, none⟩ u) S2 S3 x y u :=
  ⟨h.1.far (p := ⟨S3, 0, none⟩) hn u, h.2.1.set_ 0 u, by rw [World.size_setCell]; exact h.2.2.1, fun k hk h2 h3 => (Below.heap_setCell _ _ _ k h3).trans (h.2.2.2.1 k hk h2 h3), h.2.2.2.2.1.setCell (p := ⟨S3, 0, none⟩) h.2.2.2.2.2.2 u, h.2.2.2.2.2⟩
theorem Ld.keepx {w W : World} {v : Value} {ls : List Int} {S2 S3 : Nat} (h : Ld w v ls) (h2 : Blk w S2 26 #[.slice none 0 0, .slice none 0 0]) (h3 : Blk w S3 23 #[.slice none 0 0]) (hs : w.heap.size ≤ W.heap.size) (hk : ∀ k, k < w.heap.size → ¬ k = S2 → ¬ k = S3 → W.heap[k]? = w.heap[k]?) : Ld W v ls := by
  obtain ⟨o, c, rfl, hc, hx⟩ := h
  refine ⟨o, c, rfl, hc, fun i hi => ?_⟩
  obtain ⟨b, f, e1, e2, e3⟩ := hx i hi
  have n2 : ¬ b = S2 := by
    rintro rfl
    rcases Nat.lt_or_ge (f + i) 2 with h | h
    · rcases (show f + i = 0 ∨ f + i = 1 by omega) with e | e
      · rw [e, h2.cell 0] at e3; simp at e3
      · rw [e, h2.cell 1] at e3; simp at e3
    · rw [h2.cell, Array.getElem?_eq_none (by simpa using h)] at e3; cases e3
  have n3 : ¬ b = S3 := by
    rintro rfl
    rcases Nat.eq_zero_or_pos (f + i) with e | e
    · rw [e, h3.cell 0] at e3; simp at e3
    · rw [h3.cell, Array.getElem?_eq_none (by simp; omega)] at e3; cases e3
  refine ⟨b, f, e1, by omega, ?_⟩
  rw [← e3]
  simp only [World.cell?]
  rw [hk b e2 n2 n3]
/-- What a round keeps. -/
def MxK (S2 gd gp : Nat) (w7 W : World) : Prop := Below S2 w7 W ∧ ∀ k, k < w7.heap.size → ¬ k = gd → ¬ k = gp → W.heap[k]? = w7.heap[k]?
theorem mxk_own {S2 gd gp : Nat} {w7 X Y : World} {row : Option Nat} (h : MxK S2 gd gp w7 X) (hs : S2 ≤ w7.heap.size) (hg : X.grownBy Y row) (hr : ∀ r, row = some r → w7.heap.size ≤ r) : MxK S2 gd gp w7 Y :=
  ⟨h.1.grown hg (Nat.le_trans hs h.1.size) (fun k e => Nat.le_trans hs (hr k e)), fun k hk h1 h2 => (hg.block k (Nat.lt_of_lt_of_le hk h.1.size) (fun e => by have := hr k e.symm; omega)).trans (h.2 k hk h1 h2)⟩
theorem mxk_blk {S2 gd gp b : Nat} {w7 X : World} {t : TypeId} {cs : Array Value} (h : MxK S2 gd gp w7 X) (hb : Blk w7 b t cs) (hl : b < w7.heap.size) (h1 : ¬ b = gd) (h2 : ¬ b = gp) : Blk X b t cs := (h.2 b hl h1 h2).trans hb
/-- A drawn region within a round that leaves one frame and one world. -/
theorem region_inF {P : Program} {n l id : Nat} {ops : Array Oper} {S : World → Prop} {a F : Act} {W X : World} {K : Exit → Act → World → Prop} (hd : (ops.toList.all fun o => nodf o.op) = true) (hm : P.follows .mixedOrders = true) (hS : S W.drew)
    (h : S W.drew → wpAnyH P .any ops (fun e a2 W2 => e = .normal ∧ a2 = F ∧ W2 = X) S ops.size (Array.replicate ops.size false) a W.drew) (hk : K .normal F X) : (Code.region id ops true).wpIn (Fence.wide.inRound l) n P K a W := by
  refine wpIn_mono (region_inA (R := fun a2 W2 => a2 = F ∧ W2 = X) hd hm hS h) ?_
  rintro e a3 W3 ⟨rfl, rfl, rfl⟩
  exact hk
theorem own_keepx {w W : World} {base n : Nat} {v : Value} {xs : List Value} {S2 S3 : Nat} (h : w.ownsRow base 3 1 v n xs) (h2 : Blk w S2 26 #[.slice none 0 0, .slice none 0 0]) (h3 : Blk w S3 23 #[.slice none 0 0]) (_hs : w.heap.size ≤ W.heap.size) (hk : ∀ k, k < w.heap.size → ¬ k = S2 → ¬ k = S3 → W.heap[k]? = w.heap[k]?) : W.ownsRow base 3 1 v n xs := by
  refine ⟨h.1, ?_⟩
  rcases h.2 with e | ⟨g, cap, cur, rfl, hb, hh, rest⟩
  · exact .inl e
  · have n2 : ¬ g = S2 := fun e => tens_not_row h h2 (by decide) (by rw [← e]; rfl)
    have n3 : ¬ g = S3 := fun e => tens_not_row h h3 (by decide) (by rw [← e]; rfl)
    exact .inr ⟨g, cap, cur, rfl, hb, (hk g (Array.getElem?_eq_some_iff.1 hh).1 n2 n3).trans hh, rest⟩
/-- How the memory stands at Max's end. -/
def Mfin (w W : World) (S2 S3 gd gp m6 c6 D : Nat) (o6 : Option Addr) (L Ld Lp : List Int) : Prop := Blk W gd 2 (ints Ld).toArray ∧ Blk W gp 3 (ints Lp).toArray ∧ (W.ownsRow (w.heap.size + 5) 3 1 (.slice o6 m6 c6) m6 (ints L) ∧ m6 = L.length) ∧ (Below w.heap.size w W ∧ w.heap.size ≤ S2 ∧ w.heap.size ≤ S3) ∧ W.heap[D]? = some (.deferred (some []))
theorem mfin_at {w W : World} {S2 S3 gd gp m6 c6 D i S : Nat} {o6 : Option Addr} {L Ld Lp : List Int} {t : TypeId} {cs : Array Value} (h : Mfin w W S2 S3 gd gp m6 c6 D o6 L Ld Lp) (hS : w.heap.size ≤ S) (hb : Blk W S t cs) (ht : ¬ 3 = t) (n1 : ¬ gd = S) (n2 : ¬ gp = S) (u : Value) : Mfin w (W.setCell ⟨S, i, none⟩ u) S2 S3 gd gp m6 c6 D o6 L Ld Lp :=
  ⟨h.1.far (p := ⟨S, i, none⟩) n1 u, h.2.1.far (p := ⟨S, i, none⟩) n2 u, ⟨own_setx h.2.2.1.1 hb ht, h.2.2.1.2⟩, ⟨h.2.2.2.1.1.setCell (p := ⟨S, i, none⟩) hS u, h.2.2.2.1.2⟩, (Below.heap_setCell _ _ _ D (fun e => by subst e; have h2 := h.2.2.2.2.symm.trans hb; cases h2)).trans h.2.2.2.2⟩
theorem mfin_end {w W : World} {S2 S3 gd gp m6 c6 D M : Nat} {o6 : Option Addr} {L Ld Lp : List Int} (h : Mfin w W S2 S3 gd gp m6 c6 D o6 L Ld Lp) (hd : Ld.length = M) (hp : Lp.length = M) (hD : w.heap.size ≤ D) (n1 : w.heap.size ≤ gd) (n2 : w.heap.size ≤ gp) :
    SomeM w L Ld Lp (.returned (.tuple #[.agg #[.slice o6 m6 c6, .slice (some ⟨gd, 0, none⟩) M M], .slice (some ⟨gp, 0, none⟩) M M, .int .i64 0])) (W.putObj D (.deferred none)) := by
  obtain ⟨h1, h2, ⟨h3, h4⟩, ⟨h5, _, _⟩, h6⟩ := h
  subst h4
  have hc : ∀ r, some D = some r → ∃ o : Obj, W.heap[r]? = some o ∧ o.isCells = false := fun r e => by cases e; exact ⟨_, h6, rfl⟩
  have e1 := blk_own (β := Unit) _ _ (fun _ => _) () W _ _ h1 (grownBy_putObj' W D (.deferred none)) hc
  have e2 := blk_own (β := Unit) _ _ (fun _ => _) () W _ _ h2 (grownBy_putObj' W D (.deferred none)) hc
  have e3 := own_kept h3 (grownBy_putObj' W D (.deferred none)) hc
  refine ⟨o6, c6, gd, gp, by rw [hd, hp], Lib.hid (own_base e3 (Nat.le_add_right _ 5)), Lib.hid ⟨e1, e2, n1, n2⟩, h5.trans (belowK_b (w := w) (Nat.le_refl _) _ D _ (.deferred none) hD h6 rfl rfl)⟩
theorem axb_at {n : Nat} {x : Int} (h : axb (n : Int) [x] (-1) = true) : 0 ≤ x ∧ x < n := by
  unfold axb at h
  simp only [Bool.and_eq_true, decide_eq_true_eq] at h
  omega

set_option maxRecDepth 100000 in
set_option maxHeartbeats 8000000 in
theorem max_no (vs vd : Value) (sh ds : List Int) (x : Int) (w : World) (hs : Ld w vs sh) (hd : Ld w vd ds) (l1 : sh.length ≤ 17592186044416) (l2 : ds.length ≤ 17592186044416) (h : (tnb sh ds && axb (sh.length : Nat) [x] (-1)) = false) :
    Calls Tryz.prog 22 #[.agg #[vs, vd], .int .i64 x] w fun e w' => e = .returned (.tuple #[.agg #[.slice none 0 0, .slice none 0 0], .slice none 0 0, .int .i64 (if tnb sh ds = true then 2 else 1)]) ∧ Below w.heap.size w w' := by
  obtain ⟨w2, hw2⟩ : ∃ w2, w2 = ((((w.alloc (.cells #[vs, vd] 26)).alloc (.cells #[.int .i64 x] 3)).alloc (.cells #[.slice none 0 0, .slice none 0 0] 26)).alloc (.cells #[.slice none 0 0] 23)).alloc (.cells #[.int .i64 x] 3) := ⟨_, rfl⟩
  have hsz : w2.heap.size = w.heap.size + 5 := by rw [hw2]; simp
  have B2 : Below w.heap.size w w2 := by rw [hw2]; exact (((((Below.refl _ _).alloc (Nat.le_refl _) _).alloc (by simp) _).alloc (by simp; omega) _).alloc (by simp; omega) _).alloc (by simp; omega) _
  have K2 : Hid (Blk w2 (w.heap.size + 2) 26 #[.slice none 0 0, .slice none 0 0]) := by
    rw [hw2]
    have q := Blk.new ((w.alloc (.cells #[vs, vd] 26)).alloc (.cells #[.int .i64 x] 3)) 26 #[.slice none 0 0, .slice none 0 0]
    rw [World.size_alloc, World.size_alloc] at q
    exact (q.alloc _).alloc _
  have K3 : Hid (Blk w2 (w.heap.size + 3) 23 #[.slice none 0 0]) := by
    rw [hw2]
    have q := Blk.new (((w.alloc (.cells #[vs, vd] 26)).alloc (.cells #[.int .i64 x] 3)).alloc (.cells #[.slice none 0 0, .slice none 0 0] 26)) 23 #[.slice none 0 0]
    rw [World.size_alloc, World.size_alloc, World.size_alloc] at q
    exact q.alloc _
  have LA : Ld w2 (.slice (some ⟨w.heap.size + 4, 0, none⟩) 1 1) [x] := by
    have q := Blk.new ((((w.alloc (.cells #[vs, vd] 26)).alloc (.cells #[.int .i64 x] 3)).alloc (.cells #[.slice none 0 0, .slice none 0 0] 26)).alloc (.cells #[.slice none 0 0] 23)) 3 #[.int .i64 x]
    rw [World.size_alloc, World.size_alloc, World.size_alloc, World.size_alloc, ← hw2] at q
    exact Ld.of_blk (ls := [x]) q (Nat.le_refl _)
  have CR : Hid (∀ n, w2.heap.size = n → Calls Tryz.prog 72 #[.agg #[vs, vd], .slice (some ⟨w.heap.size + 4, 0, none⟩) 1 1] w2 fun e w' => e = .returned (.tuple #[.agg #[.slice none 0 0, .slice none 0 0, .slice none 0 0, .int .i64 0], .int .i64 (if tnb sh ds = true then 2 else 1)]) ∧ Below n w2 w') := fun n hn => by
    subst hn
    exact reduced_no vs vd _ sh ds [x] w2 (hs.below B2) (hd.below B2) LA l1 l2 (by simp) h
  replace CR := Lib.hid (CR.out (w.heap.size + 5) hsz)
  obtain ⟨E, hE⟩ : ∃ E : Int, E = if tnb sh ds = true then 2 else 1 := ⟨_, rfl⟩
  rw [← hE] at CR ⊢
  have hne : (E != 0) = true := by rw [hE]; split <;> rfl
  have HW := Lib.hid hw2
  have HB2 := Lib.hid B2
  obtain ⟨o1, n1, rfl, _, _⟩ := hs
  obtain ⟨o2, n2, rfl, _, _⟩ := hd
  rw [hw2] at CR
  clear hw2 B2 hE h LA
  go_enter Tryz.func22, Tryz.ntmps22
  go_wp2_with (go_at_call 72; (with_reducible refine CR.out.mono ?_); rintro e w3 ⟨rfl, hb3⟩; rw [← HW.out] at hb3; have X1 := Lib.hid ((K2.out.below hb3 (by omega)).alloc (.cells #[.slice none 0 0, .slice none 0 0, .slice none 0 0, .int .i64 0] 129)); have X2 := Lib.hid ((K3.out.below hb3 (by omega)).alloc (.cells #[.slice none 0 0, .slice none 0 0, .slice none 0 0, .int .i64 0] 129)); have B3 := Lib.hid ((HB2.out.trans (hb3.mono (by omega))).alloc (by have := hb3.size; omega) (.cells #[.slice none 0 0, .slice none 0 0, .slice none 0 0, .int .i64 0] 129)); obtain ⟨d0, d1, f0, f1⟩ := blk2 X1.out; have e0 := X2.out.cell 0; have ef0 := X2.out.frozen 0; clear hb3)
  refine bodyPost_ret (v := .tuple #[.agg #[.slice none 0 0, .slice none 0 0], .slice none 0 0, .int .i64 E]) (by simp [results, Tryz.results22, go_sem, d0, d1, e0]) rfl ?_
  exact ⟨rfl, ((B3.out.setCell (p := ⟨w.heap.size + 1 + 1, 0, none⟩) (by show w.heap.size ≤ w.heap.size + 1 + 1; omega) _).setCell (p := ⟨w.heap.size + 1 + 1, 1, none⟩) (by show w.heap.size ≤ w.heap.size + 1 + 1; omega) _).setCell (p := ⟨w.heap.size + 1 + 1 + 1, 0, none⟩) (by show w.heap.size ≤ w.heap.size + 1 + 1 + 1; omega) _⟩

set_option maxRecDepth 100000 in
set_option maxHeartbeats 8000000 in
theorem max_ok (vs vd : Value) (sh ds : List Int) (a M : Nat) (w : World) (hs : Ld w vs sh) (hd : Ld w vd ds) (ht : tnb sh ds = true) (ha : a < sh.length) (hM : (M : Int) = prod (lf sh [(a : Int)] 0)) :
    Calls Tryz.prog 22 #[.agg #[vs, vd], .int .i64 (a : Nat)] w (SomeM w (lf sh [(a : Int)] 0) (mxl sh ds a ds.length M) (mpl sh ds a ds.length M)) := by
  obtain ⟨i0, hi0, hz0, hz1, hz2⟩ := info_parts infoI
  obtain ⟨i1, hi1, hy0, hy1, hy2⟩ := info_parts infoW
  obtain ⟨hm, hdl, hw⟩ := tnb_parts ht
  have l4 := may_len hm
  have hp := may_prod hm
  have hM6 : 1 ≤ M ∧ M ≤ ds.length ∧ ds.length ≤ 65536 := by
    have := lf_prod [(a : Int)] sh 0 (may_pos hm)
    omega
  have mkI : ∀ W : World, (Instr.makeSlice 23 (.int .i64 (M : Int)) (.int .i64 (M : Int))).run Tryz.prog W = .ok (.slice (some ⟨W.heap.size, 0, none⟩) M M) (W.alloc (.cells (ints (List.replicate M 0)).toArray 3)) := fun W => by
    have := run_make (w := W) 23 3 i0 (.int .i64 0) Tryz.underlying23 hi0 hz0 .i64 .i64 M M (by omega) (by omega) (by rw [hz2]; omega) (by omega)
    rw [this, hz1, ← made_ints]; simp [Value.cells]
  have mkW : ∀ W : World, (Instr.makeSlice 24 (.int .i64 (M : Int)) (.int .i64 (M : Int))).run Tryz.prog W = .ok (.slice (some ⟨W.heap.size, 0, none⟩) M M) (W.alloc (.cells (ints (List.replicate M 0)).toArray 2)) := fun W => by
    have := run_make (w := W) 24 2 i1 (.int .i64 0) Tryz.underlying24 hi1 hy0 .i64 .i64 M M (by omega) (by omega) (by rw [hy2]; omega) (by omega)
    rw [this, hy1, ← made_ints]; simp [Value.cells]
  obtain ⟨w2, hw2⟩ : ∃ w2, w2 = ((((w.alloc (.cells #[vs, vd] 26)).alloc (.cells #[.int .i64 (a : Int)] 3)).alloc (.cells #[.slice none 0 0, .slice none 0 0] 26)).alloc (.cells #[.slice none 0 0] 23)).alloc (.cells #[.int .i64 (a : Int)] 3) := ⟨_, rfl⟩
  have hsz : w2.heap.size = w.heap.size + 5 := by rw [hw2]; simp
  have B2 : Below w.heap.size w w2 := by rw [hw2]; exact (((((Below.refl _ _).alloc (Nat.le_refl _) _).alloc (by simp) _).alloc (by simp; omega) _).alloc (by simp; omega) _).alloc (by simp; omega) _
  have K0 : Hid (Blk w2 w.heap.size 26 #[vs, vd]) := by rw [hw2]; exact ((((Blk.new w _ _).alloc _).alloc _).alloc _).alloc _
  have K1 : Hid (Blk w2 (w.heap.size + 1) 3 #[.int .i64 (a : Int)]) := by rw [hw2]; exact (((blk_new1 w _ _ _).alloc _).alloc _).alloc _
  have K2 : Hid (Blk w2 (w.heap.size + 2) 26 #[.slice none 0 0, .slice none 0 0]) := by
    rw [hw2]
    have q := Blk.new ((w.alloc (.cells #[vs, vd] 26)).alloc (.cells #[.int .i64 (a : Int)] 3)) 26 #[.slice none 0 0, .slice none 0 0]
    rw [World.size_alloc, World.size_alloc] at q
    exact (q.alloc _).alloc _
  have K3 : Hid (Blk w2 (w.heap.size + 3) 23 #[.slice none 0 0]) := by
    rw [hw2]
    have q := Blk.new (((w.alloc (.cells #[vs, vd] 26)).alloc (.cells #[.int .i64 (a : Int)] 3)).alloc (.cells #[.slice none 0 0, .slice none 0 0] 26)) 23 #[.slice none 0 0]
    rw [World.size_alloc, World.size_alloc, World.size_alloc] at q
    exact q.alloc _
  have LA : Ld w2 (.slice (some ⟨w.heap.size + 4, 0, none⟩) 1 1) [(a : Int)] := by
    have q := Blk.new ((((w.alloc (.cells #[vs, vd] 26)).alloc (.cells #[.int .i64 (a : Int)] 3)).alloc (.cells #[.slice none 0 0, .slice none 0 0] 26)).alloc (.cells #[.slice none 0 0] 23)) 3 #[.int .i64 (a : Int)]
    rw [World.size_alloc, World.size_alloc, World.size_alloc, World.size_alloc, ← hw2] at q
    exact Ld.of_blk (ls := [(a : Int)]) q (Nat.le_refl _)
  have CR : Hid (∀ n, w2.heap.size = n → Calls Tryz.prog 72 #[.agg #[vs, vd], .slice (some ⟨w.heap.size + 4, 0, none⟩) 1 1] w2 fun e w' => ∃ o1 c1 o2 c2, e = .returned (.tuple #[.agg #[vs, .slice o1 sh.length c1, .slice o2 (lf sh [(a : Int)] 0).length c2, .int .i64 (prod (lf sh [(a : Int)] 0))], .int .i64 0]) ∧
      Hid (Ld w' (.slice o1 sh.length c1) (ons sh [(a : Int)] 0)) ∧ Hid (w'.ownsRow n 3 1 (.slice o2 (lf sh [(a : Int)] 0).length c2) (lf sh [(a : Int)] 0).length (ints (lf sh [(a : Int)] 0))) ∧ Below n w2 w') := fun n hn => by
    subst hn
    exact reduced_ok vs vd _ sh ds [(a : Int)] w2 (hs.below B2) (hd.below B2) LA (by simp) ht (axb_one ha)
  replace CR := Lib.hid (CR.out (w.heap.size + 5) hsz)
  rw [← hM] at CR
  obtain ⟨m6, hm6⟩ : ∃ m6, m6 = (lf sh [(a : Int)] 0).length := ⟨_, rfl⟩
  rw [← hm6] at CR
  have HM6 := Lib.hid hm6
  have CU := Lib.hid (fun (n : Nat) (vo vt vi : Value) (W : World) (hn : n < ds.length) (hW : Below w.heap.size w W) (ho : Ld W vo (ons sh [(a : Int)] 0)) (ht : ∃ o m k, vt = .slice o m k) (hi : Ld W vi (atl sh (n : Nat))) => under9_any vs vo vt vi sh [(a : Int)] (M : Int) n W (hs.below hW) ho ht hi hm (by omega))
  have C3 := Lib.hid (fun (W : World) (hW : Below w.heap.size w W) => all2_any vs sh W (hs.below hW) (by omega))
  rw [hm, if_pos rfl, ← hdl] at C3
  have HW := Lib.hid hw2
  have HB2 := Lib.hid B2
  have HV := Lib.hid (And.intro hm (And.intro hdl (And.intro ha hM)))
  have HIB := Lib.hid (fun (n : Nat) (hn : n < ds.length) => (into_bd [(a : Int)] (may_pos hm) (n := n) (by omega)).2)
  have HIX := Lib.hid (fun (n : Nat) (hn : n < ds.length) => (inx_iff.1 (atl_inx sh (n : Nat) (may_pos hm) (by omega) (by omega))).2 a ha)
  obtain ⟨o1, n1, rfl, _, _⟩ := hs
  obtain ⟨o2, n2, rfl, _, hdx⟩ := hd
  have HDX := Lib.hid hdx
  rw [hw2] at CR
  have HI := Lib.hid hM6
  clear hw2 B2 ht hm hdl hw hM hm6 hp hM6 LA hdx
  refine (callsIn_wide (n := 9)).1 ?_
  refine callsIn_of_wp_marks Tryz.func22 rfl trivial ?_
  simp only [Tryz.ntmps22, List.size_toArray, List.length_cons, List.length_nil, Nat.reduceAdd, Nat.reduceSub, Array.replicate_succ, Array.replicate_zero, List.push_toArray, List.append_toArray, List.nil_append, List.cons_append]
  refine wpIn_wide.2 ?_
  go_upto_region 4 with (go_at_call 72; (with_reducible refine CR.out.mono ?_); rintro e w3 ⟨o5, c5, o6, c6, rfl, hl5, ho6, hb3⟩; rw [← HW.out] at hb3; have b3 := Lib.hid hb3; have HL5 := Lib.hid hl5.out; have HO6 := Lib.hid ho6.out; clear hb3 hl5 ho6)
  obtain ⟨w4, hw4⟩ : ∃ w4, w4 = w3.alloc (.cells #[.slice o1 sh.length n1, .slice o5 sh.length c5, .slice o6 m6 c6, .int .i64 (M : Int)] 129) := ⟨_, rfl⟩
  obtain ⟨TB, hTB⟩ : ∃ TB, TB = w3.heap.size := ⟨_, rfl⟩
  rw [← hw4, ← hTB]
  have b34 : Below w3.heap.size w3 w4 := by rw [hw4]; exact al_below0 _
  obtain ⟨S2, hS2⟩ : ∃ S2, S2 = w.heap.size + 1 + 1 := ⟨_, rfl⟩
  obtain ⟨S3, hS3⟩ : ∃ S3, S3 = S2 + 1 := ⟨_, rfl⟩
  have X0 := Lib.hid ((K0.out.below b3.out (by omega)).below b34 (K0.out.below b3.out (by omega)).lt)
  have X1 := Lib.hid ((K1.out.below b3.out (by omega)).below b34 (K1.out.below b3.out (by omega)).lt)
  have X2 : Hid (Blk w4 S2 26 #[.slice none 0 0, .slice none 0 0]) := Lib.hid (by rw [hS2]; exact (K2.out.below b3.out (by omega)).below b34 (K2.out.below b3.out (by omega)).lt)
  have X3 : Hid (Blk w4 S3 23 #[.slice none 0 0]) := Lib.hid (by rw [hS3, hS2]; exact (K3.out.below b3.out (by omega)).below b34 (K3.out.below b3.out (by omega)).lt)
  have XT : Hid (Blk w4 TB 129 #[.slice o1 sh.length n1, .slice o5 sh.length c5, .slice o6 m6 c6, .int .i64 (M : Int)]) := Lib.hid (by rw [hTB, hw4]; exact Blk.new _ _ _)
  have OG := Lib.hid (Below.keepOwn HO6.out b34 (Nat.le_refl _))
  have HL4 := Lib.hid (HL5.out.below b34)
  have HB4 := Lib.hid ((HB2.out.trans (b3.out.mono (by omega))).trans (b34.mono (by have := b3.out.size; omega)))
  have HZ : Hid (w.heap.size + 5 ≤ w4.heap.size ∧ w.heap.size + 5 ≤ TB ∧ TB < w4.heap.size ∧ S2 = w.heap.size + 2 ∧ S3 = w.heap.size + 3) := Lib.hid ⟨by have := b3.out.size; have := b34.size; omega, by have := b3.out.size; omega, by rw [hTB, hw4]; simp, hS2, by rw [hS3, hS2]⟩
  rw [← hS2, ← hS3]
  obtain ⟨d0, d1, f0, f1⟩ := blk2 X2.out
  have e0 := X3.out.cell 0
  have ef0 := X3.out.frozen 0
  obtain ⟨t0, t1, t2, t3⟩ := blk4 XT.out
  have ne23 : ¬ S2 = S3 := by omega
  have l2 := X2.out.lt
  have l3 := X3.out.lt
  have lT := XT.out.lt
  have neT2 : ¬ TB = S2 := by have := HZ.out; omega
  have neT3 : ¬ TB = S3 := by have := HZ.out; omega
  clear hw4 hTB b34 HL5 HO6 hS2 hS3
  have M0 : Hid (Mst w4 w4.drew S2 S3 (.slice none 0 0) (.slice none 0 0) (.slice none 0 0)) := Lib.hid ⟨X2.out, X3.out, Nat.le_refl _, fun _ _ _ _ => rfl, below_drw (Below.refl _ _) 1, by omega, by have := HZ.out; omega⟩
  go_cut [22] from 22 to 30 (fun _ wx => MxC w4 wx S2 S3 M m6 c6 o6)
  case first =>
    as_aux_lemma =>
    have KS : Hid (∀ (W : World) (x y z : Value), Mst w4 W S2 S3 x y z → W.cell? ⟨TB, 2, none⟩ = some (.slice o6 m6 c6) ∧ W.cell? ⟨TB, 3, none⟩ = some (.int .i64 (M : Int))) := Lib.hid (fun W x y z hW => by
      have q : Blk W TB 129 #[.slice o1 sh.length n1, .slice o5 sh.length c5, .slice o6 m6 c6, .int .i64 (M : Int)] := (hW.2.2.2.1 TB lT neT2 neT3).trans XT.out
      exact ⟨q.cell 2, q.cell 3⟩)
    -- BEGIN drawn
    refine wp_region_noPanic ?_
    refine wp_region_held_drew (S := fun W => W.cell? ⟨TB, 2, none⟩ = some (.slice o6 m6 c6) ∧ W.cell? ⟨TB, 3, none⟩ = some (.int .i64 (M : Int))) (by kernel_rfl) ?_ (fun hHeld => ?_)
    · exact KS.out _ _ _ _ M0.out
    have hHd := hHeld
    generalize w4.drew = wd at *
    (refine wpAnyH_take (i := 0) (oi := ⟨some 22, _, _, _, _, _⟩) (v := ?v0_x1) rfl (by kernel_rfl) (by kernel_rfl) (by kernel_rfl) (fun _ _ _ h => h) (Or.inl ⟨by rfl, ?hy0_x1⟩) (by assumption) ?rest0_x1; (case hy0_x1 => ((intro w hSw); (try dsimp only at hSw); go_simp; first | done | (with_reducible rfl))))
    (try simp only [Act.put, List.setIfInBounds_toArray, List.set_cons_zero, List.set_cons_succ])
    (refine wpAnyH_take (i := 1) (oi := ⟨some 23, _, _, _, _, _⟩) (v := ?v1_x2) rfl (by kernel_rfl) (by kernel_rfl) (by kernel_rfl) (fun _ _ _ h => h) (Or.inl ⟨by rfl, ?hy1_x2⟩) (by assumption) ?rest1_x2; (case hy1_x2 => ((intro w hSw); (try dsimp only at hSw); go_simp; first | done | (with_reducible rfl))))
    (try simp only [Act.put, List.setIfInBounds_toArray, List.set_cons_zero, List.set_cons_succ])
    (refine wpAnyH_take (i := 2) (oi := ⟨some 24, _, _, _, _, _⟩) (v := ?v2_x3) rfl (by kernel_rfl) (by kernel_rfl) (by kernel_rfl) (fun _ _ _ h => h) (Or.inl ⟨by rfl, ?hy2_x3⟩) (by assumption) ?rest2_x3; (case hy2_x3 => ((intro w hSw); (try dsimp only at hSw); go_simp; first | done | (with_reducible rfl))))
    (try simp only [Act.put, List.setIfInBounds_toArray, List.set_cons_zero, List.set_cons_succ])
    (refine wpAnyH_take (i := 3) (oi := ⟨some 25, _, _, _, _, _⟩) (v := ?v3_x4) rfl (by kernel_rfl) (by kernel_rfl) (by kernel_rfl) (fun _ _ _ h => h) (Or.inl ⟨by rfl, ?hy3_x4⟩) (by assumption) ?rest3_x4; (case hy3_x4 => ((intro w hSw); (try dsimp only at hSw); go_simp; first | done | (with_reducible rfl))))
    (try simp only [Act.put, List.setIfInBounds_toArray, List.set_cons_zero, List.set_cons_succ])
    (refine wpAnyH_take (i := 6) (oi := ⟨some 28, _, _, _, _, _⟩) (v := ?v6_x5) rfl (by kernel_rfl) (by kernel_rfl) (by kernel_rfl) (fun _ _ _ h => h) (Or.inl ⟨by rfl, ?hy6_x5⟩) (by assumption) ?rest6_x5; (case hy6_x5 => ((intro w hSw); (try dsimp only at hSw); go_simp; first | done | (with_reducible rfl))))
    (try simp only [Act.put, List.setIfInBounds_toArray, List.set_cons_zero, List.set_cons_succ])
    (refine wpAnyH_take (i := 7) (oi := ⟨some 29, _, _, _, _, _⟩) (v := ?v7_x6) rfl (by kernel_rfl) (by kernel_rfl) (by kernel_rfl) (fun _ _ _ h => h) (Or.inl ⟨by rfl, ?hy7_x6⟩) (by assumption) ?rest7_x6; (case hy7_x6 => ((intro w hSw); (try dsimp only at hSw); go_simp; first | done | (with_reducible rfl))))
    (try simp only [Act.put, List.setIfInBounds_toArray, List.set_cons_zero, List.set_cons_succ])
    refine wpAnyH_ready (rs := [4, 8]) (by kernel_rfl) (by simp) ?_
    refine AllReadyH.cons (o := ⟨some 26, _, _, _, _, _⟩) rfl (fun K hK => ?_) (AllReadyH.cons (o := ⟨some 30, _, _, _, _, _⟩) rfl (fun K hK => ?_) (AllReadyH.nil))
    · go_simp
      have M1 := Lib.hid (mst_alloc M0.out (.cells (ints (List.replicate M 0)).toArray 2))
      have GD := Lib.hid M0.out.2.2.1
      have D1 := Lib.hid (Blk.new wd 2 (ints (List.replicate M 0)).toArray)
      refine hK.out _ _ ?_ (fun hHeld => ?_)
      · (try dsimp only)
        exact KS.out _ _ _ _ M1.out
      clear hK K
      generalize wd.alloc (.cells (ints (List.replicate M 0)).toArray 2) = wq1 at *
      (try simp only [Act.put, List.setIfInBounds_toArray, List.set_cons_zero, List.set_cons_succ])
      (refine wpAnyH_take (i := 5) (oi := ⟨some 27, _, _, _, _, _⟩) (v := ?v5_x7) rfl (by kernel_rfl) (by kernel_rfl) (by kernel_rfl) (fun _ _ _ h => h) (Or.inl ⟨by rfl, ?hy5_x7⟩) (by assumption) ?rest5_x7; (case hy5_x7 => ((intro w hSw); (try dsimp only at hSw); go_simp; first | done | (with_reducible rfl))))
      (try simp only [Act.put, List.setIfInBounds_toArray, List.set_cons_zero, List.set_cons_succ])
      refine wpAnyH_ready (rs := [8, 9]) (by kernel_rfl) (by simp) ?_
      refine AllReadyH.cons (o := ⟨some 30, _, _, _, _, _⟩) rfl (fun K hK => ?_) (AllReadyH.cons (o := ⟨none, _, _, _, _, _⟩) rfl (fun K hK => ?_) (AllReadyH.nil))
      · go_simp
        have M2 := Lib.hid (mst_alloc M1.out (.cells (ints (List.replicate M 0)).toArray 3))
        have GP := Lib.hid M1.out.2.2.1
        have D2 := Lib.hid (D1.out.alloc (.cells (ints (List.replicate M 0)).toArray 3))
        have P2 := Lib.hid (Blk.new wq1 3 (ints (List.replicate M 0)).toArray)
        refine hK.out _ _ ?_ (fun hHeld => ?_)
        · (try dsimp only)
          exact KS.out _ _ _ _ M2.out
        clear hK K
        generalize wq1.alloc (.cells (ints (List.replicate M 0)).toArray 3) = wq2 at *
        (try simp only [Act.put, List.setIfInBounds_toArray, List.set_cons_zero, List.set_cons_succ])
        refine wpAnyH_ready (rs := [9]) (by kernel_rfl) (by simp) ?_
        refine AllReadyH.cons (o := ⟨none, _, _, _, _, _⟩) rfl (fun K hK => ?_) (AllReadyH.nil)
        have hdz := M2.out.1.cell 0
        have hdo := M2.out.1.cell 1
        have hez := M2.out.2.1.cell 0
        have hdzf := M2.out.1.frozen 0
        have hdof := M2.out.1.frozen 1
        have hezf := M2.out.2.1.frozen 0
        go_simp
        have M3 := Lib.hid (mst_s2 M2.out ne23 (.slice o6 m6 c6) (.slice (some ⟨wd.heap.size, 0, none⟩) M M))
        have D3 := Lib.hid ((D2.out.far (p := ⟨S2, 0, none⟩) (show ¬ _ = S2 by have := GD.out; omega) (.slice o6 m6 c6)).far (p := ⟨S2, 1, none⟩) (show ¬ _ = S2 by have := GD.out; omega) (.slice (some ⟨wd.heap.size, 0, none⟩) M M))
        have P3 := Lib.hid ((P2.out.far (p := ⟨S2, 0, none⟩) (show ¬ _ = S2 by have := GP.out; omega) (.slice o6 m6 c6)).far (p := ⟨S2, 1, none⟩) (show ¬ _ = S2 by have := GP.out; omega) (.slice (some ⟨wd.heap.size, 0, none⟩) M M))
        refine hK.out _ _ ?_ (fun hHeld => ?_)
        · (try dsimp only)
          exact KS.out _ _ _ _ M3.out
        clear hK K
        generalize (wq2.setCell ⟨S2, 0, none⟩ (.slice o6 m6 c6)).setCell ⟨S2, 1, none⟩ (.slice (some ⟨wd.heap.size, 0, none⟩) M M) = wq3 at *
        (try simp only [Act.put, List.setIfInBounds_toArray, List.set_cons_zero, List.set_cons_succ])
        refine wpAnyH_ready (rs := [10]) (by kernel_rfl) (by simp) ?_
        refine AllReadyH.cons (o := ⟨none, _, _, _, _, _⟩) rfl (fun K hK => ?_) (AllReadyH.nil)
        have hdz := M3.out.1.cell 0
        have hdo := M3.out.1.cell 1
        have hez := M3.out.2.1.cell 0
        have hdzf := M3.out.1.frozen 0
        have hdof := M3.out.1.frozen 1
        have hezf := M3.out.2.1.frozen 0
        go_simp
        have M4 := Lib.hid (mst_s3 M3.out ne23 (.slice (some ⟨wq1.heap.size, 0, none⟩) M M))
        have D4 := Lib.hid (D3.out.far (p := ⟨S3, 0, none⟩) (show ¬ _ = S3 by have := GD.out; omega) (.slice (some ⟨wq1.heap.size, 0, none⟩) M M))
        have P4 := Lib.hid (P3.out.far (p := ⟨S3, 0, none⟩) (show ¬ _ = S3 by have := GP.out; omega) (.slice (some ⟨wq1.heap.size, 0, none⟩) M M))
        refine hK.out _ _ ?_ (fun hHeld => ?_)
        · (try dsimp only)
          exact KS.out _ _ _ _ M4.out
        clear hK K
        generalize wq3.setCell ⟨S3, 0, none⟩ (.slice (some ⟨wq1.heap.size, 0, none⟩) M M) = wq4 at *
        (try simp only [Act.put, List.setIfInBounds_toArray, List.set_cons_zero, List.set_cons_succ])
        refine wpAnyH_done (by kernel_rfl) ?_ _
        have hfin : MxC w4 wq4 S2 S3 M m6 c6 o6 := ⟨_, _, Lib.hid M4.out.1, Lib.hid M4.out.2.1, D4, P4, Lib.hid ⟨GD.out, GP.out⟩, Lib.hid M4.out.2.2.2.2.1, Lib.hid ⟨M4.out.2.2.1, M4.out.2.2.2.1⟩⟩
        refine NoPanic.normal ?_
        go_wp2
        go_meet
        with_reducible exact hfin
      · have hdz := M1.out.1.cell 0
        have hdo := M1.out.1.cell 1
        have hez := M1.out.2.1.cell 0
        have hdzf := M1.out.1.frozen 0
        have hdof := M1.out.1.frozen 1
        have hezf := M1.out.2.1.frozen 0
        go_simp
        have M2 := Lib.hid (mst_s2 M1.out ne23 (.slice o6 m6 c6) (.slice (some ⟨wd.heap.size, 0, none⟩) M M))
        have D2 := Lib.hid ((D1.out.far (p := ⟨S2, 0, none⟩) (show ¬ _ = S2 by have := GD.out; omega) (.slice o6 m6 c6)).far (p := ⟨S2, 1, none⟩) (show ¬ _ = S2 by have := GD.out; omega) (.slice (some ⟨wd.heap.size, 0, none⟩) M M))
        refine hK.out _ _ ?_ (fun hHeld => ?_)
        · (try dsimp only)
          exact KS.out _ _ _ _ M2.out
        clear hK K
        generalize (wq1.setCell ⟨S2, 0, none⟩ (.slice o6 m6 c6)).setCell ⟨S2, 1, none⟩ (.slice (some ⟨wd.heap.size, 0, none⟩) M M) = wq2 at *
        (try simp only [Act.put, List.setIfInBounds_toArray, List.set_cons_zero, List.set_cons_succ])
        refine wpAnyH_ready (rs := [8]) (by kernel_rfl) (by simp) ?_
        refine AllReadyH.cons (o := ⟨some 30, _, _, _, _, _⟩) rfl (fun K hK => ?_) (AllReadyH.nil)
        go_simp
        have M3 := Lib.hid (mst_alloc M2.out (.cells (ints (List.replicate M 0)).toArray 3))
        have GP := Lib.hid M2.out.2.2.1
        have D3 := Lib.hid (D2.out.alloc (.cells (ints (List.replicate M 0)).toArray 3))
        have P3 := Lib.hid (Blk.new wq2 3 (ints (List.replicate M 0)).toArray)
        refine hK.out _ _ ?_ (fun hHeld => ?_)
        · (try dsimp only)
          exact KS.out _ _ _ _ M3.out
        clear hK K
        generalize wq2.alloc (.cells (ints (List.replicate M 0)).toArray 3) = wq3 at *
        (try simp only [Act.put, List.setIfInBounds_toArray, List.set_cons_zero, List.set_cons_succ])
        refine wpAnyH_ready (rs := [10]) (by kernel_rfl) (by simp) ?_
        refine AllReadyH.cons (o := ⟨none, _, _, _, _, _⟩) rfl (fun K hK => ?_) (AllReadyH.nil)
        have hdz := M3.out.1.cell 0
        have hdo := M3.out.1.cell 1
        have hez := M3.out.2.1.cell 0
        have hdzf := M3.out.1.frozen 0
        have hdof := M3.out.1.frozen 1
        have hezf := M3.out.2.1.frozen 0
        go_simp
        have M4 := Lib.hid (mst_s3 M3.out ne23 (.slice (some ⟨wq2.heap.size, 0, none⟩) M M))
        have D4 := Lib.hid (D3.out.far (p := ⟨S3, 0, none⟩) (show ¬ _ = S3 by have := GD.out; omega) (.slice (some ⟨wq2.heap.size, 0, none⟩) M M))
        have P4 := Lib.hid (P3.out.far (p := ⟨S3, 0, none⟩) (show ¬ _ = S3 by have := GP.out; omega) (.slice (some ⟨wq2.heap.size, 0, none⟩) M M))
        refine hK.out _ _ ?_ (fun hHeld => ?_)
        · (try dsimp only)
          exact KS.out _ _ _ _ M4.out
        clear hK K
        generalize wq3.setCell ⟨S3, 0, none⟩ (.slice (some ⟨wq2.heap.size, 0, none⟩) M M) = wq4 at *
        (try simp only [Act.put, List.setIfInBounds_toArray, List.set_cons_zero, List.set_cons_succ])
        refine wpAnyH_done (by kernel_rfl) ?_ _
        have hfin : MxC w4 wq4 S2 S3 M m6 c6 o6 := ⟨_, _, Lib.hid M4.out.1, Lib.hid M4.out.2.1, D4, P4, Lib.hid ⟨GD.out, GP.out⟩, Lib.hid M4.out.2.2.2.2.1, Lib.hid ⟨M4.out.2.2.1, M4.out.2.2.2.1⟩⟩
        refine NoPanic.normal ?_
        go_wp2
        go_meet
        with_reducible exact hfin
    · go_simp
      have M1 := Lib.hid (mst_alloc M0.out (.cells (ints (List.replicate M 0)).toArray 3))
      have GP := Lib.hid M0.out.2.2.1
      have P1 := Lib.hid (Blk.new wd 3 (ints (List.replicate M 0)).toArray)
      refine hK.out _ _ ?_ (fun hHeld => ?_)
      · (try dsimp only)
        exact KS.out _ _ _ _ M1.out
      clear hK K
      generalize wd.alloc (.cells (ints (List.replicate M 0)).toArray 3) = wq1 at *
      (try simp only [Act.put, List.setIfInBounds_toArray, List.set_cons_zero, List.set_cons_succ])
      refine wpAnyH_ready (rs := [4]) (by kernel_rfl) (by simp) ?_
      refine AllReadyH.cons (o := ⟨some 26, _, _, _, _, _⟩) rfl (fun K hK => ?_) (AllReadyH.nil)
      go_simp
      have M2 := Lib.hid (mst_alloc M1.out (.cells (ints (List.replicate M 0)).toArray 2))
      have GD := Lib.hid M1.out.2.2.1
      have P2 := Lib.hid (P1.out.alloc (.cells (ints (List.replicate M 0)).toArray 2))
      have D2 := Lib.hid (Blk.new wq1 2 (ints (List.replicate M 0)).toArray)
      refine hK.out _ _ ?_ (fun hHeld => ?_)
      · (try dsimp only)
        exact KS.out _ _ _ _ M2.out
      clear hK K
      generalize wq1.alloc (.cells (ints (List.replicate M 0)).toArray 2) = wq2 at *
      (try simp only [Act.put, List.setIfInBounds_toArray, List.set_cons_zero, List.set_cons_succ])
      (refine wpAnyH_take (i := 5) (oi := ⟨some 27, _, _, _, _, _⟩) (v := ?v5_x8) rfl (by kernel_rfl) (by kernel_rfl) (by kernel_rfl) (fun _ _ _ h => h) (Or.inl ⟨by rfl, ?hy5_x8⟩) (by assumption) ?rest5_x8; (case hy5_x8 => ((intro w hSw); (try dsimp only at hSw); go_simp; first | done | (with_reducible rfl))))
      (try simp only [Act.put, List.setIfInBounds_toArray, List.set_cons_zero, List.set_cons_succ])
      refine wpAnyH_ready (rs := [9]) (by kernel_rfl) (by simp) ?_
      refine AllReadyH.cons (o := ⟨none, _, _, _, _, _⟩) rfl (fun K hK => ?_) (AllReadyH.nil)
      have hdz := M2.out.1.cell 0
      have hdo := M2.out.1.cell 1
      have hez := M2.out.2.1.cell 0
      have hdzf := M2.out.1.frozen 0
      have hdof := M2.out.1.frozen 1
      have hezf := M2.out.2.1.frozen 0
      go_simp
      have M3 := Lib.hid (mst_s2 M2.out ne23 (.slice o6 m6 c6) (.slice (some ⟨wq1.heap.size, 0, none⟩) M M))
      have D3 := Lib.hid ((D2.out.far (p := ⟨S2, 0, none⟩) (show ¬ _ = S2 by have := GD.out; omega) (.slice o6 m6 c6)).far (p := ⟨S2, 1, none⟩) (show ¬ _ = S2 by have := GD.out; omega) (.slice (some ⟨wq1.heap.size, 0, none⟩) M M))
      have P3 := Lib.hid ((P2.out.far (p := ⟨S2, 0, none⟩) (show ¬ _ = S2 by have := GP.out; omega) (.slice o6 m6 c6)).far (p := ⟨S2, 1, none⟩) (show ¬ _ = S2 by have := GP.out; omega) (.slice (some ⟨wq1.heap.size, 0, none⟩) M M))
      refine hK.out _ _ ?_ (fun hHeld => ?_)
      · (try dsimp only)
        exact KS.out _ _ _ _ M3.out
      clear hK K
      generalize (wq2.setCell ⟨S2, 0, none⟩ (.slice o6 m6 c6)).setCell ⟨S2, 1, none⟩ (.slice (some ⟨wq1.heap.size, 0, none⟩) M M) = wq3 at *
      (try simp only [Act.put, List.setIfInBounds_toArray, List.set_cons_zero, List.set_cons_succ])
      refine wpAnyH_ready (rs := [10]) (by kernel_rfl) (by simp) ?_
      refine AllReadyH.cons (o := ⟨none, _, _, _, _, _⟩) rfl (fun K hK => ?_) (AllReadyH.nil)
      have hdz := M3.out.1.cell 0
      have hdo := M3.out.1.cell 1
      have hez := M3.out.2.1.cell 0
      have hdzf := M3.out.1.frozen 0
      have hdof := M3.out.1.frozen 1
      have hezf := M3.out.2.1.frozen 0
      go_simp
      have M4 := Lib.hid (mst_s3 M3.out ne23 (.slice (some ⟨wd.heap.size, 0, none⟩) M M))
      have D4 := Lib.hid (D3.out.far (p := ⟨S3, 0, none⟩) (show ¬ _ = S3 by have := GD.out; omega) (.slice (some ⟨wd.heap.size, 0, none⟩) M M))
      have P4 := Lib.hid (P3.out.far (p := ⟨S3, 0, none⟩) (show ¬ _ = S3 by have := GP.out; omega) (.slice (some ⟨wd.heap.size, 0, none⟩) M M))
      refine hK.out _ _ ?_ (fun hHeld => ?_)
      · (try dsimp only)
        exact KS.out _ _ _ _ M4.out
      clear hK K
      generalize wq3.setCell ⟨S3, 0, none⟩ (.slice (some ⟨wd.heap.size, 0, none⟩) M M) = wq4 at *
      (try simp only [Act.put, List.setIfInBounds_toArray, List.set_cons_zero, List.set_cons_succ])
      refine wpAnyH_done (by kernel_rfl) ?_ _
      have hfin : MxC w4 wq4 S2 S3 M m6 c6 o6 := ⟨_, _, Lib.hid M4.out.1, Lib.hid M4.out.2.1, D4, P4, Lib.hid ⟨GD.out, GP.out⟩, Lib.hid M4.out.2.2.2.2.1, Lib.hid ⟨M4.out.2.2.1, M4.out.2.2.2.1⟩⟩
      refine NoPanic.normal ?_
      go_wp2
      go_meet
      with_reducible exact hfin
    -- END drawn
  case rest =>
    obtain ⟨gd, gp, E2, E3, ED, EP, EG, EB, EK⟩ := hcut
    have HX0 := Lib.hid ((EK.out.2 _ X0.out.lt (by have := HZ.out; omega) (by have := HZ.out; omega)).trans X0.out)
    have HX1 := Lib.hid ((EK.out.2 _ X1.out.lt (by have := HZ.out; omega) (by have := HZ.out; omega)).trans X1.out)
    have HXT := Lib.hid ((EK.out.2 _ lT neT2 neT3).trans XT.out)
    have HLC := Lib.hid (HL4.out.keepx X2.out X3.out EK.out.1 EK.out.2)
    have HBc := Lib.hid (HB4.out.trans (EB.out.mono (by have := HZ.out; omega)))
    have sc := EK.out.1
    have hgd := ED.out.lt
    have hgp := EP.out.lt
    have hgg : ¬ gd = gp := by
      rintro rfl
      have h := ED.out.symm.trans EP.out
      simp only [Option.some.injEq, Obj.cells.injEq] at h
      exact absurd h.2.1 (by decide)
    have eg := EG.out
    obtain ⟨c0, c1, _, _⟩ := blk2 (show Blk wc w.heap.size _ _ from HX0.out)
    have CA := Lib.hid (C3.out wc HBc.out)
    clear d0 d1 e0 t0 t1 t2 t3 f0 f1 ef0 mkI mkW
    go_wp2_with (go_at_call 73; (with_reducible refine CA.out.mono ?_); rintro e w7 ⟨B1, B2, oA, cA, rfl, hbx, q1, q2, hb7⟩)
    have s7 := hb7.size
    have hbl : B1 < w7.heap.size := hbx.1.lt
    have hbl2 : B2 < w7.heap.size := hbx.2.1.lt
    have HBX := Lib.hid hbx
    have OWN : Hid (∀ g, oA = some ⟨g, 0, none⟩ → wc.heap.size ≤ g ∧ g < w7.heap.size) := Lib.hid (fun g e => hbx.2.2.lt g (by rw [e]; rfl))
    have ID := Lib.hid (ED.out.below hb7 hgd)
    have IP := Lib.hid (EP.out.below hb7 hgp)
    have l2c := E2.out.lt
    have l3c := E3.out.lt
    have I2 := Lib.hid (E2.out.below hb7 l2c)
    have I3 := Lib.hid (E3.out.below hb7 l3c)
    have I0 := Lib.hid (Blk.below (show Blk wc w.heap.size _ _ from HX0.out) hb7 (Blk.lt (show Blk wc w.heap.size _ _ from HX0.out)))
    have I1 := Lib.hid (Blk.below (show Blk wc (w.heap.size + 1) _ _ from HX1.out) hb7 (Blk.lt (show Blk wc (w.heap.size + 1) _ _ from HX1.out)))
    have IT := Lib.hid (Blk.below (show Blk wc TB _ _ from HXT.out) hb7 (Blk.lt (show Blk wc TB _ _ from HXT.out)))
    have LT7 := Lib.hid (HLC.out.below hb7)
    have LCb := Lib.hid HLC.out
    have B7 := Lib.hid (HBc.out.trans (hb7.mono HBc.out.size))
    have OG7 := Lib.hid hb7
    clear hbx hb7
    refine (wpIn_wide (n := 9)).1 ?_
    refine wpIn_rangeFunc_told (F := Fence.wide) (n := 9) rfl (by decide) (gf := 148) (lb := #[.pointer (some ⟨B1, 0, none⟩), .pointer (some ⟨B2, 0, none⟩)]) rfl trivial (enters_of Tryz.func148 (by kernel_rfl) rfl)
      (all3_told 8 _ B1 B2 ds.length (by decide) oA cA sh HI.out.2.2 (fun _ => ⟨HV.out.1, HV.out.2.1.symm⟩) w7 HBX.out)
      Kp3.trans ?keepb (fun _ => rfl)
      (fun pre W => Blk W gd 2 (ints (mxl sh ds a pre.length M)).toArray ∧ Blk W gp 3 (ints (mpl sh ds a pre.length M)).toArray ∧ MxK S2 gd gp w7 W)
      (fun _ _ _ => False)
      ?ownI ?ownX ?ownT ⟨?i0, ?i1, Below.refl _ _, fun _ _ _ _ => rfl⟩ ?a1 ?assign ?body ?done ?stop
    case keepb =>
      intro X k o o' hk ho hc _
      exact ⟨World.putObj_heap_other (by omega), World.putObj_heap_other (by omega), fun g e => World.putObj_heap_other (by have := (OWN.out g e).2; omega)⟩
    case ownI =>
      rintro pre X Y row ⟨h1, h2, h3⟩ hg hr
      have hc : ∀ r, row = some r → ∃ o : Obj, X.heap[r]? = some o ∧ o.isCells = false := fun r e => (hr r e).2
      exact ⟨blk_own (β := Unit) _ _ (fun _ => _) () X Y row h1 hg hc, blk_own (β := Unit) _ _ (fun _ => _) () X Y row h2 hg hc, mxk_own h3 (by omega) hg (fun r e => (hr r e).1)⟩
    case ownX => exact fun _ _ _ _ _ hs _ _ => hs
    case ownT => exact fun pre x _ X Y row h hg hr => ⟨h.1, blk_own (β := Unit) _ _ (fun _ => _) () X Y row h.2 hg (fun r e => (hr r e).2)⟩
    case i0 => show Blk _ _ _ (ints (mxl sh ds a 0 M)).toArray; rw [(mxl_zero sh ds a M).1]; exact ID.out
    case i1 => show Blk _ _ _ (ints (mpl sh ds a 0 M)).toArray; rw [(mxl_zero sh ds a M).2]; exact IP.out
    case assign =>
      intro l2 x X K hK
      unfold apr
      gi_wp2
      exact hK
    case body =>
      rintro l2 pre ⟨x1, x2⟩ X ⟨hD, hP, hK⟩ hlt ⟨hx, hBI⟩
      obtain rfl : x1 = pre.length := hx
      -- BEGIN round
      have sX := hK.1.size
      have hz : w.heap.size + 5 ≤ w4.heap.size ∧ w.heap.size + 5 ≤ TB ∧ TB < w4.heap.size ∧ w.heap.size + 2 ≤ S2 ∧ S2 ≤ w.heap.size + 2 ∧ S3 ≤ w.heap.size + 3 ∧ w.heap.size + 3 ≤ S3 := by have := HZ.out; omega
      have J0 := mxk_blk hK I0.out I0.out.lt (by omega) (by omega)
      have J1 := mxk_blk hK I1.out I1.out.lt (by omega) (by omega)
      have J2 := mxk_blk hK I2.out I2.out.lt (by omega) (by omega)
      have J3 := mxk_blk hK I3.out I3.out.lt (by omega) (by omega)
      have JT := mxk_blk hK IT.out IT.out.lt (by omega) (by omega)
      obtain ⟨jt0, jt1, jt2, jt3⟩ := blk4 JT
      obtain ⟨k, hk⟩ := Int.eq_ofNat_of_zero_le (HIB.out pre.length hlt).1
      have hkM : k < M := by have := (HIB.out pre.length hlt).2; have := HV.out.2.2.2; omega
      have BWX : Below w.heap.size w X := B7.out.trans (hK.1.mono (by omega))
      have LX : Ld X (.slice o5 sh.length c5) (ons sh [(a : Int)] 0) := HL4.out.keepx X2.out X3.out (by omega) (fun q hq h2 h3 => (hK.2 q (by omega) (by omega) (by omega)).trans ((OG7.out.block q (by omega)).trans (EK.out.2 q hq h2 h3)))
      have HLd : Ld X (.slice (some ⟨x2, 0, none⟩) sh.length sh.length) (atl sh (pre.length : Nat)) := by
        have h := Ld.of_blk hBI (c := sh.length) (by rw [atl_len]; exact Nat.le_refl _)
        rw [atl_len] at h
        exact h
      have CUn := Lib.hid (CU.out pre.length _ (.slice o6 m6 c6) _ X hlt BWX LX ⟨_, _, _, rfl⟩ HLd)
      rw [hk] at CUn
      obtain ⟨bd, fd, rfl, hd1, hd2⟩ := HDX.out pre.length hlt
      have hmx := mxl_put (ds := ds) (M := M) hk hkM
      have hmk := mxl_keep (ds := ds) (M := M) hk hkM
      have hci : X.cell? ⟨x2, a, none⟩ = some (.int .i64 (stx sh a pre.length)) := by
        have h := hBI.cell a
        rw [ints_at (by rw [atl_len]; exact ha)] at h
        exact h
      have hD' := hD
      have hcm := hD.cell k
      rw [ints_at (by rw [mxl_len]; exact hkM)] at hcm
      have hcp := hP.cell k
      rw [ints_at (by rw [mpl_len]; exact hkM)] at hcp
      have hx2 := hBI.lt
      gi_wp2_with (refine And.intro trivial ?_; (with_reducible refine CallsIn.mono (CallsIn.inRound _ (callsIn_wide.2 CUn.out)) ?_); rintro e X1 ⟨rfl, hb1⟩; have b1 := Lib.hid hb1; clear hb1)
      have kD := Lib.hid (hD.below b1.out hD.lt)
      have kP := Lib.hid (hP.below b1.out hP.lt)
      have kK : Hid (MxK S2 gd gp w7 X1) := Lib.hid ⟨hK.1.trans (b1.out.mono (by omega)), fun q hq h1 h2 => (b1.out.block q (by omega)).trans (hK.2 q hq h1 h2)⟩
      have k0 := J0.below b1.out J0.lt
      have k1 := J1.below b1.out J1.lt
      have k2 := J2.below b1.out J2.lt
      have k3 := J3.below b1.out J3.lt
      have kd : X1.cell? ⟨bd, fd + pre.length, none⟩ = some (.int .i64 (ds.getD pre.length 0)) := ((BWX.trans (b1.out.mono BWX.size)).cell (p := ⟨bd, fd + pre.length, none⟩) hd1).trans hd2
      have ki : X1.cell? ⟨x2, a, none⟩ = some (.int .i64 (stx sh a pre.length)) := (b1.out.cell (p := ⟨x2, a, none⟩) hx2).trans hci
      have km : X1.cell? ⟨gd, k, none⟩ = some (.int .i64 ((mxl sh ds a pre.length M).getD k 0)) := (b1.out.cell (p := ⟨gd, k, none⟩) hD.lt).trans hcm
      have kp : X1.cell? ⟨gp, k, none⟩ = some (.int .i64 ((mpl sh ds a pre.length M).getD k 0)) := (b1.out.cell (p := ⟨gp, k, none⟩) hP.lt).trans hcp
      have i1 : (a : Int) < (sh.length : Int) := by omega
      have i2 : (pre.length : Int) < (ds.length : Int) := by omega
      have i3 : (k : Int) < (M : Int) := by omega
      have HB1 := Lib.hid b1.out
      have bdl : bd < w.heap.size := hd1
      have e1 : (pre ++ [(pre.length, x2)]).length = pre.length + 1 := by simp
      have HSAME : Hid (∀ W : World, (∀ q, q < X1.heap.size → ¬ q = gd → ¬ q = gp → W.heap[q]? = X1.heap[q]?) → X1.heap.size ≤ W.heap.size → Below S2 w7 W → Blk W gd 2 (ints (mxl sh ds a (pre.length + 1) M)).toArray → Blk W gp 3 (ints (mpl sh ds a (pre.length + 1) M)).toArray → ∀ ac : Act, ownPostG w7.heap.size (Kp3 B1 B2 oA) (fun pre W => Blk W gd 2 (ints (mxl sh ds a pre.length M)).toArray ∧ Blk W gp 3 (ints (mpl sh ds a pre.length M)).toArray ∧ MxK S2 gd gp w7 W) (fun _ _ _ => False) (pre ++ [(pre.length, x2)]) X .normal ac W) := Lib.hid (fun W hW hz2 hB2 hgD hgP ac => by
        have hs1 : ∀ q, q < X.heap.size → ¬ q = gd → ¬ q = gp → W.heap[q]? = X.heap[q]? := fun q hq h1 h2 => (hW q (Nat.lt_of_lt_of_le hq b1.out.size) h1 h2).trans (b1.out.block q hq)
        refine ⟨⟨Nat.le_trans b1.out.size hz2, fun j o hj ho _ => (hs1 j (Array.getElem?_eq_some_iff.1 ho).1 (by omega) (by omega)).trans ho⟩, ⟨hs1 B1 (by omega) (by omega) (by omega), hs1 B2 (by omega) (by omega) (by omega), fun g e => by have := OWN.out g e; exact hs1 g (by omega) (by omega) (by omega)⟩, ?_⟩
        show Blk _ _ _ (ints (mxl sh ds a (pre ++ [(pre.length, x2)]).length M)).toArray ∧ Blk _ _ _ (ints (mpl sh ds a (pre ++ [(pre.length, x2)]).length M)).toArray ∧ _
        rw [e1]
        exact ⟨hgD, hgP, hB2, fun q hq h1 h2 => (hs1 q (by omega) h1 h2).trans (hK.2 q hq h1 h2)⟩)
      have HPD : Hid (stx sh a pre.length = 0 ∨ (mxl sh ds a pre.length M).getD k 0 < ds.getD pre.length 0 → ∀ ac : Act, ownPostG w7.heap.size (Kp3 B1 B2 oA) (fun pre W => Blk W gd 2 (ints (mxl sh ds a pre.length M)).toArray ∧ Blk W gp 3 (ints (mpl sh ds a pre.length M)).toArray ∧ MxK S2 gd gp w7 W) (fun _ _ _ => False) (pre ++ [(pre.length, x2)]) X .normal ac ((X1.drew.drew.setCell ⟨gd, k, none⟩ (.int .i64 (ds.getD pre.length 0))).setCell ⟨gp, k, none⟩ (.int .i64 (stx sh a pre.length)))) := Lib.hid (fun hc ac => by
        obtain ⟨p1, p2⟩ := hmx hc
        refine HSAME.out ((X1.drew.drew.setCell ⟨gd, k, none⟩ (.int .i64 (ds.getD pre.length 0))).setCell ⟨gp, k, none⟩ (.int .i64 (stx sh a pre.length))) (fun q hq h1 h2 => (Below.heap_setCell _ _ _ q h2).trans (Below.heap_setCell _ _ _ q h1)) (by simp) (((below_drw (below_drw kK.out.1 1) 1).setCell (p := ⟨gd, k, none⟩) (by show S2 ≤ gd; omega) _).setCell (p := ⟨gp, k, none⟩) (by show S2 ≤ gp; omega) _) ?_ ?_ ac
        · rw [p1]; exact (Blk.put (show Blk X1.drew.drew gd _ _ from kD.out) k (ds.getD pre.length 0)).far (p := ⟨gp, k, none⟩) hgg _
        · rw [p2]; exact Blk.put ((show Blk X1.drew.drew gp _ _ from kP.out).far (p := ⟨gd, k, none⟩) (Ne.symm hgg) _) k (stx sh a pre.length))
      have HKEEP : Hid (¬ (stx sh a pre.length = 0 ∨ (mxl sh ds a pre.length M).getD k 0 < ds.getD pre.length 0) → ∀ ac : Act, ownPostG w7.heap.size (Kp3 B1 B2 oA) (fun pre W => Blk W gd 2 (ints (mxl sh ds a pre.length M)).toArray ∧ Blk W gp 3 (ints (mpl sh ds a pre.length M)).toArray ∧ MxK S2 gd gp w7 W) (fun _ _ _ => False) (pre ++ [(pre.length, x2)]) X .normal ac X1.drew) := Lib.hid (fun hc ac => by
        obtain ⟨p1, p2⟩ := hmk hc
        exact HSAME.out X1.drew (fun q hq _ _ => rfl) (Nat.le_refl _) (below_drw kK.out.1 1) (by rw [p1]; exact kD.out) (by rw [p2]; exact kP.out) ac)
      have CP0 : Hid (∀ u : Value, (X1.drew.drew.setCell ⟨gd, k, none⟩ u).cell? ⟨gp, k, none⟩ = some (.int .i64 ((mpl sh ds a pre.length M).getD k 0)) ∧ (X1.drew.drew.setCell ⟨gd, k, none⟩ u).frozen? ⟨gp, k, none⟩ = false) := Lib.hid (fun u => by
        have h := (show Blk X1.drew.drew gp _ _ from kP.out).far (p := ⟨gd, k, none⟩) (Ne.symm hgg) u
        have h2 := h.cell k
        rw [ints_at (by rw [mpl_len]; exact hkM)] at h2
        exact ⟨h2, h.frozen k⟩)
      have CM0 : Hid (X1.drew.drew.cell? ⟨gd, k, none⟩ = some (.int .i64 ((mxl sh ds a pre.length M).getD k 0)) ∧ X1.drew.drew.frozen? ⟨gd, k, none⟩ = false) := Lib.hid ⟨km, kD.out.frozen k⟩
      have sX1 : X.heap.size ≤ X1.heap.size := b1.out.size
      obtain ⟨d, hdd⟩ : ∃ d, d = ds.getD pre.length 0 := ⟨_, rfl⟩
      obtain ⟨m, hmm⟩ : ∃ m, m = (mxl sh ds a pre.length M).getD k 0 := ⟨_, rfl⟩
      obtain ⟨st, hst⟩ : ∃ st, st = stx sh a pre.length := ⟨_, rfl⟩
      rw [← hdd] at kd
      rw [← hmm] at km
      rw [← hst] at ki
      rw [← hst, ← hmm, ← hdd] at HPD HKEEP
      rw [← hmm] at CM0
      have KS9a : Hid (X1.drew.cell? ⟨w.heap.size + 1, 0, none⟩ = some (.int .i64 (a : Int)) ∧ X1.drew.cell? ⟨x2, a, none⟩ = some (.int .i64 st) ∧ X1.drew.cell? ⟨w.heap.size, 1, none⟩ = some (.slice (some ⟨bd, fd, none⟩) ds.length n2) ∧ X1.drew.cell? ⟨bd, fd + pre.length, none⟩ = some (.int .i64 d) ∧ X1.drew.cell? ⟨S2, 1, none⟩ = some (.slice (some ⟨gd, 0, none⟩) M M) ∧ X1.drew.cell? ⟨gd, k, none⟩ = some (.int .i64 m)) := Lib.hid ⟨k1.cell 0, ki, k0.cell 1, kd, k2.cell 1, km⟩
      have KS10a : Hid (∀ W : World, (∀ q, q < X1.heap.size → ¬ q = gd → ¬ q = gp → W.heap[q]? = X1.heap[q]?) → W.cell? ⟨w.heap.size + 1, 0, none⟩ = some (.int .i64 (a : Int)) ∧ W.cell? ⟨w.heap.size, 1, none⟩ = some (.slice (some ⟨bd, fd, none⟩) ds.length n2) ∧ W.cell? ⟨bd, fd + pre.length, none⟩ = some (.int .i64 d) ∧ W.cell? ⟨S2, 1, none⟩ = some (.slice (some ⟨gd, 0, none⟩) M M) ∧ W.cell? ⟨S3, 0, none⟩ = some (.slice (some ⟨gp, 0, none⟩) M M)) := Lib.hid (fun W hW => by
        have e : ∀ (b i : Nat) (x : Value), b < X1.heap.size → ¬ b = gd → ¬ b = gp → X1.cell? ⟨b, i, none⟩ = some x → W.cell? ⟨b, i, none⟩ = some x := fun b i x hb h1 h2 hx => by
          rw [← hx]
          simp only [World.cell?]
          rw [hW b hb h1 h2]
        exact ⟨e _ _ _ k1.lt (by omega) (by omega) (k1.cell 0), e _ _ _ k0.lt (by omega) (by omega) (k0.cell 1), e _ _ _ (by omega) (by omega) (by omega) kd, e _ _ _ k2.lt (by omega) (by omega) (k2.cell 1), e _ _ _ k3.lt (by omega) (by omega) (k3.cell 0)⟩)
      have KS10 := Lib.hid (KS10a.out X1.drew.drew (fun _ _ _ _ => rfl))
      have KS11 := Lib.hid (fun u => KS10a.out (X1.drew.drew.setCell ⟨gd, k, none⟩ u) (fun q _ h1 _ => Below.heap_setCell _ _ _ q h1))
      have KS12 := Lib.hid (fun u v => KS10a.out ((X1.drew.drew.setCell ⟨gd, k, none⟩ u).setCell ⟨gp, k, none⟩ v) (fun q _ h1 h2 => (Below.heap_setCell _ _ _ q h2).trans (Below.heap_setCell _ _ _ q h1)))
      have CL0 : Hid (X1.drew.drew.cell? ⟨x2, a, none⟩ = some (.int .i64 st)) := Lib.hid ki
      generalize (mpl sh ds a pre.length M).getD k 0 = pk at *
      have CM := CM0
      have CP := CP0
      clear hD hD' hP hK hBI hdd hmm hst J0 J1 J2 J3 JT jt0 jt1 jt2 jt3 hmx hmk hci hcm hcp k0 k1 k2 k3 kd ki km kp HSAME LX HLd hd1 hd2 e1 CUn CM0 CP0
      by_cases c0 : st = 0
      · subst c0
        have HPUT := Lib.hid (HPD.out (.inl rfl))
        have KS9 := KS9a
        have CL := CL0
        clear HPD HKEEP KS9a CL0
        as_aux_lemma =>
        refine' region_inF (S := fun W => W.cell? ⟨w.heap.size + 1, 0, none⟩ = some (.int .i64 (a : Int)) ∧ W.cell? ⟨x2, a, none⟩ = some (.int .i64 0) ∧ W.cell? ⟨w.heap.size, 1, none⟩ = some (.slice (some ⟨bd, fd, none⟩) ds.length n2) ∧ W.cell? ⟨bd, fd + pre.length, none⟩ = some (.int .i64 d) ∧ W.cell? ⟨S2, 1, none⟩ = some (.slice (some ⟨gd, 0, none⟩) M M) ∧ W.cell? ⟨gd, k, none⟩ = some (.int .i64 m)) (X := X1.drew) (by kernel_rfl) (by kernel_rfl) ?sA (fun hHeld => ?rA) ?qA
        case sA => exact KS9.out
        case rA =>
          simp only [List.size_toArray, List.length_cons, List.length_nil, Nat.reduceAdd, Array.replicate_succ, Array.replicate_zero, List.push_toArray, List.nil_append, List.cons_append]
          (refine wpAnyH_take (i := 0) (oi := ⟨some 39, _, _, _, _, _⟩) (v := ?v0_aA1) rfl (by kernel_rfl) (by kernel_rfl) (by kernel_rfl) (fun _ _ _ h => by cases h.1) (Or.inl ⟨by rfl, ?hy0_aA1⟩) (by assumption) ?rest0_aA1; (case hy0_aA1 => ((intro w hSw); (try dsimp only at hSw); go_simp; first | done | (with_reducible rfl))))
          (try simp only [Act.put, List.setIfInBounds_toArray, List.set_cons_zero, List.set_cons_succ])
          (refine wpAnyH_take (i := 1) (oi := ⟨some 40, _, _, _, _, _⟩) (v := ?v1_aA2) rfl (by kernel_rfl) (by kernel_rfl) (by kernel_rfl) (fun _ _ _ h => by cases h.1) (Or.inl ⟨by rfl, ?hy1_aA2⟩) (by assumption) ?rest1_aA2; (case hy1_aA2 => ((intro w hSw); (try dsimp only at hSw); go_simp; first | done | (with_reducible rfl))))
          (try simp only [Act.put, List.setIfInBounds_toArray, List.set_cons_zero, List.set_cons_succ])
          (refine wpAnyH_take (i := 2) (oi := ⟨some 41, _, _, _, _, _⟩) (v := ?v2_aA3) rfl (by kernel_rfl) (by kernel_rfl) (by kernel_rfl) (fun _ _ _ h => by cases h.1) (Or.inl ⟨by rfl, ?hy2_aA3⟩) (by assumption) ?rest2_aA3; (case hy2_aA3 => ((intro w hSw); (try dsimp only at hSw); go_simp; first | done | (with_reducible rfl))))
          (try simp only [Act.put, List.setIfInBounds_toArray, List.set_cons_zero, List.set_cons_succ])
          (refine wpAnyH_take (i := 3) (oi := ⟨some 42, _, _, _, _, _⟩) (v := ?v3_aA4) rfl (by kernel_rfl) (by kernel_rfl) (by kernel_rfl) (fun _ _ _ h => by cases h.1) (Or.inl ⟨by rfl, ?hy3_aA4⟩) (by assumption) ?rest3_aA4; (case hy3_aA4 => ((intro w hSw); (try dsimp only at hSw); go_simp; first | done | (with_reducible rfl))))
          (try simp only [Act.put, List.setIfInBounds_toArray, List.set_cons_zero, List.set_cons_succ])
          (refine wpAnyH_take (i := 4) (oi := ⟨some 43, _, _, _, _, _⟩) (v := .bool true) rfl (by kernel_rfl) (by kernel_rfl) (by kernel_rfl) (fun _ _ _ h => by cases h.1) (Or.inl ⟨by rfl, ?hy4_aA5⟩) (by assumption) ?rest4_aA5; (case hy4_aA5 => ((intro w hSw); (try dsimp only at hSw); go_simp; first | done | (with_reducible rfl))))
          (try simp only [Act.put, List.setIfInBounds_toArray, List.set_cons_zero, List.set_cons_succ])
          (refine wpAnyH_take (i := 5) (oi := ⟨some 44, _, _, _, _, _⟩) (v := .bool true) rfl (by kernel_rfl) (by kernel_rfl) (by kernel_rfl) (fun _ _ _ h => by cases h.1) (Or.inl ⟨by rfl, ?hy5_aA6⟩) (by assumption) ?rest5_aA6; (case hy5_aA6 => ((intro w hSw); (try dsimp only at hSw); go_simp; first | done | (with_reducible rfl))))
          (try simp only [Act.put, List.setIfInBounds_toArray, List.set_cons_zero, List.set_cons_succ])
          (refine wpAnyH_take (i := 6) (oi := ⟨some 45, _, _, _, _, _⟩) (v := _) rfl (by kernel_rfl) (by kernel_rfl) (by kernel_rfl) (fun _ _ _ h => by cases h.1) (Or.inr ⟨by rfl, rfl⟩) (by assumption) ?_)
          (try simp only [Act.put, List.setIfInBounds_toArray, List.set_cons_zero, List.set_cons_succ])
          (refine wpAnyH_take (i := 7) (oi := ⟨some 46, _, _, _, _, _⟩) (v := _) rfl (by kernel_rfl) (by kernel_rfl) (by kernel_rfl) (fun _ _ _ h => by cases h.1) (Or.inr ⟨by rfl, rfl⟩) (by assumption) ?_)
          (try simp only [Act.put, List.setIfInBounds_toArray, List.set_cons_zero, List.set_cons_succ])
          (refine wpAnyH_take (i := 8) (oi := ⟨some 47, _, _, _, _, _⟩) (v := _) rfl (by kernel_rfl) (by kernel_rfl) (by kernel_rfl) (fun _ _ _ h => by cases h.1) (Or.inr ⟨by rfl, rfl⟩) (by assumption) ?_)
          (try simp only [Act.put, List.setIfInBounds_toArray, List.set_cons_zero, List.set_cons_succ])
          (refine wpAnyH_take (i := 9) (oi := ⟨some 48, _, _, _, _, _⟩) (v := _) rfl (by kernel_rfl) (by kernel_rfl) (by kernel_rfl) (fun _ _ _ h => by cases h.1) (Or.inr ⟨by rfl, rfl⟩) (by assumption) ?_)
          (try simp only [Act.put, List.setIfInBounds_toArray, List.set_cons_zero, List.set_cons_succ])
          (refine wpAnyH_take (i := 10) (oi := ⟨some 49, _, _, _, _, _⟩) (v := _) rfl (by kernel_rfl) (by kernel_rfl) (by kernel_rfl) (fun _ _ _ h => by cases h.1) (Or.inr ⟨by rfl, rfl⟩) (by assumption) ?_)
          (try simp only [Act.put, List.setIfInBounds_toArray, List.set_cons_zero, List.set_cons_succ])
          (refine wpAnyH_take (i := 11) (oi := ⟨some 50, _, _, _, _, _⟩) (v := _) rfl (by kernel_rfl) (by kernel_rfl) (by kernel_rfl) (fun _ _ _ h => by cases h.1) (Or.inr ⟨by rfl, rfl⟩) (by assumption) ?_)
          (try simp only [Act.put, List.setIfInBounds_toArray, List.set_cons_zero, List.set_cons_succ])
          (refine wpAnyH_take (i := 12) (oi := ⟨some 51, _, _, _, _, _⟩) (v := _) rfl (by kernel_rfl) (by kernel_rfl) (by kernel_rfl) (fun _ _ _ h => by cases h.1) (Or.inr ⟨by rfl, rfl⟩) (by assumption) ?_)
          (try simp only [Act.put, List.setIfInBounds_toArray, List.set_cons_zero, List.set_cons_succ])
          (refine wpAnyH_take (i := 13) (oi := ⟨some 52, _, _, _, _, _⟩) (v := _) rfl (by kernel_rfl) (by kernel_rfl) (by kernel_rfl) (fun _ _ _ h => by cases h.1) (Or.inr ⟨by rfl, rfl⟩) (by assumption) ?_)
          (try simp only [Act.put, List.setIfInBounds_toArray, List.set_cons_zero, List.set_cons_succ])
          (refine wpAnyH_take (i := 14) (oi := ⟨some 53, _, _, _, _, _⟩) (v := _) rfl (by kernel_rfl) (by kernel_rfl) (by kernel_rfl) (fun _ _ _ h => by cases h.1) (Or.inr ⟨by rfl, rfl⟩) (by assumption) ?_)
          (try simp only [Act.put, List.setIfInBounds_toArray, List.set_cons_zero, List.set_cons_succ])
          (refine wpAnyH_take (i := 15) (oi := ⟨some 54, _, _, _, _, _⟩) (v := _) rfl (by kernel_rfl) (by kernel_rfl) (by kernel_rfl) (fun _ _ _ h => by cases h.1) (Or.inr ⟨by rfl, rfl⟩) (by assumption) ?_)
          (try simp only [Act.put, List.setIfInBounds_toArray, List.set_cons_zero, List.set_cons_succ])
          (refine wpAnyH_take (i := 16) (oi := ⟨some 55, _, _, _, _, _⟩) (v := _) rfl (by kernel_rfl) (by kernel_rfl) (by kernel_rfl) (fun _ _ _ h => by cases h.1) (Or.inr ⟨by rfl, rfl⟩) (by assumption) ?_)
          (try simp only [Act.put, List.setIfInBounds_toArray, List.set_cons_zero, List.set_cons_succ])
          (refine wpAnyH_take (i := 17) (oi := ⟨some 56, _, _, _, _, _⟩) (v := .bool true) rfl (by kernel_rfl) (by kernel_rfl) (by kernel_rfl) (fun _ _ _ h => by cases h.1) (Or.inl ⟨by rfl, ?hy17_aA18⟩) (by assumption) ?rest17_aA18; (case hy17_aA18 => ((intro w hSw); (try dsimp only at hSw); go_simp; first | done | (with_reducible rfl))))
          (try simp only [Act.put, List.setIfInBounds_toArray, List.set_cons_zero, List.set_cons_succ])
          refine wpAnyH_done (by kernel_rfl) ?_ _
          exact ⟨rfl, rfl, rfl⟩
        gi_wp2
        refine wpIn_mono (region_inA (S := fun W => W.cell? ⟨w.heap.size + 1, 0, none⟩ = some (.int .i64 (a : Int)) ∧ W.cell? ⟨w.heap.size, 1, none⟩ = some (.slice (some ⟨bd, fd, none⟩) ds.length n2) ∧ W.cell? ⟨bd, fd + pre.length, none⟩ = some (.int .i64 d) ∧ W.cell? ⟨S2, 1, none⟩ = some (.slice (some ⟨gd, 0, none⟩) M M) ∧ W.cell? ⟨S3, 0, none⟩ = some (.slice (some ⟨gp, 0, none⟩) M M)) (R := fun _ W2 => W2 = (X1.drew.drew.setCell ⟨gd, k, none⟩ (.int .i64 d)).setCell ⟨gp, k, none⟩ (.int .i64 0)) (by kernel_rfl) (by kernel_rfl) ?sA1 (fun hHeld => ?rA1)) ?qA1
        case sA1 => exact KS10.out
        case rA1 =>
          simp only [List.size_toArray, List.length_cons, List.length_nil, Nat.reduceAdd, Array.replicate_succ, Array.replicate_zero, List.push_toArray, List.nil_append, List.cons_append]
          generalize X1.drew.drew = wq at *
          (refine wpAnyH_take (i := 0) (oi := ⟨some 57, _, _, _, _, _⟩) (v := ?v0_bA11) rfl (by kernel_rfl) (by kernel_rfl) (by kernel_rfl) (fun _ _ _ h => by cases h.1) (Or.inl ⟨by rfl, ?hy0_bA11⟩) (by assumption) ?rest0_bA11; (case hy0_bA11 => ((intro w hSw); (try dsimp only at hSw); go_simp; first | done | (with_reducible rfl))))
          (try simp only [Act.put, List.setIfInBounds_toArray, List.set_cons_zero, List.set_cons_succ])
          (refine wpAnyH_take (i := 1) (oi := ⟨some 58, _, _, _, _, _⟩) (v := ?v1_bA12) rfl (by kernel_rfl) (by kernel_rfl) (by kernel_rfl) (fun _ _ _ h => by cases h.1) (Or.inl ⟨by rfl, ?hy1_bA12⟩) (by assumption) ?rest1_bA12; (case hy1_bA12 => ((intro w hSw); (try dsimp only at hSw); go_simp; first | done | (with_reducible rfl))))
          (try simp only [Act.put, List.setIfInBounds_toArray, List.set_cons_zero, List.set_cons_succ])
          (refine wpAnyH_take (i := 2) (oi := ⟨some 59, _, _, _, _, _⟩) (v := ?v2_bA13) rfl (by kernel_rfl) (by kernel_rfl) (by kernel_rfl) (fun _ _ _ h => by cases h.1) (Or.inl ⟨by rfl, ?hy2_bA13⟩) (by assumption) ?rest2_bA13; (case hy2_bA13 => ((intro w hSw); (try dsimp only at hSw); go_simp; first | done | (with_reducible rfl))))
          (try simp only [Act.put, List.setIfInBounds_toArray, List.set_cons_zero, List.set_cons_succ])
          (refine wpAnyH_take (i := 3) (oi := ⟨some 60, _, _, _, _, _⟩) (v := ?v3_bA14) rfl (by kernel_rfl) (by kernel_rfl) (by kernel_rfl) (fun _ _ _ h => by cases h.1) (Or.inl ⟨by rfl, ?hy3_bA14⟩) (by assumption) ?rest3_bA14; (case hy3_bA14 => ((intro w hSw); (try dsimp only at hSw); go_simp; first | done | (with_reducible rfl))))
          (try simp only [Act.put, List.setIfInBounds_toArray, List.set_cons_zero, List.set_cons_succ])
          (refine wpAnyH_take (i := 4) (oi := ⟨some 61, _, _, _, _, _⟩) (v := ?v4_bA15) rfl (by kernel_rfl) (by kernel_rfl) (by kernel_rfl) (fun _ _ _ h => by cases h.1) (Or.inl ⟨by rfl, ?hy4_bA15⟩) (by assumption) ?rest4_bA15; (case hy4_bA15 => ((intro w hSw); (try dsimp only at hSw); go_simp; first | done | (with_reducible rfl))))
          (try simp only [Act.put, List.setIfInBounds_toArray, List.set_cons_zero, List.set_cons_succ])
          (refine wpAnyH_take (i := 5) (oi := ⟨some 62, _, _, _, _, _⟩) (v := ?v5_bA16) rfl (by kernel_rfl) (by kernel_rfl) (by kernel_rfl) (fun _ _ _ h => by cases h.1) (Or.inl ⟨by rfl, ?hy5_bA16⟩) (by assumption) ?rest5_bA16; (case hy5_bA16 => ((intro w hSw); (try dsimp only at hSw); go_simp; first | done | (with_reducible rfl))))
          (try simp only [Act.put, List.setIfInBounds_toArray, List.set_cons_zero, List.set_cons_succ])
          (refine wpAnyH_take (i := 6) (oi := ⟨some 63, _, _, _, _, _⟩) (v := ?v6_bA17) rfl (by kernel_rfl) (by kernel_rfl) (by kernel_rfl) (fun _ _ _ h => by cases h.1) (Or.inl ⟨by rfl, ?hy6_bA17⟩) (by assumption) ?rest6_bA17; (case hy6_bA17 => ((intro w hSw); (try dsimp only at hSw); go_simp; first | done | (with_reducible rfl))))
          (try simp only [Act.put, List.setIfInBounds_toArray, List.set_cons_zero, List.set_cons_succ])
          (refine wpAnyH_take (i := 7) (oi := ⟨some 64, _, _, _, _, _⟩) (v := ?v7_bA18) rfl (by kernel_rfl) (by kernel_rfl) (by kernel_rfl) (fun _ _ _ h => by cases h.1) (Or.inl ⟨by rfl, ?hy7_bA18⟩) (by assumption) ?rest7_bA18; (case hy7_bA18 => ((intro w hSw); (try dsimp only at hSw); go_simp; first | done | (with_reducible rfl))))
          (try simp only [Act.put, List.setIfInBounds_toArray, List.set_cons_zero, List.set_cons_succ])
          (refine wpAnyH_take (i := 8) (oi := ⟨some 65, _, _, _, _, _⟩) (v := ?v8_bA19) rfl (by kernel_rfl) (by kernel_rfl) (by kernel_rfl) (fun _ _ _ h => by cases h.1) (Or.inl ⟨by rfl, ?hy8_bA19⟩) (by assumption) ?rest8_bA19; (case hy8_bA19 => ((intro w hSw); (try dsimp only at hSw); go_simp; first | done | (with_reducible rfl))))
          (try simp only [Act.put, List.setIfInBounds_toArray, List.set_cons_zero, List.set_cons_succ])
          (refine wpAnyH_take (i := 9) (oi := ⟨some 66, _, _, _, _, _⟩) (v := ?v9_bA110) rfl (by kernel_rfl) (by kernel_rfl) (by kernel_rfl) (fun _ _ _ h => by cases h.1) (Or.inl ⟨by rfl, ?hy9_bA110⟩) (by assumption) ?rest9_bA110; (case hy9_bA110 => ((intro w hSw); (try dsimp only at hSw); go_simp; first | done | (with_reducible rfl))))
          (try simp only [Act.put, List.setIfInBounds_toArray, List.set_cons_zero, List.set_cons_succ])
          (refine wpAnyH_take (i := 10) (oi := ⟨some 67, _, _, _, _, _⟩) (v := ?v10_bA111) rfl (by kernel_rfl) (by kernel_rfl) (by kernel_rfl) (fun _ _ _ h => by cases h.1) (Or.inl ⟨by rfl, ?hy10_bA111⟩) (by assumption) ?rest10_bA111; (case hy10_bA111 => ((intro w hSw); (try dsimp only at hSw); go_simp; first | done | (with_reducible rfl))))
          (try simp only [Act.put, List.setIfInBounds_toArray, List.set_cons_zero, List.set_cons_succ])
          (refine wpAnyH_take (i := 11) (oi := ⟨some 68, _, _, _, _, _⟩) (v := ?v11_bA112) rfl (by kernel_rfl) (by kernel_rfl) (by kernel_rfl) (fun _ _ _ h => by cases h.1) (Or.inl ⟨by rfl, ?hy11_bA112⟩) (by assumption) ?rest11_bA112; (case hy11_bA112 => ((intro w hSw); (try dsimp only at hSw); go_simp; first | done | (with_reducible rfl))))
          (try simp only [Act.put, List.setIfInBounds_toArray, List.set_cons_zero, List.set_cons_succ])
          (refine wpAnyH_take (i := 12) (oi := ⟨some 69, _, _, _, _, _⟩) (v := ?v12_bA113) rfl (by kernel_rfl) (by kernel_rfl) (by kernel_rfl) (fun _ _ _ h => by cases h.1) (Or.inl ⟨by rfl, ?hy12_bA113⟩) (by assumption) ?rest12_bA113; (case hy12_bA113 => ((intro w hSw); (try dsimp only at hSw); go_simp; first | done | (with_reducible rfl))))
          (try simp only [Act.put, List.setIfInBounds_toArray, List.set_cons_zero, List.set_cons_succ])
          refine wpAnyH_ready (rs := [13]) (by kernel_rfl) (by simp) ?_
          refine AllReadyH.cons (o := ⟨some 70, _, _, _, _, _⟩) rfl (fun K hK => ?_) (AllReadyH.nil)
          have hli := CL.out
          go_simp
          refine hK.out _ _ ?_ (fun hHeld => ?_)
          · (try dsimp only)
            exact KS10.out
          clear hK K
          (try simp only [List.setIfInBounds_toArray, List.set_cons_zero, List.set_cons_succ])
          (refine wpAnyH_take (i := 14) (oi := ⟨some 71, _, _, _, _, _⟩) (v := ?v14_bA114) rfl (by kernel_rfl) (by kernel_rfl) (by kernel_rfl) (fun _ _ _ h => by cases h.1) (Or.inl ⟨by rfl, ?hy14_bA114⟩) (by assumption) ?rest14_bA114; (case hy14_bA114 => ((intro w hSw); (try dsimp only at hSw); go_simp; first | done | (with_reducible rfl))))
          (try simp only [Act.put, List.setIfInBounds_toArray, List.set_cons_zero, List.set_cons_succ])
          refine wpAnyH_ready (rs := [15]) (by kernel_rfl) (by simp) ?_
          refine AllReadyH.cons (o := ⟨none, _, _, _, _, _⟩) rfl (fun K hK => ?_) (AllReadyH.nil)
          obtain ⟨m0, mf0⟩ := CM.out
          go_simp
          refine hK.out _ _ ?_ (fun hHeld => ?_)
          · (try dsimp only)
            exact KS11.out _
          clear hK K
          (try simp only [List.setIfInBounds_toArray, List.set_cons_zero, List.set_cons_succ])
          (refine wpAnyH_take (i := 16) (oi := ⟨some 72, _, _, _, _, _⟩) (v := ?v16_bA115) rfl (by kernel_rfl) (by kernel_rfl) (by kernel_rfl) (fun _ _ _ h => by cases h.1) (Or.inl ⟨by rfl, ?hy16_bA115⟩) (by assumption) ?rest16_bA115; (case hy16_bA115 => ((intro w hSw); (try dsimp only at hSw); go_simp; first | done | (with_reducible rfl))))
          (try simp only [Act.put, List.setIfInBounds_toArray, List.set_cons_zero, List.set_cons_succ])
          refine wpAnyH_ready (rs := [17]) (by kernel_rfl) (by simp) ?_
          refine AllReadyH.cons (o := ⟨none, _, _, _, _, _⟩) rfl (fun K hK => ?_) (AllReadyH.nil)
          obtain ⟨m0, mf0⟩ := CP.out (.int .i64 d)
          go_simp
          refine hK.out _ _ ?_ (fun hHeld => ?_)
          · (try dsimp only)
            exact KS12.out _ _
          clear hK K
          (try simp only [List.setIfInBounds_toArray, List.set_cons_zero, List.set_cons_succ])
          refine wpAnyH_done (by kernel_rfl) ?_ _
          exact ⟨rfl, rfl⟩
        rintro e a4 W4 ⟨rfl, rfl⟩
        gi_wp2
        exact HPUT.out _
      · by_cases c1 : m < d
        · have HPUT := Lib.hid (HPD.out (.inr c1))
          have b0 : (st == 0) = false := beq_eq_false_iff_ne.2 c0
          have KS9 := KS9a
          have CL := CL0
          clear HPD HKEEP KS9a CL0 c0
          as_aux_lemma =>
          refine' region_inF (S := fun W => W.cell? ⟨w.heap.size + 1, 0, none⟩ = some (.int .i64 (a : Int)) ∧ W.cell? ⟨x2, a, none⟩ = some (.int .i64 st) ∧ W.cell? ⟨w.heap.size, 1, none⟩ = some (.slice (some ⟨bd, fd, none⟩) ds.length n2) ∧ W.cell? ⟨bd, fd + pre.length, none⟩ = some (.int .i64 d) ∧ W.cell? ⟨S2, 1, none⟩ = some (.slice (some ⟨gd, 0, none⟩) M M) ∧ W.cell? ⟨gd, k, none⟩ = some (.int .i64 m)) (X := X1.drew) (by kernel_rfl) (by kernel_rfl) ?sB (fun hHeld => ?rB) ?qB
          case sB => exact KS9.out
          case rB =>
            simp only [List.size_toArray, List.length_cons, List.length_nil, Nat.reduceAdd, Array.replicate_succ, Array.replicate_zero, List.push_toArray, List.nil_append, List.cons_append]
            (refine wpAnyH_take (i := 0) (oi := ⟨some 39, _, _, _, _, _⟩) (v := ?v0_aB1) rfl (by kernel_rfl) (by kernel_rfl) (by kernel_rfl) (fun _ _ _ h => by cases h.1) (Or.inl ⟨by rfl, ?hy0_aB1⟩) (by assumption) ?rest0_aB1; (case hy0_aB1 => ((intro w hSw); (try dsimp only at hSw); go_simp; first | done | (with_reducible rfl))))
            (try simp only [Act.put, List.setIfInBounds_toArray, List.set_cons_zero, List.set_cons_succ])
            (refine wpAnyH_take (i := 1) (oi := ⟨some 40, _, _, _, _, _⟩) (v := ?v1_aB2) rfl (by kernel_rfl) (by kernel_rfl) (by kernel_rfl) (fun _ _ _ h => by cases h.1) (Or.inl ⟨by rfl, ?hy1_aB2⟩) (by assumption) ?rest1_aB2; (case hy1_aB2 => ((intro w hSw); (try dsimp only at hSw); go_simp; first | done | (with_reducible rfl))))
            (try simp only [Act.put, List.setIfInBounds_toArray, List.set_cons_zero, List.set_cons_succ])
            (refine wpAnyH_take (i := 2) (oi := ⟨some 41, _, _, _, _, _⟩) (v := ?v2_aB3) rfl (by kernel_rfl) (by kernel_rfl) (by kernel_rfl) (fun _ _ _ h => by cases h.1) (Or.inl ⟨by rfl, ?hy2_aB3⟩) (by assumption) ?rest2_aB3; (case hy2_aB3 => ((intro w hSw); (try dsimp only at hSw); go_simp; first | done | (with_reducible rfl))))
            (try simp only [Act.put, List.setIfInBounds_toArray, List.set_cons_zero, List.set_cons_succ])
            (refine wpAnyH_take (i := 3) (oi := ⟨some 42, _, _, _, _, _⟩) (v := ?v3_aB4) rfl (by kernel_rfl) (by kernel_rfl) (by kernel_rfl) (fun _ _ _ h => by cases h.1) (Or.inl ⟨by rfl, ?hy3_aB4⟩) (by assumption) ?rest3_aB4; (case hy3_aB4 => ((intro w hSw); (try dsimp only at hSw); go_simp; first | done | (with_reducible rfl))))
            (try simp only [Act.put, List.setIfInBounds_toArray, List.set_cons_zero, List.set_cons_succ])
            (refine wpAnyH_take (i := 4) (oi := ⟨some 43, _, _, _, _, _⟩) (v := .bool false) rfl (by kernel_rfl) (by kernel_rfl) (by kernel_rfl) (fun _ _ _ h => by cases h.1) (Or.inl ⟨by rfl, ?hy4_aB5⟩) (by assumption) ?rest4_aB5; (case hy4_aB5 => ((intro w hSw); (try dsimp only at hSw); go_simp; first | done | (with_reducible rfl))))
            (try simp only [Act.put, List.setIfInBounds_toArray, List.set_cons_zero, List.set_cons_succ])
            (refine wpAnyH_take (i := 5) (oi := ⟨some 44, _, _, _, _, _⟩) (v := .bool false) rfl (by kernel_rfl) (by kernel_rfl) (by kernel_rfl) (fun _ _ _ h => by cases h.1) (Or.inl ⟨by rfl, ?hy5_aB6⟩) (by assumption) ?rest5_aB6; (case hy5_aB6 => ((intro w hSw); (try dsimp only at hSw); go_simp; first | done | (with_reducible rfl))))
            (try simp only [Act.put, List.setIfInBounds_toArray, List.set_cons_zero, List.set_cons_succ])
            (refine wpAnyH_take (i := 6) (oi := ⟨some 45, _, _, _, _, _⟩) (v := ?v6_aB7) rfl (by kernel_rfl) (by kernel_rfl) (by kernel_rfl) (fun _ _ _ h => by cases h.1) (Or.inl ⟨by rfl, ?hy6_aB7⟩) (by assumption) ?rest6_aB7; (case hy6_aB7 => ((intro w hSw); (try dsimp only at hSw); go_simp; first | done | (with_reducible rfl))))
            (try simp only [Act.put, List.setIfInBounds_toArray, List.set_cons_zero, List.set_cons_succ])
            (refine wpAnyH_take (i := 7) (oi := ⟨some 46, _, _, _, _, _⟩) (v := ?v7_aB8) rfl (by kernel_rfl) (by kernel_rfl) (by kernel_rfl) (fun _ _ _ h => by cases h.1) (Or.inl ⟨by rfl, ?hy7_aB8⟩) (by assumption) ?rest7_aB8; (case hy7_aB8 => ((intro w hSw); (try dsimp only at hSw); go_simp; first | done | (with_reducible rfl))))
            (try simp only [Act.put, List.setIfInBounds_toArray, List.set_cons_zero, List.set_cons_succ])
            (refine wpAnyH_take (i := 8) (oi := ⟨some 47, _, _, _, _, _⟩) (v := ?v8_aB9) rfl (by kernel_rfl) (by kernel_rfl) (by kernel_rfl) (fun _ _ _ h => by cases h.1) (Or.inl ⟨by rfl, ?hy8_aB9⟩) (by assumption) ?rest8_aB9; (case hy8_aB9 => ((intro w hSw); (try dsimp only at hSw); go_simp; first | done | (with_reducible rfl))))
            (try simp only [Act.put, List.setIfInBounds_toArray, List.set_cons_zero, List.set_cons_succ])
            (refine wpAnyH_take (i := 9) (oi := ⟨some 48, _, _, _, _, _⟩) (v := ?v9_aB10) rfl (by kernel_rfl) (by kernel_rfl) (by kernel_rfl) (fun _ _ _ h => by cases h.1) (Or.inl ⟨by rfl, ?hy9_aB10⟩) (by assumption) ?rest9_aB10; (case hy9_aB10 => ((intro w hSw); (try dsimp only at hSw); go_simp; first | done | (with_reducible rfl))))
            (try simp only [Act.put, List.setIfInBounds_toArray, List.set_cons_zero, List.set_cons_succ])
            (refine wpAnyH_take (i := 10) (oi := ⟨some 49, _, _, _, _, _⟩) (v := ?v10_aB11) rfl (by kernel_rfl) (by kernel_rfl) (by kernel_rfl) (fun _ _ _ h => by cases h.1) (Or.inl ⟨by rfl, ?hy10_aB11⟩) (by assumption) ?rest10_aB11; (case hy10_aB11 => ((intro w hSw); (try dsimp only at hSw); go_simp; first | done | (with_reducible rfl))))
            (try simp only [Act.put, List.setIfInBounds_toArray, List.set_cons_zero, List.set_cons_succ])
            (refine wpAnyH_take (i := 11) (oi := ⟨some 50, _, _, _, _, _⟩) (v := ?v11_aB12) rfl (by kernel_rfl) (by kernel_rfl) (by kernel_rfl) (fun _ _ _ h => by cases h.1) (Or.inl ⟨by rfl, ?hy11_aB12⟩) (by assumption) ?rest11_aB12; (case hy11_aB12 => ((intro w hSw); (try dsimp only at hSw); go_simp; first | done | (with_reducible rfl))))
            (try simp only [Act.put, List.setIfInBounds_toArray, List.set_cons_zero, List.set_cons_succ])
            (refine wpAnyH_take (i := 12) (oi := ⟨some 51, _, _, _, _, _⟩) (v := ?v12_aB13) rfl (by kernel_rfl) (by kernel_rfl) (by kernel_rfl) (fun _ _ _ h => by cases h.1) (Or.inl ⟨by rfl, ?hy12_aB13⟩) (by assumption) ?rest12_aB13; (case hy12_aB13 => ((intro w hSw); (try dsimp only at hSw); go_simp; first | done | (with_reducible rfl))))
            (try simp only [Act.put, List.setIfInBounds_toArray, List.set_cons_zero, List.set_cons_succ])
            (refine wpAnyH_take (i := 13) (oi := ⟨some 52, _, _, _, _, _⟩) (v := ?v13_aB14) rfl (by kernel_rfl) (by kernel_rfl) (by kernel_rfl) (fun _ _ _ h => by cases h.1) (Or.inl ⟨by rfl, ?hy13_aB14⟩) (by assumption) ?rest13_aB14; (case hy13_aB14 => ((intro w hSw); (try dsimp only at hSw); go_simp; first | done | (with_reducible rfl))))
            (try simp only [Act.put, List.setIfInBounds_toArray, List.set_cons_zero, List.set_cons_succ])
            (refine wpAnyH_take (i := 14) (oi := ⟨some 53, _, _, _, _, _⟩) (v := ?v14_aB15) rfl (by kernel_rfl) (by kernel_rfl) (by kernel_rfl) (fun _ _ _ h => by cases h.1) (Or.inl ⟨by rfl, ?hy14_aB15⟩) (by assumption) ?rest14_aB15; (case hy14_aB15 => ((intro w hSw); (try dsimp only at hSw); go_simp; first | done | (with_reducible rfl))))
            (try simp only [Act.put, List.setIfInBounds_toArray, List.set_cons_zero, List.set_cons_succ])
            (refine wpAnyH_take (i := 15) (oi := ⟨some 54, _, _, _, _, _⟩) (v := ?v15_aB16) rfl (by kernel_rfl) (by kernel_rfl) (by kernel_rfl) (fun _ _ _ h => by cases h.1) (Or.inl ⟨by rfl, ?hy15_aB16⟩) (by assumption) ?rest15_aB16; (case hy15_aB16 => ((intro w hSw); (try dsimp only at hSw); go_simp; first | done | (with_reducible rfl))))
            (try simp only [Act.put, List.setIfInBounds_toArray, List.set_cons_zero, List.set_cons_succ])
            (refine wpAnyH_take (i := 16) (oi := ⟨some 55, _, _, _, _, _⟩) (v := .bool true) rfl (by kernel_rfl) (by kernel_rfl) (by kernel_rfl) (fun _ _ _ h => by cases h.1) (Or.inl ⟨by rfl, ?hy16_aB17⟩) (by assumption) ?rest16_aB17; (case hy16_aB17 => ((intro w hSw); (try dsimp only at hSw); go_simp; first | done | (with_reducible rfl))))
            (try simp only [Act.put, List.setIfInBounds_toArray, List.set_cons_zero, List.set_cons_succ])
            (refine wpAnyH_take (i := 17) (oi := ⟨some 56, _, _, _, _, _⟩) (v := .bool true) rfl (by kernel_rfl) (by kernel_rfl) (by kernel_rfl) (fun _ _ _ h => by cases h.1) (Or.inl ⟨by rfl, ?hy17_aB18⟩) (by assumption) ?rest17_aB18; (case hy17_aB18 => ((intro w hSw); (try dsimp only at hSw); go_simp; first | done | (with_reducible rfl))))
            (try simp only [Act.put, List.setIfInBounds_toArray, List.set_cons_zero, List.set_cons_succ])
            refine wpAnyH_done (by kernel_rfl) ?_ _
            exact ⟨rfl, rfl, rfl⟩
          gi_wp2
          refine wpIn_mono (region_inA (S := fun W => W.cell? ⟨w.heap.size + 1, 0, none⟩ = some (.int .i64 (a : Int)) ∧ W.cell? ⟨w.heap.size, 1, none⟩ = some (.slice (some ⟨bd, fd, none⟩) ds.length n2) ∧ W.cell? ⟨bd, fd + pre.length, none⟩ = some (.int .i64 d) ∧ W.cell? ⟨S2, 1, none⟩ = some (.slice (some ⟨gd, 0, none⟩) M M) ∧ W.cell? ⟨S3, 0, none⟩ = some (.slice (some ⟨gp, 0, none⟩) M M)) (R := fun _ W2 => W2 = (X1.drew.drew.setCell ⟨gd, k, none⟩ (.int .i64 d)).setCell ⟨gp, k, none⟩ (.int .i64 st)) (by kernel_rfl) (by kernel_rfl) ?sB1 (fun hHeld => ?rB1)) ?qB1
          case sB1 => exact KS10.out
          case rB1 =>
            simp only [List.size_toArray, List.length_cons, List.length_nil, Nat.reduceAdd, Array.replicate_succ, Array.replicate_zero, List.push_toArray, List.nil_append, List.cons_append]
            generalize X1.drew.drew = wq at *
            (refine wpAnyH_take (i := 0) (oi := ⟨some 57, _, _, _, _, _⟩) (v := ?v0_bB11) rfl (by kernel_rfl) (by kernel_rfl) (by kernel_rfl) (fun _ _ _ h => by cases h.1) (Or.inl ⟨by rfl, ?hy0_bB11⟩) (by assumption) ?rest0_bB11; (case hy0_bB11 => ((intro w hSw); (try dsimp only at hSw); go_simp; first | done | (with_reducible rfl))))
            (try simp only [Act.put, List.setIfInBounds_toArray, List.set_cons_zero, List.set_cons_succ])
            (refine wpAnyH_take (i := 1) (oi := ⟨some 58, _, _, _, _, _⟩) (v := ?v1_bB12) rfl (by kernel_rfl) (by kernel_rfl) (by kernel_rfl) (fun _ _ _ h => by cases h.1) (Or.inl ⟨by rfl, ?hy1_bB12⟩) (by assumption) ?rest1_bB12; (case hy1_bB12 => ((intro w hSw); (try dsimp only at hSw); go_simp; first | done | (with_reducible rfl))))
            (try simp only [Act.put, List.setIfInBounds_toArray, List.set_cons_zero, List.set_cons_succ])
            (refine wpAnyH_take (i := 2) (oi := ⟨some 59, _, _, _, _, _⟩) (v := ?v2_bB13) rfl (by kernel_rfl) (by kernel_rfl) (by kernel_rfl) (fun _ _ _ h => by cases h.1) (Or.inl ⟨by rfl, ?hy2_bB13⟩) (by assumption) ?rest2_bB13; (case hy2_bB13 => ((intro w hSw); (try dsimp only at hSw); go_simp; first | done | (with_reducible rfl))))
            (try simp only [Act.put, List.setIfInBounds_toArray, List.set_cons_zero, List.set_cons_succ])
            (refine wpAnyH_take (i := 3) (oi := ⟨some 60, _, _, _, _, _⟩) (v := ?v3_bB14) rfl (by kernel_rfl) (by kernel_rfl) (by kernel_rfl) (fun _ _ _ h => by cases h.1) (Or.inl ⟨by rfl, ?hy3_bB14⟩) (by assumption) ?rest3_bB14; (case hy3_bB14 => ((intro w hSw); (try dsimp only at hSw); go_simp; first | done | (with_reducible rfl))))
            (try simp only [Act.put, List.setIfInBounds_toArray, List.set_cons_zero, List.set_cons_succ])
            (refine wpAnyH_take (i := 4) (oi := ⟨some 61, _, _, _, _, _⟩) (v := ?v4_bB15) rfl (by kernel_rfl) (by kernel_rfl) (by kernel_rfl) (fun _ _ _ h => by cases h.1) (Or.inl ⟨by rfl, ?hy4_bB15⟩) (by assumption) ?rest4_bB15; (case hy4_bB15 => ((intro w hSw); (try dsimp only at hSw); go_simp; first | done | (with_reducible rfl))))
            (try simp only [Act.put, List.setIfInBounds_toArray, List.set_cons_zero, List.set_cons_succ])
            (refine wpAnyH_take (i := 5) (oi := ⟨some 62, _, _, _, _, _⟩) (v := ?v5_bB16) rfl (by kernel_rfl) (by kernel_rfl) (by kernel_rfl) (fun _ _ _ h => by cases h.1) (Or.inl ⟨by rfl, ?hy5_bB16⟩) (by assumption) ?rest5_bB16; (case hy5_bB16 => ((intro w hSw); (try dsimp only at hSw); go_simp; first | done | (with_reducible rfl))))
            (try simp only [Act.put, List.setIfInBounds_toArray, List.set_cons_zero, List.set_cons_succ])
            (refine wpAnyH_take (i := 6) (oi := ⟨some 63, _, _, _, _, _⟩) (v := ?v6_bB17) rfl (by kernel_rfl) (by kernel_rfl) (by kernel_rfl) (fun _ _ _ h => by cases h.1) (Or.inl ⟨by rfl, ?hy6_bB17⟩) (by assumption) ?rest6_bB17; (case hy6_bB17 => ((intro w hSw); (try dsimp only at hSw); go_simp; first | done | (with_reducible rfl))))
            (try simp only [Act.put, List.setIfInBounds_toArray, List.set_cons_zero, List.set_cons_succ])
            (refine wpAnyH_take (i := 7) (oi := ⟨some 64, _, _, _, _, _⟩) (v := ?v7_bB18) rfl (by kernel_rfl) (by kernel_rfl) (by kernel_rfl) (fun _ _ _ h => by cases h.1) (Or.inl ⟨by rfl, ?hy7_bB18⟩) (by assumption) ?rest7_bB18; (case hy7_bB18 => ((intro w hSw); (try dsimp only at hSw); go_simp; first | done | (with_reducible rfl))))
            (try simp only [Act.put, List.setIfInBounds_toArray, List.set_cons_zero, List.set_cons_succ])
            (refine wpAnyH_take (i := 8) (oi := ⟨some 65, _, _, _, _, _⟩) (v := ?v8_bB19) rfl (by kernel_rfl) (by kernel_rfl) (by kernel_rfl) (fun _ _ _ h => by cases h.1) (Or.inl ⟨by rfl, ?hy8_bB19⟩) (by assumption) ?rest8_bB19; (case hy8_bB19 => ((intro w hSw); (try dsimp only at hSw); go_simp; first | done | (with_reducible rfl))))
            (try simp only [Act.put, List.setIfInBounds_toArray, List.set_cons_zero, List.set_cons_succ])
            (refine wpAnyH_take (i := 9) (oi := ⟨some 66, _, _, _, _, _⟩) (v := ?v9_bB110) rfl (by kernel_rfl) (by kernel_rfl) (by kernel_rfl) (fun _ _ _ h => by cases h.1) (Or.inl ⟨by rfl, ?hy9_bB110⟩) (by assumption) ?rest9_bB110; (case hy9_bB110 => ((intro w hSw); (try dsimp only at hSw); go_simp; first | done | (with_reducible rfl))))
            (try simp only [Act.put, List.setIfInBounds_toArray, List.set_cons_zero, List.set_cons_succ])
            (refine wpAnyH_take (i := 10) (oi := ⟨some 67, _, _, _, _, _⟩) (v := ?v10_bB111) rfl (by kernel_rfl) (by kernel_rfl) (by kernel_rfl) (fun _ _ _ h => by cases h.1) (Or.inl ⟨by rfl, ?hy10_bB111⟩) (by assumption) ?rest10_bB111; (case hy10_bB111 => ((intro w hSw); (try dsimp only at hSw); go_simp; first | done | (with_reducible rfl))))
            (try simp only [Act.put, List.setIfInBounds_toArray, List.set_cons_zero, List.set_cons_succ])
            (refine wpAnyH_take (i := 11) (oi := ⟨some 68, _, _, _, _, _⟩) (v := ?v11_bB112) rfl (by kernel_rfl) (by kernel_rfl) (by kernel_rfl) (fun _ _ _ h => by cases h.1) (Or.inl ⟨by rfl, ?hy11_bB112⟩) (by assumption) ?rest11_bB112; (case hy11_bB112 => ((intro w hSw); (try dsimp only at hSw); go_simp; first | done | (with_reducible rfl))))
            (try simp only [Act.put, List.setIfInBounds_toArray, List.set_cons_zero, List.set_cons_succ])
            (refine wpAnyH_take (i := 12) (oi := ⟨some 69, _, _, _, _, _⟩) (v := ?v12_bB113) rfl (by kernel_rfl) (by kernel_rfl) (by kernel_rfl) (fun _ _ _ h => by cases h.1) (Or.inl ⟨by rfl, ?hy12_bB113⟩) (by assumption) ?rest12_bB113; (case hy12_bB113 => ((intro w hSw); (try dsimp only at hSw); go_simp; first | done | (with_reducible rfl))))
            (try simp only [Act.put, List.setIfInBounds_toArray, List.set_cons_zero, List.set_cons_succ])
            refine wpAnyH_ready (rs := [13]) (by kernel_rfl) (by simp) ?_
            refine AllReadyH.cons (o := ⟨some 70, _, _, _, _, _⟩) rfl (fun K hK => ?_) (AllReadyH.nil)
            have hli := CL.out
            go_simp
            refine hK.out _ _ ?_ (fun hHeld => ?_)
            · (try dsimp only)
              exact KS10.out
            clear hK K
            (try simp only [List.setIfInBounds_toArray, List.set_cons_zero, List.set_cons_succ])
            (refine wpAnyH_take (i := 14) (oi := ⟨some 71, _, _, _, _, _⟩) (v := ?v14_bB114) rfl (by kernel_rfl) (by kernel_rfl) (by kernel_rfl) (fun _ _ _ h => by cases h.1) (Or.inl ⟨by rfl, ?hy14_bB114⟩) (by assumption) ?rest14_bB114; (case hy14_bB114 => ((intro w hSw); (try dsimp only at hSw); go_simp; first | done | (with_reducible rfl))))
            (try simp only [Act.put, List.setIfInBounds_toArray, List.set_cons_zero, List.set_cons_succ])
            refine wpAnyH_ready (rs := [15]) (by kernel_rfl) (by simp) ?_
            refine AllReadyH.cons (o := ⟨none, _, _, _, _, _⟩) rfl (fun K hK => ?_) (AllReadyH.nil)
            obtain ⟨m0, mf0⟩ := CM.out
            go_simp
            refine hK.out _ _ ?_ (fun hHeld => ?_)
            · (try dsimp only)
              exact KS11.out _
            clear hK K
            (try simp only [List.setIfInBounds_toArray, List.set_cons_zero, List.set_cons_succ])
            (refine wpAnyH_take (i := 16) (oi := ⟨some 72, _, _, _, _, _⟩) (v := ?v16_bB115) rfl (by kernel_rfl) (by kernel_rfl) (by kernel_rfl) (fun _ _ _ h => by cases h.1) (Or.inl ⟨by rfl, ?hy16_bB115⟩) (by assumption) ?rest16_bB115; (case hy16_bB115 => ((intro w hSw); (try dsimp only at hSw); go_simp; first | done | (with_reducible rfl))))
            (try simp only [Act.put, List.setIfInBounds_toArray, List.set_cons_zero, List.set_cons_succ])
            refine wpAnyH_ready (rs := [17]) (by kernel_rfl) (by simp) ?_
            refine AllReadyH.cons (o := ⟨none, _, _, _, _, _⟩) rfl (fun K hK => ?_) (AllReadyH.nil)
            obtain ⟨m0, mf0⟩ := CP.out (.int .i64 d)
            go_simp
            refine hK.out _ _ ?_ (fun hHeld => ?_)
            · (try dsimp only)
              exact KS12.out _ _
            clear hK K
            (try simp only [List.setIfInBounds_toArray, List.set_cons_zero, List.set_cons_succ])
            refine wpAnyH_done (by kernel_rfl) ?_ _
            exact ⟨rfl, rfl⟩
          rintro e a4 W4 ⟨rfl, rfl⟩
          gi_wp2
          exact HPUT.out _
        · have HEND := Lib.hid (HKEEP.out (by omega))
          have b0 : (st == 0) = false := beq_eq_false_iff_ne.2 c0
          have KS9 := KS9a
          clear HPD HKEEP KS9a CL0 c0
          as_aux_lemma =>
          refine' region_inF (S := fun W => W.cell? ⟨w.heap.size + 1, 0, none⟩ = some (.int .i64 (a : Int)) ∧ W.cell? ⟨x2, a, none⟩ = some (.int .i64 st) ∧ W.cell? ⟨w.heap.size, 1, none⟩ = some (.slice (some ⟨bd, fd, none⟩) ds.length n2) ∧ W.cell? ⟨bd, fd + pre.length, none⟩ = some (.int .i64 d) ∧ W.cell? ⟨S2, 1, none⟩ = some (.slice (some ⟨gd, 0, none⟩) M M) ∧ W.cell? ⟨gd, k, none⟩ = some (.int .i64 m)) (X := X1.drew) (by kernel_rfl) (by kernel_rfl) ?sC (fun hHeld => ?rC) ?qC
          case sC => exact KS9.out
          case rC =>
            simp only [List.size_toArray, List.length_cons, List.length_nil, Nat.reduceAdd, Array.replicate_succ, Array.replicate_zero, List.push_toArray, List.nil_append, List.cons_append]
            (refine wpAnyH_take (i := 0) (oi := ⟨some 39, _, _, _, _, _⟩) (v := ?v0_aC1) rfl (by kernel_rfl) (by kernel_rfl) (by kernel_rfl) (fun _ _ _ h => by cases h.1) (Or.inl ⟨by rfl, ?hy0_aC1⟩) (by assumption) ?rest0_aC1; (case hy0_aC1 => ((intro w hSw); (try dsimp only at hSw); go_simp; first | done | (with_reducible rfl))))
            (try simp only [Act.put, List.setIfInBounds_toArray, List.set_cons_zero, List.set_cons_succ])
            (refine wpAnyH_take (i := 1) (oi := ⟨some 40, _, _, _, _, _⟩) (v := ?v1_aC2) rfl (by kernel_rfl) (by kernel_rfl) (by kernel_rfl) (fun _ _ _ h => by cases h.1) (Or.inl ⟨by rfl, ?hy1_aC2⟩) (by assumption) ?rest1_aC2; (case hy1_aC2 => ((intro w hSw); (try dsimp only at hSw); go_simp; first | done | (with_reducible rfl))))
            (try simp only [Act.put, List.setIfInBounds_toArray, List.set_cons_zero, List.set_cons_succ])
            (refine wpAnyH_take (i := 2) (oi := ⟨some 41, _, _, _, _, _⟩) (v := ?v2_aC3) rfl (by kernel_rfl) (by kernel_rfl) (by kernel_rfl) (fun _ _ _ h => by cases h.1) (Or.inl ⟨by rfl, ?hy2_aC3⟩) (by assumption) ?rest2_aC3; (case hy2_aC3 => ((intro w hSw); (try dsimp only at hSw); go_simp; first | done | (with_reducible rfl))))
            (try simp only [Act.put, List.setIfInBounds_toArray, List.set_cons_zero, List.set_cons_succ])
            (refine wpAnyH_take (i := 3) (oi := ⟨some 42, _, _, _, _, _⟩) (v := ?v3_aC4) rfl (by kernel_rfl) (by kernel_rfl) (by kernel_rfl) (fun _ _ _ h => by cases h.1) (Or.inl ⟨by rfl, ?hy3_aC4⟩) (by assumption) ?rest3_aC4; (case hy3_aC4 => ((intro w hSw); (try dsimp only at hSw); go_simp; first | done | (with_reducible rfl))))
            (try simp only [Act.put, List.setIfInBounds_toArray, List.set_cons_zero, List.set_cons_succ])
            (refine wpAnyH_take (i := 4) (oi := ⟨some 43, _, _, _, _, _⟩) (v := .bool false) rfl (by kernel_rfl) (by kernel_rfl) (by kernel_rfl) (fun _ _ _ h => by cases h.1) (Or.inl ⟨by rfl, ?hy4_aC5⟩) (by assumption) ?rest4_aC5; (case hy4_aC5 => ((intro w hSw); (try dsimp only at hSw); go_simp; first | done | (with_reducible rfl))))
            (try simp only [Act.put, List.setIfInBounds_toArray, List.set_cons_zero, List.set_cons_succ])
            (refine wpAnyH_take (i := 5) (oi := ⟨some 44, _, _, _, _, _⟩) (v := .bool false) rfl (by kernel_rfl) (by kernel_rfl) (by kernel_rfl) (fun _ _ _ h => by cases h.1) (Or.inl ⟨by rfl, ?hy5_aC6⟩) (by assumption) ?rest5_aC6; (case hy5_aC6 => ((intro w hSw); (try dsimp only at hSw); go_simp; first | done | (with_reducible rfl))))
            (try simp only [Act.put, List.setIfInBounds_toArray, List.set_cons_zero, List.set_cons_succ])
            (refine wpAnyH_take (i := 6) (oi := ⟨some 45, _, _, _, _, _⟩) (v := ?v6_aC7) rfl (by kernel_rfl) (by kernel_rfl) (by kernel_rfl) (fun _ _ _ h => by cases h.1) (Or.inl ⟨by rfl, ?hy6_aC7⟩) (by assumption) ?rest6_aC7; (case hy6_aC7 => ((intro w hSw); (try dsimp only at hSw); go_simp; first | done | (with_reducible rfl))))
            (try simp only [Act.put, List.setIfInBounds_toArray, List.set_cons_zero, List.set_cons_succ])
            (refine wpAnyH_take (i := 7) (oi := ⟨some 46, _, _, _, _, _⟩) (v := ?v7_aC8) rfl (by kernel_rfl) (by kernel_rfl) (by kernel_rfl) (fun _ _ _ h => by cases h.1) (Or.inl ⟨by rfl, ?hy7_aC8⟩) (by assumption) ?rest7_aC8; (case hy7_aC8 => ((intro w hSw); (try dsimp only at hSw); go_simp; first | done | (with_reducible rfl))))
            (try simp only [Act.put, List.setIfInBounds_toArray, List.set_cons_zero, List.set_cons_succ])
            (refine wpAnyH_take (i := 8) (oi := ⟨some 47, _, _, _, _, _⟩) (v := ?v8_aC9) rfl (by kernel_rfl) (by kernel_rfl) (by kernel_rfl) (fun _ _ _ h => by cases h.1) (Or.inl ⟨by rfl, ?hy8_aC9⟩) (by assumption) ?rest8_aC9; (case hy8_aC9 => ((intro w hSw); (try dsimp only at hSw); go_simp; first | done | (with_reducible rfl))))
            (try simp only [Act.put, List.setIfInBounds_toArray, List.set_cons_zero, List.set_cons_succ])
            (refine wpAnyH_take (i := 9) (oi := ⟨some 48, _, _, _, _, _⟩) (v := ?v9_aC10) rfl (by kernel_rfl) (by kernel_rfl) (by kernel_rfl) (fun _ _ _ h => by cases h.1) (Or.inl ⟨by rfl, ?hy9_aC10⟩) (by assumption) ?rest9_aC10; (case hy9_aC10 => ((intro w hSw); (try dsimp only at hSw); go_simp; first | done | (with_reducible rfl))))
            (try simp only [Act.put, List.setIfInBounds_toArray, List.set_cons_zero, List.set_cons_succ])
            (refine wpAnyH_take (i := 10) (oi := ⟨some 49, _, _, _, _, _⟩) (v := ?v10_aC11) rfl (by kernel_rfl) (by kernel_rfl) (by kernel_rfl) (fun _ _ _ h => by cases h.1) (Or.inl ⟨by rfl, ?hy10_aC11⟩) (by assumption) ?rest10_aC11; (case hy10_aC11 => ((intro w hSw); (try dsimp only at hSw); go_simp; first | done | (with_reducible rfl))))
            (try simp only [Act.put, List.setIfInBounds_toArray, List.set_cons_zero, List.set_cons_succ])
            (refine wpAnyH_take (i := 11) (oi := ⟨some 50, _, _, _, _, _⟩) (v := ?v11_aC12) rfl (by kernel_rfl) (by kernel_rfl) (by kernel_rfl) (fun _ _ _ h => by cases h.1) (Or.inl ⟨by rfl, ?hy11_aC12⟩) (by assumption) ?rest11_aC12; (case hy11_aC12 => ((intro w hSw); (try dsimp only at hSw); go_simp; first | done | (with_reducible rfl))))
            (try simp only [Act.put, List.setIfInBounds_toArray, List.set_cons_zero, List.set_cons_succ])
            (refine wpAnyH_take (i := 12) (oi := ⟨some 51, _, _, _, _, _⟩) (v := ?v12_aC13) rfl (by kernel_rfl) (by kernel_rfl) (by kernel_rfl) (fun _ _ _ h => by cases h.1) (Or.inl ⟨by rfl, ?hy12_aC13⟩) (by assumption) ?rest12_aC13; (case hy12_aC13 => ((intro w hSw); (try dsimp only at hSw); go_simp; first | done | (with_reducible rfl))))
            (try simp only [Act.put, List.setIfInBounds_toArray, List.set_cons_zero, List.set_cons_succ])
            (refine wpAnyH_take (i := 13) (oi := ⟨some 52, _, _, _, _, _⟩) (v := ?v13_aC14) rfl (by kernel_rfl) (by kernel_rfl) (by kernel_rfl) (fun _ _ _ h => by cases h.1) (Or.inl ⟨by rfl, ?hy13_aC14⟩) (by assumption) ?rest13_aC14; (case hy13_aC14 => ((intro w hSw); (try dsimp only at hSw); go_simp; first | done | (with_reducible rfl))))
            (try simp only [Act.put, List.setIfInBounds_toArray, List.set_cons_zero, List.set_cons_succ])
            (refine wpAnyH_take (i := 14) (oi := ⟨some 53, _, _, _, _, _⟩) (v := ?v14_aC15) rfl (by kernel_rfl) (by kernel_rfl) (by kernel_rfl) (fun _ _ _ h => by cases h.1) (Or.inl ⟨by rfl, ?hy14_aC15⟩) (by assumption) ?rest14_aC15; (case hy14_aC15 => ((intro w hSw); (try dsimp only at hSw); go_simp; first | done | (with_reducible rfl))))
            (try simp only [Act.put, List.setIfInBounds_toArray, List.set_cons_zero, List.set_cons_succ])
            (refine wpAnyH_take (i := 15) (oi := ⟨some 54, _, _, _, _, _⟩) (v := ?v15_aC16) rfl (by kernel_rfl) (by kernel_rfl) (by kernel_rfl) (fun _ _ _ h => by cases h.1) (Or.inl ⟨by rfl, ?hy15_aC16⟩) (by assumption) ?rest15_aC16; (case hy15_aC16 => ((intro w hSw); (try dsimp only at hSw); go_simp; first | done | (with_reducible rfl))))
            (try simp only [Act.put, List.setIfInBounds_toArray, List.set_cons_zero, List.set_cons_succ])
            (refine wpAnyH_take (i := 16) (oi := ⟨some 55, _, _, _, _, _⟩) (v := .bool false) rfl (by kernel_rfl) (by kernel_rfl) (by kernel_rfl) (fun _ _ _ h => by cases h.1) (Or.inl ⟨by rfl, ?hy16_aC17⟩) (by assumption) ?rest16_aC17; (case hy16_aC17 => ((intro w hSw); (try dsimp only at hSw); go_simp; first | done | (with_reducible rfl))))
            (try simp only [Act.put, List.setIfInBounds_toArray, List.set_cons_zero, List.set_cons_succ])
            (refine wpAnyH_take (i := 17) (oi := ⟨some 56, _, _, _, _, _⟩) (v := .bool false) rfl (by kernel_rfl) (by kernel_rfl) (by kernel_rfl) (fun _ _ _ h => by cases h.1) (Or.inl ⟨by rfl, ?hy17_aC18⟩) (by assumption) ?rest17_aC18; (case hy17_aC18 => ((intro w hSw); (try dsimp only at hSw); go_simp; first | done | (with_reducible rfl))))
            (try simp only [Act.put, List.setIfInBounds_toArray, List.set_cons_zero, List.set_cons_succ])
            refine wpAnyH_done (by kernel_rfl) ?_ _
            exact ⟨rfl, rfl, rfl⟩
          gi_wp2
          exact HEND.out _
      -- END round
    case done =>
      rintro D ys X hD hys ⟨hDx, hPx, hK7⟩ hK
      have hys' : ys.length = ds.length := hys
      rw [hys'] at hDx hPx
      -- BEGIN done
      have J2 := Lib.hid (mxk_blk hK7 I2.out I2.out.lt (by omega) (by omega))
      have J3 := Lib.hid (mxk_blk hK7 I3.out I3.out.lt (by omega) (by omega))
      have nd2 : ¬ gd = S2 := by omega
      have np2 : ¬ gp = S2 := by omega
      have nd3 : ¬ gd = S3 := by omega
      have np3 : ¬ gp = S3 := by omega
      have hS2w : w.heap.size ≤ S2 := by have := HZ.out; omega
      have hS3w : w.heap.size ≤ S3 := by have := HZ.out; omega
      have lo7 : w4.heap.size ≤ w7.heap.size := by omega
      have OX := Lib.hid (own_keepx OG.out X2.out X3.out (by have := hK7.1.size; omega) (fun q hq h2 h3 => (hK7.2 q (by omega) (by omega) (by omega)).trans ((OG7.out.block q (by omega)).trans (EK.out.2 q hq h2 h3))))
      have HM : Hid (Mfin w X.drew S2 S3 gd gp m6 c6 D o6 (lf sh [(a : Int)] 0) (mxl sh ds a ds.length M) (mpl sh ds a ds.length M)) := Lib.hid ⟨hDx, hPx, ⟨OX.out, HM6.out⟩, ⟨below_drw (B7.out.trans (hK7.1.mono hS2w)) 1, hS2w, hS3w⟩, hK⟩
      have KSD : Hid (∀ W : World, Blk W S2 26 #[.slice o6 m6 c6, .slice (some ⟨gd, 0, none⟩) M M] → Blk W S3 23 #[.slice (some ⟨gp, 0, none⟩) M M] → W.cell? ⟨S2, 0, none⟩ = some (.slice o6 m6 c6) ∧ W.cell? ⟨S2, 1, none⟩ = some (.slice (some ⟨gd, 0, none⟩) M M) ∧ W.cell? ⟨S3, 0, none⟩ = some (.slice (some ⟨gp, 0, none⟩) M M)) := Lib.hid (fun W h2 h3 => ⟨h2.cell 0, h2.cell 1, h3.cell 0⟩)
      have hX7 := hK7.1.size
      have hDl : w.heap.size ≤ D := by have := HZ.out; omega
      clear hDx hPx hK7 hK hys hys' OX
      go_upto_region 11 with fail
      refine wp_region_noPanic ?_
      refine wp_region_held_drew (S := fun W => W.cell? ⟨S2, 0, none⟩ = some (.slice o6 m6 c6) ∧ W.cell? ⟨S2, 1, none⟩ = some (.slice (some ⟨gd, 0, none⟩) M M) ∧ W.cell? ⟨S3, 0, none⟩ = some (.slice (some ⟨gp, 0, none⟩) M M)) (by kernel_rfl) ?_ (fun hHeld => ?_)
      · exact KSD.out _ J2.out J3.out
      have hHd := hHeld
      have x2 : Hid (Blk X.drew S2 26 #[.slice o6 m6 c6, .slice (some ⟨gd, 0, none⟩) M M]) := Lib.hid J2.out
      have x3 : Hid (Blk X.drew S3 23 #[.slice (some ⟨gp, 0, none⟩) M M]) := Lib.hid J3.out
      clear J2 J3
      generalize X.drew = wd at *
      (refine wpAnyH_take (i := 0) (oi := ⟨some 73, _, _, _, _, _⟩) (v := ?v0_d1) rfl (by kernel_rfl) (by kernel_rfl) (by kernel_rfl) (fun _ _ _ h => h) (Or.inl ⟨by rfl, ?hy0_d1⟩) (by assumption) ?rest0_d1; (case hy0_d1 => ((intro w hSw); (try dsimp only at hSw); go_simp; first | done | (with_reducible rfl))))
      (try simp only [Act.put, List.setIfInBounds_toArray, List.set_cons_zero, List.set_cons_succ])
      (refine wpAnyH_take (i := 1) (oi := ⟨some 74, _, _, _, _, _⟩) (v := ?v1_d2) rfl (by kernel_rfl) (by kernel_rfl) (by kernel_rfl) (fun _ _ _ h => h) (Or.inl ⟨by rfl, ?hy1_d2⟩) (by assumption) ?rest1_d2; (case hy1_d2 => ((intro w hSw); (try dsimp only at hSw); go_simp; first | done | (with_reducible rfl))))
      (try simp only [Act.put, List.setIfInBounds_toArray, List.set_cons_zero, List.set_cons_succ])
      refine wpAnyH_ready (rs := [2]) (by kernel_rfl) (by simp) ?_
      refine AllReadyH.cons (o := ⟨none, _, _, _, _, _⟩) rfl (fun K hK => ?_) (AllReadyH.nil)
      obtain ⟨r0, r1, rf0, rf1⟩ := blk2 x2.out
      go_simp
      have y2 := Lib.hid ((x2.out.set_ 0 (.slice o6 m6 c6)).set_ 1 (.slice (some ⟨gd, 0, none⟩) M M))
      have y3 := Lib.hid ((x3.out.far (p := ⟨S2, 0, none⟩) (Ne.symm ne23) (.slice o6 m6 c6)).far (p := ⟨S2, 1, none⟩) (Ne.symm ne23) (.slice (some ⟨gd, 0, none⟩) M M))
      have yM := Lib.hid (mfin_at (i := 1) (mfin_at (i := 0) HM.out hS2w x2.out (by decide) nd2 np2 (.slice o6 m6 c6)) hS2w (x2.out.set_ 0 (.slice o6 m6 c6)) (by decide) nd2 np2 (.slice (some ⟨gd, 0, none⟩) M M))
      refine hK.out _ _ ?_ (fun hHeld => ?_)
      · (try dsimp only)
        exact KSD.out _ y2.out y3.out
      clear hK K
      generalize (wd.setCell ⟨S2, 0, none⟩ (.slice o6 m6 c6)).setCell ⟨S2, 1, none⟩ (.slice (some ⟨gd, 0, none⟩) M M) = wq1 at *
      (try simp only [Act.put, List.setIfInBounds_toArray, List.set_cons_zero, List.set_cons_succ])
      refine wpAnyH_ready (rs := [3]) (by kernel_rfl) (by simp) ?_
      refine AllReadyH.cons (o := ⟨none, _, _, _, _, _⟩) rfl (fun K hK => ?_) (AllReadyH.nil)
      obtain ⟨r0, rf0⟩ := And.intro (y3.out.cell 0) (y3.out.frozen 0)
      go_simp
      have u2 := Lib.hid (y2.out.far (p := ⟨S3, 0, none⟩) ne23 (.slice (some ⟨gp, 0, none⟩) M M))
      have u3 := Lib.hid (y3.out.set_ 0 (.slice (some ⟨gp, 0, none⟩) M M))
      have uM := Lib.hid (mfin_at (i := 0) yM.out hS3w y3.out (by decide) nd3 np3 (.slice (some ⟨gp, 0, none⟩) M M))
      refine hK.out _ _ ?_ (fun hHeld => ?_)
      · (try dsimp only)
        exact KSD.out _ u2.out u3.out
      clear hK K
      generalize wq1.setCell ⟨S3, 0, none⟩ (.slice (some ⟨gp, 0, none⟩) M M) = wq2 at *
      (try simp only [Act.put, List.setIfInBounds_toArray, List.set_cons_zero, List.set_cons_succ])
      (refine wpAnyH_take (i := 4) (oi := ⟨some 6, _, _, _, _, _⟩) (v := ?v4_d3) rfl (by kernel_rfl) (by kernel_rfl) (by kernel_rfl) (fun _ _ _ h => h) (Or.inl ⟨by rfl, ?hy4_d3⟩) (by assumption) ?rest4_d3; (case hy4_d3 => ((intro w hSw); (try dsimp only at hSw); go_simp; first | done | (with_reducible rfl))))
      (try simp only [Act.put, List.setIfInBounds_toArray, List.set_cons_zero, List.set_cons_succ])
      refine wpAnyH_done (by kernel_rfl) ?_ _
      refine NoPanic.normal ?_
      obtain ⟨r0, r1, _⟩ := blk2 (u2.out.kept (grownBy_putObj' wq2 D (.deferred none)) (by intro e; cases e; omega))
      have r2 := (u3.out.kept (grownBy_putObj' wq2 D (.deferred none)) (by intro e; cases e; omega)).cell 0
      have hDq := uM.out.2.2.2.2
      go_wp2
      refine ⟨by simp, .inl ⟨_, _, rfl, run_takeDeferred hDq, ?_⟩⟩
      refine ⟨.tuple #[.agg #[.slice o6 m6 c6, .slice (some ⟨gd, 0, none⟩) M M], .slice (some ⟨gp, 0, none⟩) M M, .int .i64 0], by simp [results, Tryz.results22, go_sem, r0, r1, r2], ?_⟩
      exact mfin_end uM.out (mxl_len _ _ _ _ _) (mpl_len _ _ _ _ _) hDl (by omega) (by omega)
      -- END done
    case stop =>
      rintro D cd pre X _ _ h _
      exact h.elim
end Go.Proofs.YtmafgdinegboeaaGreat
