/-
  shape.Strides where it refuses; shape.At.
  view.areAll, sameCount, plain, Of.
  A range over a function whose iterator tells something of each element besides: what the element's memory holds when it is handed over.
  shape.All: the copy, the function value.
  A range over a function whose iterator ranges over a function itself: it is told what a round leaves as it lay.
  shape.All over any list; its iterator, whose round may write whatever but the boxes and the copy.
  view.Transpose.
  view.places: where a view's indexes stand, one behind the other.
  A region that draws its order of evaluation, within a round of a loop over an iterator: as outside of one, where no statement defers.
  The reference's Transpose.
  view.Slice.
  The reference's Slice.
  shape.Spread.
-/
import Derived.RegionIn
import Derived.BigRegionIn
import Derived.RangeFuncNested
import Derived.WalkSpells
import Derived.Lib.SliceRun
import Derived.Deep.RegionHeld3
import Derived.Deep.AppendLies
import Derived.Deep.DrawnRows
import Derived.Deep.DeepCutAuto
import Derived.OrdersIn
import Derived.OwnWalkIn
import Derived.WalkMore
import Derived.Test.YtmafgdinegboeaaGreatM13
namespace Go.Proofs.YtmafgdinegboeaaGreat
open Go.RowKit Go.Shelf
attribute [local go_sem] Oper.semAt_some

def ixf (ls : List Int) (n : Int) (pre : List (Fin ls.length)) : List Int × Int := pre.foldl (fun p x => (p.1.set x.1 (p.2 % ls.getD x.1 0), p.2 / ls.getD x.1 0)) (List.replicate ls.length 0, n)
theorem ixf_snoc (ls : List Int) (n : Int) (pre : List (Fin ls.length)) (x : Fin ls.length) : ixf ls n (pre ++ [x]) = ((ixf ls n pre).1.set x.1 ((ixf ls n pre).2 % ls.getD x.1 0), (ixf ls n pre).2 / ls.getD x.1 0) := by simp [ixf]
theorem ixf_len (ls : List Int) (n : Int) (pre : List (Fin ls.length)) : (ixf ls n pre).1.length = ls.length := by
  have : ∀ (pre : List (Fin ls.length)) (p : List Int × Int), p.1.length = ls.length → (pre.foldl (fun p x => (p.1.set x.1 (p.2 % ls.getD x.1 0), p.2 / ls.getD x.1 0)) p).1.length = ls.length := by
    intro pre
    induction pre with
    | nil => intro p h; exact h
    | cons x pre ih => intro p h; exact ih _ (by simpa using h)
  exact this pre _ (by simp)
theorem quo_bd {p d : Int} (h : 0 ≤ p ∧ p ≤ 65536) (hd : 1 ≤ d) : 0 ≤ p / d ∧ p / d ≤ 65536 := by
  refine ⟨Int.ediv_nonneg h.1 (by omega), ?_⟩
  have := Int.ediv_le_self d h.1
  omega
theorem ixf_bd {ls : List Int} (hp : pos ls) {n : Int} (h0 : 0 ≤ n ∧ n ≤ 65536) (pre : List (Fin ls.length)) : 0 ≤ (ixf ls n pre).2 ∧ (ixf ls n pre).2 ≤ 65536 := by
  have : ∀ (pre : List (Fin ls.length)) (p : List Int × Int), 0 ≤ p.2 ∧ p.2 ≤ 65536 → 0 ≤ (pre.foldl (fun p x => (p.1.set x.1 (p.2 % ls.getD x.1 0), p.2 / ls.getD x.1 0)) p).2 ∧ (pre.foldl (fun p x => (p.1.set x.1 (p.2 % ls.getD x.1 0), p.2 / ls.getD x.1 0)) p).2 ≤ 65536 := by
    intro pre
    induction pre with
    | nil => intro p h; exact h
    | cons x pre ih => intro p h; exact ih _ (quo_bd h (hp _ (getD_mem x.2)))
  exact this pre _ h0
theorem ixf_end {ls : List Int} (hp : pos ls) {n : Int} (h0 : 0 ≤ n) (h1 : n < prod ls) : (ixf ls n (bk ls.length)).1 = atl ls n := by
  have : ∀ (j : Nat) (hj : j ≤ ls.length) (p : List Int × Int), p.1.length = ls.length → p.2 = n / prod (ls.drop j) → (∀ i, j ≤ i → i < ls.length → p.1.getD i 0 = n / prod (ls.drop (i + 1)) % ls.getD i 0) →
      ∀ i, i < ls.length → ((rs j hj).foldl (fun p x => (p.1.set x.1 (p.2 % ls.getD x.1 0), p.2 / ls.getD x.1 0)) p).1.getD i 0 = n / prod (ls.drop (i + 1)) % ls.getD i 0 := by
    intro j
    induction j with
    | zero => intro hj p h1 h2 h3 i hi; exact h3 i (Nat.zero_le _) hi
    | succ j ih =>
      intro hj p h1 h2 h3 i hi
      simp only [rs, List.foldl_cons]
      refine ih (by omega) _ (by simpa using h1) ?_ ?_ i hi
      · simp only [h2]
        rw [prod_drop (show j < ls.length by omega), Int.ediv_ediv_of_nonneg (by have := prod_pos (pos_drop hp (j + 1)); omega), Int.mul_comm]
      · intro k k1 k2
        simp only
        by_cases e : j = k
        · subst e; rw [set_getD_self (by omega), h2]
        · rw [set_getD_ne e]; exact h3 k (by omega) k2
  refine ext_getD (by rw [ixf_len, atl_len]) fun k hk => ?_
  rw [ixf_len] at hk
  rw [atl_getD ls n k hp h0 h1 hk]
  exact this ls.length (Nat.le_refl _) (List.replicate ls.length 0, n) (by simp) (by simp [prod]) (fun i h1 h2 => by omega) k hk

set_option maxRecDepth 100000 in
set_option maxHeartbeats 4000000 in
theorem index_any (v : Value) (ls : List Int) (n : Int) (w : World) (h : Ld w v ls) (hm : may ls = true) (h0 : 0 ≤ n) (h1 : n < prod ls) :
    Calls Tryz.prog 149 #[v, .int .i64 n] w fun e w' => e = .returned (.slice (some ⟨w.heap.size + 1, 0, none⟩) ls.length ls.length) ∧ Blk w' (w.heap.size + 1) 3 (ints (atl ls n)).toArray ∧ Below w.heap.size w w' := by
  obtain ⟨i0, hi0, hz0, hz1, hz2⟩ := info_parts infoI
  obtain ⟨o, c, rfl, _, hx⟩ := h
  have HX := Lib.hid hx
  have hl := may_len hm
  have hpos := may_pos hm
  have hpr := may_prod hm
  have HE := Lib.hid (ixf_end hpos h0 h1)
  have HB := Lib.hid (ixf_bd hpos (n := n) (by omega))
  have HP0 := Lib.hid hpos
  clear hx hm hpos hpr
  have mk : (Instr.makeSlice 23 (.int .i64 (ls.length : Int)) (.int .i64 (ls.length : Int))).run Tryz.prog (w.alloc (.cells #[.int .i64 n] 3)) = .ok (.slice (some ⟨w.heap.size + 1, 0, none⟩) ls.length ls.length) ((w.alloc (.cells #[.int .i64 n] 3)).alloc (.cells (madeCells #[.int .i64 0] ls.length) 3)) := by
    have := run_make (w := w.alloc (.cells #[.int .i64 n] 3)) 23 3 i0 (.int .i64 0) Tryz.underlying23 hi0 hz0 .i64 .i64 ls.length ls.length (by omega) (by omega) (by rw [hz2]; omega) (by omega)
    rw [this, hz1]; simp [Value.cells]
  rw [made_ints] at mk
  refine (callsIn_wide (n := 9)).1 ?_
  refine callsIn_of_wp_marks Tryz.func149 rfl trivial ?_
  simp only [Tryz.ntmps149, List.size_toArray, List.length_cons, List.length_nil, Nat.reduceAdd, Nat.reduceSub, Array.replicate_succ, Array.replicate_zero, List.push_toArray, List.append_toArray, List.nil_append, List.cons_append]
  refine wpIn_wide.2 ?_
  go_wp2_with (go_at_call 196; (with_reducible refine (backs_any _ _ _ _).mono ?_); rintro e w3 ⟨rfl, rfl⟩)
  have b1 : Boxed ((((w.alloc (Obj.cells #[Value.int IntKind.i64 n] 3)).alloc (Obj.cells (ints (List.replicate ls.length 0)).toArray 3)).alloc (Obj.cells #[Value.slice (some ⟨w.heap.size + 1, 0, none⟩) ls.length ls.length] 23)).alloc (Obj.cells #[Value.slice o ls.length c] 23)) w.heap.size 3 (.int .i64 n) := (((Boxed.new w 3 (.int .i64 n)).alloc (Obj.cells (ints (List.replicate ls.length 0)).toArray 3)).alloc (Obj.cells #[Value.slice (some ⟨w.heap.size + 1, 0, none⟩) ls.length ls.length] 23)).alloc (Obj.cells #[Value.slice o ls.length c] 23)
  have b0 : Blk ((((w.alloc (Obj.cells #[Value.int IntKind.i64 n] 3)).alloc (Obj.cells (ints (List.replicate ls.length 0)).toArray 3)).alloc (Obj.cells #[Value.slice (some ⟨w.heap.size + 1, 0, none⟩) ls.length ls.length] 23)).alloc (Obj.cells #[Value.slice o ls.length c] 23)) (w.heap.size + 1) 3 (ints (List.replicate ls.length 0)).toArray := by
    have := ((Blk.new (w.alloc (Obj.cells #[Value.int IntKind.i64 n] 3)) 3 (ints (List.replicate ls.length 0)).toArray).alloc (Obj.cells #[Value.slice (some ⟨w.heap.size + 1, 0, none⟩) ls.length ls.length] 23)).alloc (Obj.cells #[Value.slice o ls.length c] 23)
    rwa [World.size_alloc] at this
  have b2 : Boxed ((((w.alloc (Obj.cells #[Value.int IntKind.i64 n] 3)).alloc (Obj.cells (ints (List.replicate ls.length 0)).toArray 3)).alloc (Obj.cells #[Value.slice (some ⟨w.heap.size + 1, 0, none⟩) ls.length ls.length] 23)).alloc (Obj.cells #[Value.slice o ls.length c] 23)) (w.heap.size + 2) 23 (.slice (some ⟨w.heap.size + 1, 0, none⟩) ls.length ls.length) := by
    have := (Boxed.new ((w.alloc (Obj.cells #[Value.int IntKind.i64 n] 3)).alloc (Obj.cells (ints (List.replicate ls.length 0)).toArray 3)) 23 (.slice (some ⟨w.heap.size + 1, 0, none⟩) ls.length ls.length)).alloc (Obj.cells #[Value.slice o ls.length c] 23)
    rwa [World.size_alloc, World.size_alloc] at this
  have b3 : Boxed ((((w.alloc (Obj.cells #[Value.int IntKind.i64 n] 3)).alloc (Obj.cells (ints (List.replicate ls.length 0)).toArray 3)).alloc (Obj.cells #[Value.slice (some ⟨w.heap.size + 1, 0, none⟩) ls.length ls.length] 23)).alloc (Obj.cells #[Value.slice o ls.length c] 23)) (w.heap.size + 3) 23 (.slice o ls.length c) := by
    have := Boxed.new (((w.alloc (Obj.cells #[Value.int IntKind.i64 n] 3)).alloc (Obj.cells (ints (List.replicate ls.length 0)).toArray 3)).alloc (Obj.cells #[Value.slice (some ⟨w.heap.size + 1, 0, none⟩) ls.length ls.length] 23)) 23 (.slice o ls.length c)
    rwa [World.size_alloc, World.size_alloc, World.size_alloc] at this
  have bB : Below w.heap.size w ((((w.alloc (Obj.cells #[Value.int IntKind.i64 n] 3)).alloc (Obj.cells (ints (List.replicate ls.length 0)).toArray 3)).alloc (Obj.cells #[Value.slice (some ⟨w.heap.size + 1, 0, none⟩) ls.length ls.length] 23)).alloc (Obj.cells #[Value.slice o ls.length c] 23)) :=
    ((((Below.refl _ _).alloc (Nat.le_refl _) _).alloc (by simp) _).alloc (by simp; omega) _).alloc (by simp; omega) _
  have bS : w.heap.size + 4 = ((((w.alloc (Obj.cells #[Value.int IntKind.i64 n] 3)).alloc (Obj.cells (ints (List.replicate ls.length 0)).toArray 3)).alloc (Obj.cells #[Value.slice (some ⟨w.heap.size + 1, 0, none⟩) ls.length ls.length] 23)).alloc (Obj.cells #[Value.slice o ls.length c] 23)).heap.size := by simp
  generalize (((w.alloc (Obj.cells #[Value.int IntKind.i64 n] 3)).alloc (Obj.cells (ints (List.replicate ls.length 0)).toArray 3)).alloc (Obj.cells #[Value.slice (some ⟨w.heap.size + 1, 0, none⟩) ls.length ls.length] 23)).alloc (Obj.cells #[Value.slice o ls.length c] 23) = w3 at *
  refine (wpIn_wide (n := 9)).1 ?_
  refine wpIn_rangeFunc_ownG (F := Fence.wide) (n := 9) rfl (by decide) (gf := 215) (lb := #[.pointer (some ⟨w.heap.size + 1 + 1 + 1, 0, none⟩)]) rfl trivial (enters_of Tryz.func215 (by kernel_rfl) rfl)
    (back_stops Fence.wide 8 trivial rfl (by decide) (w.heap.size + 1 + 1 + 1) w.heap.size o c ls (by omega) w3 (by omega) (by omega) b3.cell (fun i hi => by
      obtain ⟨b, f, e, hb, hc⟩ := HX.out i hi
      exact ⟨b, f, e, hb, (bB.cell (p := ⟨b, f + i, none⟩) hb).trans hc⟩)) KeepB.trans (KeepB.put (by omega) (by omega)) (Below.refl _ _) (fun _ => rfl)
    (fun pre W => Boxed W (w.heap.size + 2) 23 (.slice (some ⟨w.heap.size + 1, 0, none⟩) ls.length ls.length) ∧ Boxed W w.heap.size 3 (.int .i64 (ixf ls n pre).2) ∧ Blk W (w.heap.size + 1) 3 (ints (ixf ls n pre).1).toArray ∧ Below w.heap.size w W)
    (fun _ _ _ => False)
    (OwnFrom.and (Own.from (boxed_own _ _ (fun _ => _)) _) (OwnFrom.and (Own.from (boxed_own _ _ (fun pre => .int .i64 (ixf ls n pre).2)) _) (OwnFrom.and (Own.from (blk_own _ _ (fun pre => (ints (ixf ls n pre).1).toArray)) _) (ownFrom_below (Nat.le_refl _) (by omega)))))
    (fun _ _ _ _ _ hs _ _ => hs)
    ⟨b2, b1, b0, bB⟩ ?a1 ?assign ?body ?done ?stop
  case assign =>
    intro l x W K hK
    unfold pr
    gi_wp2
    exact hK
  case stop =>
    rintro D c pre W _ _ h _
    exact h.elim
  case body =>
    rintro l pre x W ⟨g1, g2, g3, g4⟩ hlt
    have SN0 := ixf_snoc ls n pre x
    have hL := ixf_len ls n pre
    have hb := HB.out pre
    obtain ⟨j, hj⟩ := x
    have ed : ls.getD j 0 = ls[j] := by simp [List.getD, List.getElem?_eq_getElem hj]
    have d1 : 1 ≤ ls[j] := HP0.out _ (List.getElem_mem hj)
    simp only [ed] at SN0
    have SN := Lib.hid SN0
    clear SN0 ed
    have c1 := g1.cell
    have c2 := g2.cell
    have f2 := g2.frozen
    have c3 := g3.cell j
    rw [ints_at (by omega)] at c3
    have f3 := g3.frozen j
    have hBs := g4.size
    generalize hP : ixf ls n pre = P at *
    have HP := Lib.hid (And.intro hP hL)
    clear hP hL
    generalize P.1.getD j 0 = y at *
    obtain ⟨p0, p1⟩ := hb
    have dz : ¬ ls[j] = 0 := by omega
    gi_wp2
    gi_region
    all_goals
      gi_wp2
      have s1 := (boxed_at g1 (p := ⟨w.heap.size + 1, j, none⟩) (by show w.heap.size + 2 ≠ w.heap.size + 1; omega) (.int .i64 (P.2 % ls[j]))).other (B' := w.heap.size) (by omega) (.int .i64 (P.2 / ls[j]))
      have s2 := (boxed_at g2 (p := ⟨w.heap.size + 1, j, none⟩) (by show w.heap.size ≠ w.heap.size + 1; omega) (.int .i64 (P.2 % ls[j]))).set (.int .i64 (P.2 / ls[j]))
      have s3 := (g3.put j (P.2 % ls[j])).box (B' := w.heap.size) (by omega) (.int .i64 (P.2 / ls[j]))
      have hk := ((KeepsOthers.setCell W ⟨w.heap.size + 1, j, none⟩ (.int .i64 (P.2 % ls[j]))).trans (KeepsOthers.setCell _ ⟨w.heap.size, 0, none⟩ (.int .i64 (P.2 / ls[j])))).from w3.heap.size
      have hp := (KeepB.set (n0 := w.heap.size) (B := w.heap.size + 1 + 1 + 1) (W := W) (p := ⟨w.heap.size + 1, j, none⟩) (by show w.heap.size + 1 ≠ _; omega) (by show w.heap.size ≤ w.heap.size + 1; omega) (.int .i64 (P.2 % ls[j]))).trans (KeepB.set (p := ⟨w.heap.size, 0, none⟩) (by show w.heap.size ≠ _; omega) (Nat.le_refl _) (.int .i64 (P.2 / ls[j])))
      refine ⟨⟨hk.size, hk.same⟩, ⟨hp.1, hp.2⟩, s1, ?_, ?_, ((g4.setCell (by show w.heap.size ≤ w.heap.size + 1; omega) _).setCell (Nat.le_refl _) _).drew⟩
      · rw [SN.out]; exact s2
      · rw [SN.out]; exact s3
  case done =>
    rintro D ys W hD rfl ⟨g1, g2, g3, g4⟩ hK
    have c1 := g1.cell
    have hfin := g4.trans (belowK_b (w := w) (Nat.le_refl _) W D _ (.deferred none) (by omega) hK rfl rfl)
    have g5 : Blk (W.putObj D (.deferred none)) (w.heap.size + 1) 3 (ints (atl ls n)).toArray := by
      rw [← HE.out]
      exact g3.kept (grownBy_putObj' W D _) (by intro e; cases e; have := g3.lt; omega)
    clear g3
    go_wp2
    refine ⟨by simp, .inl ⟨_, _, rfl, run_takeDeferred hK, ?_⟩⟩
    exact ⟨_, results_tmp rfl _ _ _, rfl, g5, hfin⟩

end Go.Proofs.YtmafgdinegboeaaGreat
namespace Go.Proofs.YtmafgdinegboeaaGreat
open Go.RowKit

/-- A box of three. -/
def Bv (W : World) (b : Nat) (x y z : Value) : Prop := W.cell? ⟨b, 0, none⟩ = some x ∧ W.cell? ⟨b, 1, none⟩ = some y ∧ W.cell? ⟨b, 2, none⟩ = some z
theorem Bv.new (w : World) (x y z : Value) (t : TypeId) : Bv (w.alloc (.cells #[x, y, z] t)) w.heap.size x y z := by
  have h := Blk.new w t #[x, y, z]
  exact ⟨h.cell 0, h.cell 1, h.cell 2⟩
theorem Bv.next {W W' : World} {b B : Nat} {x y z : Value} (h : Bv W b x y z) (hb : Below B W W') (hlt : b < B) : Bv W' b x y z :=
  ⟨(hb.cell (p := ⟨b, 0, none⟩) hlt).trans h.1, (hb.cell (p := ⟨b, 1, none⟩) hlt).trans h.2.1, (hb.cell (p := ⟨b, 2, none⟩) hlt).trans h.2.2⟩
/-- Two lists of the call's own, apart. -/
def Ov (w : World) (base : Nat) (vs vt : Value) (sh st : List Int) : Prop := w.ownsRow base 3 1 vs sh.length (ints sh) ∧ w.ownsRow base 3 1 vt st.length (ints st) ∧ ∀ g, vs.ownBlock = some g → ¬ vt.ownBlock = some g
theorem Below.keepOwn {w w' : World} {B base n : Nat} {e : TypeId} {v : Value} {xs : List Value} (h : w.ownsRow base e 1 v n xs) (hb : Below B w w') (hB : w.heap.size ≤ B) : w'.ownsRow base e 1 v n xs := by
  refine ⟨h.1, ?_⟩
  rcases h.2 with a | ⟨g, cap, cur, e1, e2, e3, rest⟩
  · exact .inl a
  · exact .inr ⟨g, cap, cur, e1, e2, (hb.block g (by have := (Array.getElem?_eq_some_iff.1 e3).1; omega)).trans e3, rest⟩
theorem own_base {w : World} {base base' n : Nat} {e : TypeId} {v : Value} {xs : List Value} (h : w.ownsRow base e 1 v n xs) (hb : base' ≤ base) : w.ownsRow base' e 1 v n xs := by
  refine ⟨h.1, ?_⟩
  rcases h.2 with a | ⟨g, cap, cur, e1, e2, rest⟩
  · exact .inl a
  · exact .inr ⟨g, cap, cur, e1, by omega, rest⟩
theorem own_not_box {w : World} {base n b : Nat} {v : Value} {xs : List Value} {cs : Array Value} (h : w.ownsRow base 3 1 v n xs) (hb : Blk w b 168 cs) : ¬ v.ownBlock = some b := by
  intro e
  rcases h.2 with ⟨rfl, _⟩ | ⟨g, cap, cur, rfl, _, hh, _⟩
  · simp [Value.ownBlock] at e
  · simp only [Value.ownBlock, Option.some.injEq] at e
    subst e
    have := hh.symm.trans hb
    simp at this
theorem Ov.kept {w w' : World} {base : Nat} {vs vt : Value} {sh st : List Int} {row : Option Nat} (h : Ov w base vs vt sh st) (hg : w.grownBy w' row) (h1 : ¬ vs.ownBlock = row ∨ row = none) (h2 : ¬ vt.ownBlock = row ∨ row = none) : Ov w' base vs vt sh st := by
  refine ⟨h.1.kept hg ?_, h.2.1.kept hg ?_, h.2.2⟩
  · rcases h1 with h1 | rfl
    · exact .inr h1
    · cases e : vs.ownBlock with
      | none => exact .inl rfl
      | some g => exact .inr (by simp)
  · rcases h2 with h2 | rfl
    · exact .inr h2
    · cases e : vt.ownBlock with
      | none => exact .inl rfl
      | some g => exact .inr (by simp)
theorem Ov.below {w w' : World} {base : Nat} {vs vt : Value} {sh st : List Int} (h : Ov w base vs vt sh st) (hb : Below w.heap.size w w') : Ov w' base vs vt sh st := ⟨Below.keepOwn h.1 hb (Nat.le_refl _), Below.keepOwn h.2.1 hb (Nat.le_refl _), h.2.2⟩
theorem Ov.base {w : World} {base base' : Nat} {vs vt : Value} {sh st : List Int} (h : Ov w base vs vt sh st) (hb : base' ≤ base) : Ov w base' vs vt sh st := ⟨own_base h.1 hb, own_base h.2.1 hb, h.2.2⟩
theorem grown_box3 (W : World) (b : Nat) (x y z : Value) : W.grownBy (((W.setCell ⟨b, 0, none⟩ x).setCell ⟨b, 1, none⟩ y).setCell ⟨b, 2, none⟩ z) (some b) := ⟨rfl, rfl, rfl, by simp, fun j _ hne => by
  have hn : ∀ k, j ≠ (⟨b, k, none⟩ : Addr).block := fun k e => hne (by rw [e])
  exact (Below.heap_setCell _ _ _ j (hn 2)).trans ((Below.heap_setCell _ _ _ j (hn 1)).trans (Below.heap_setCell _ _ _ j (hn 0)))⟩
end Go.Proofs.YtmafgdinegboeaaGreat
namespace Go.Proofs.YtmafgdinegboeaaGreat
open Go Go.RowKit

/-- The iterator's contract; Tx: what is known of an element, in the world in which it is handed over. -/
def SeqTold {α : Type} (F : Fence) (n : Nat) (P : Program) (g : Nat) (lb : Array Value) (encs : α → Array Value) (Kp : World → World → Prop) (Tx : List α → α → World → Prop) (S Sp : List α → Prop) (N : Nat) (w : World) : Prop :=
  ∀ (l : Nat) (J Jx : List α → World → Prop) (W : World), Below w.heap.size w W → AbidesFrom W.heap.size J → AbidesFrom W.heap.size Jx →
    (∀ pre x W1, J pre W1 → pre.length < N → Tx pre x W1 → YieldAt F (n - 1) P l (encs x) W1 fun e W' => (e = .returned (.bool true) ∧ J (pre ++ [x]) W' ∧ Kp W1 W') ∨ (e = .returned (.bool false) ∧ Jx (pre ++ [x]) W')) →
    J [] W → CallsIn F n P g (#[.func (.yield l) #[] #[]] ++ lb) W fun e W' => (∃ v, e = .returned v) ∧ ((∃ xs, S xs ∧ J xs W') ∨ (∃ pre, Sp pre ∧ Jx pre W'))

variable {F : Fence} {n : Nat} {P : Program}
/-- The loop's record. -/
def recOf (fn : FuncId) (tmps : Array Value) (ps : Array Tmp) (assign body : Code) (D : Nat) (st : LoopState) (pe : Option Code) : Loop := { state := st, pending := pe, fn, tmps, params := ps, assign, body, defers := D }

theorem wpIn_rangeFunc_told {α : Type} {g : Operand} {ps : Array Tmp} {assign body : Code} {Q : Exit → Act → World → Prop} {a : Act} {w : World}
    (hro : F.round = none) (h1 : 1 ≤ n) {gf : Nat} {lb : Array Value} (hg : a.eval g = .func (.func gf) #[] lb) (hFg : F.fn gf) (eg : ∀ args w, (callFunc gf args).run P w = .ok (.enter gf args) w)
    {encs : α → Array Value} {Kp : World → World → Prop} {Tx : List α → α → World → Prop} {S Sp : List α → Prop} {N : Nat} (hseq : SeqTold F (n - 1) P gf lb encs Kp Tx S Sp N w)
    (hKt : ∀ {A B C : World}, Kp A B → Kp B C → Kp A C) (hKb : ∀ (W : World) (l : Nat) (o o' : Obj), w.heap.size ≤ l → W.heap[l]? = some o → o.isCells = false → o.isWalk = false → Kp W (W.putObj l o')) (hps : ∀ x, (encs x).size = ps.size)
    (I : List α → World → Prop) (Ix : Code → List α → World → Prop) (hI : OwnFrom w.heap.size I) (hIx : ∀ c, OwnFrom w.heap.size (Ix c)) (hT : ∀ pre x, OwnFrom w.heap.size (fun (_ : Unit) W => Tx pre x W)) (h0 : I [] w) (a₁ : α → Act)
    (hassign : ∀ (l : Nat) (x : α) (W : World) (K : Act → World → Prop), K (a₁ x) W → assign.wpIn (F.inRound l) (n - 1 - 1) P (Exit.then K (fun _ _ _ => False)) { tmps := (ps.zip (encs x)).foldl (fun t (p, v) => t.setIfInBounds p v) a.tmps, defers := [] } W)
    (hbody : ∀ (l : Nat) (pre : List α) (x : α) (W : World), I pre W → pre.length < N → Tx pre x W → body.wpIn (F.inRound l) (n - 1 - 1) P (ownPostG w.heap.size Kp I Ix (pre ++ [x]) W) (a₁ x) W)
    (hdone : ∀ (D : Nat) (xs : List α) (W : World), w.heap.size ≤ D → S xs → I xs W → W.heap[D]? = some (.deferred (some [])) → Q .normal { a with defers := { target := .collected D, args := #[] } :: a.defers } W)
    (hstop : ∀ (D : Nat) (c : Code) (pre : List α) (W : World), w.heap.size ≤ D → Sp pre → Ix c pre W → W.heap[D]? = some (.deferred (some [])) → c.wpIn F n P Q { a with defers := { target := .collected D, args := #[] } :: a.defers } W) :
    (Code.rangeFunc g ps assign body).wpIn F n P Q a w := by
  refine wpIn_rangeFunc fun fn hfn => ?_
  rw [hro]
  -- the two blocks that the statement lays: the deferred calls' (D) and the record (D + 1)
  let D := w.heap.size
  let R := recOf fn a.tmps ps assign body D
  let V := (w.alloc (.deferred (some []))).alloc (.loop (R .ready none))
  have rec0 : V.heap[D + 1]? = some (.loop (R .ready none)) := by
    have e := World.alloc_heap_new (w.alloc (.deferred (some []))) (.loop (R .ready none))
    rw [World.size_alloc] at e; exact e
  have def0 : V.heap[D]? = some (.deferred (some [])) := (Below.heap_alloc _ _ _ (by simp [D])).trans (World.alloc_heap_new w _)
  have size0 : V.heap.size = D + 2 := by simp [V, D]
  -- what the record's turns keep
  have put : ∀ {β : Type} {J : β → World → Prop} {s : β} {W : World} {o : Obj} (o' : Obj), OwnFrom D J → J s W → W.heap[D + 1]? = some o → o.isCells = false → J s (W.putObj (D + 1) o') := fun o' hJ hs hl ho => hJ.putObj o' hs (Nat.le_succ _) hl ho
  have away : ∀ (W : World) (o : Obj), W.heap[D]? = some (.deferred (some [])) → (W.putObj (D + 1) o).heap[D]? = some (.deferred (some [])) := fun W o h => (World.putObj_heap_other (by omega)).trans h
  have there : ∀ (W : World) (o o' : Obj), W.heap[D + 1]? = some o → (W.putObj (D + 1) o').heap[D + 1]? = some o' := fun W o o' h => World.putObj_heap_same (Array.getElem?_eq_some_iff.1 h).1
  have grow : ∀ {β : Type} {J : β → World → Prop}, OwnFrom D J → ∀ (st : Option Code → LoopState) (pe : β → Option Code), AbidesFrom V.heap.size (fun s W => J s W ∧ W.heap[D + 1]? = some (.loop (R (st (pe s)) (pe s))) ∧ W.heap[D]? = some (.deferred (some []))) := by
    intro β J hJ st pe s X Y row hs hgr hr
    have hn : ∀ r, row = some r → ∃ o : Obj, X.heap[r]? = some o ∧ o.isCells = false ∧ D ≤ r ∧ r ≠ D ∧ r ≠ D + 1 := by
      intro r e
      obtain ⟨hB, o, ho, hw⟩ := hr r e
      rw [size0] at hB
      exact ⟨o, ho, Obj.not_cells_of_walk hw, by omega, by omega, by omega⟩
    refine ⟨hJ s X Y row hs.1 hgr (fun r e => let ⟨o, ho, hc, hd, _⟩ := hn r e; ⟨hd, o, ho, hc⟩), ?_, ?_⟩
    · exact (hgr.block _ (Array.getElem?_eq_some_iff.1 hs.2.1).1 (fun e => (hn _ e.symm).elim fun _ h => h.2.2.2.2 rfl)).trans hs.2.1
    · exact (hgr.block _ (Array.getElem?_eq_some_iff.1 hs.2.2).1 (fun e => (hn _ e.symm).elim fun _ h => h.2.2.2.1 rfl)).trans hs.2.2
  have begun : Below w.heap.size w V := ((Below.refl _ w).alloc (Nat.le_refl _) _).alloc (by simp) _
  refine ⟨D + 1, [{ target := .collected D, args := #[] }], V, { target := .fn (.func gf) lb, args := #[.func (.yield (D + 1)) #[] #[]] }, V, gf, #[.func (.yield (D + 1)) #[] #[]] ++ lb, V, run_enterLoop_outer _ _ _ _ _, ?_, ?_, ?_, fun _ => h1, ?_⟩
  · simp only [resolve, hg]; simp [go_sem]
  · intro f' hf'
    simp [Target.leads] at hf'
    subst hf'
    exact hFg
  · simp [invoke, go_sem, eg]
  · refine (hseq (D + 1) (fun pre W => I pre W ∧ W.heap[D + 1]? = some (.loop (R .ready none)) ∧ W.heap[D]? = some (.deferred (some [])))
      (fun pre W => ∃ c, Ix c pre W ∧ W.heap[D + 1]? = some (.loop (R .done (some c))) ∧ W.heap[D]? = some (.deferred (some []))) V begun
      (grow (β := List α) hI (fun _ => .ready) (fun _ => none)) ?_ ?_ ⟨hI.alloc _ (hI.alloc _ h0), rec0, def0⟩).mono ?_
    · rintro s X Y row ⟨c, hs⟩ hgr hr
      exact ⟨c, grow (β := List α) (J := Ix c) (hIx c) (fun _ => .done) (fun _ => some c) s X Y row hs hgr hr⟩
    · rintro pre x W ⟨hi, hl, hk⟩ hlen htx
      refine ⟨fn, _, assign, body, run_yield hl (hps x), roundIn_of_wpIn hfn (hassign _ x W _ ⟨_, run_beginRound hl rfl, ?_⟩)⟩
      have hb := hbody (D + 1) pre x (W.putObj (D + 1) (.loop { R .ready none with state := .busy })) (put _ hI hi hl rfl) hlen (put (β := Unit) (s := ()) _ (hT pre x) htx hl rfl)
      have hl2 := there W _ (.loop { R .ready none with state := .busy }) hl
      have hk2 := away W (.loop { R .ready none with state := .busy }) hk
      have hkp := hKb W (D + 1) _ (.loop { R .ready none with state := .busy }) (Nat.le_succ _) hl rfl rfl
      -- a round's end: the record is turned, its neighbour is not
      have ends : ∀ (jump : Option Code) (W3 : World), KeepsFrom w.heap.size (W.putObj (D + 1) (.loop { R .ready none with state := .busy })) W3 →
          W3.heap[D + 1]? = some (.loop { R .ready none with state := .busy }) ∧ W3.heap[D]? = some (.deferred (some [])) ∧
          (Instr.endRound (D + 1) jump).run P W3 = .ok (.bool jump.isNone) (W3.putObj (D + 1) (.loop (R (if jump.isNone then .ready else .done) jump))) := fun jump W3 h =>
        have hl3 := h.same _ _ (Nat.le_succ _) hl2 rfl
        ⟨hl3, h.same _ _ (Nat.le_refl _) hk2 rfl, run_endRound jump hl3⟩
      have leave : ∀ (c : Code) (W3 : World), KeepsFrom w.heap.size (W.putObj (D + 1) (.loop { R .ready none with state := .busy })) W3 → Ix c (pre ++ [x]) W3 →
          ∃ c', Ix c' (pre ++ [x]) (W3.putObj (D + 1) (.loop (R .done (some c)))) ∧ (W3.putObj (D + 1) (.loop (R .done (some c)))).heap[D + 1]? = some (.loop (R .done (some c'))) ∧ (W3.putObj (D + 1) (.loop (R .done (some c)))).heap[D]? = some (.deferred (some [])) := fun c W3 hk3 hi3 =>
        have ⟨hl3, hd3, _⟩ := ends (some c) W3 hk3
        ⟨c, put _ (hIx c) hi3 hl3 rfl, there _ _ _ hl3, away _ _ hd3⟩
      refine wpIn_mono hb fun e a3 W3 hp => ?_
      cases e with
      | normal =>
        obtain ⟨hk3, hkp3, hi3⟩ := hp
        obtain ⟨hl3, hd3, hr⟩ := ends none W3 hk3
        exact ⟨_, _, hr, .inl ⟨rfl, ⟨put _ hI hi3 hl3 rfl, there _ _ _ hl3, away _ _ hd3⟩, hKt (hKt hkp hkp3) (hKb _ _ _ _ (Nat.le_succ _) hl3 rfl rfl)⟩⟩
      | ret => exact ⟨_, _, (ends (some .ret) W3 hp.1).2.2, .inr ⟨rfl, leave .ret W3 hp.1 hp.2⟩⟩
      | exit id => exact ⟨_, _, (ends (some (.exit id)) W3 hp.1).2.2, .inr ⟨rfl, leave (.exit id) W3 hp.1 hp.2⟩⟩
      | goto t => exact ⟨_, _, (ends (some (.goto t)) W3 hp.1).2.2, .inr ⟨rfl, leave (.goto t) W3 hp.1 hp.2⟩⟩
      | panic ch => exact hp.elim
      | outgrown => exact hp.elim
    · rintro e W2 ⟨⟨v, rfl⟩, (⟨xs, hS, hi, hl, hk⟩ | ⟨pre, hSp, c, hi, hl, hk⟩)⟩
      · exact ⟨none, _, run_endLoop hl (by simp [R, recOf]), hdone D xs _ (Nat.le_refl _) hS (put _ hI hi hl rfl) (away _ _ hk)⟩
      · exact ⟨some c, _, run_endLoop hl (by simp [R, recOf]), hstop D c pre _ (Nat.le_refl _) hSp (put _ (hIx c) hi hl rfl) (away _ _ hk)⟩
end Go.Proofs.YtmafgdinegboeaaGreat
namespace Go.Proofs.YtmafgdinegboeaaGreat
open Go.RowKit Go.Shelf
attribute [local go_sem] Oper.semAt_some

theorem box_on {w w' : World} {B : Nat} {t : TypeId} {v : Value} (h : Boxed w B t v) (hb : Below w.heap.size w w') : Boxed w' B t v := (hb.block B h.lt).trans h
/-- What All's iterator tells: the n-th place, and where its index lies. -/
def apr (ls : List Int) (x : Nat × Nat) : Array Value := #[.int .i64 (x.1 : Nat), .slice (some ⟨x.2, 0, none⟩) ls.length ls.length]
/-- What a round must keep: what lay there ahead, and the two boxes and the copy. -/
def KeepA (n1 n0 : Nat) (W W' : World) : Prop := ∀ k, n1 ≤ k → k < n0 → W'.heap[k]? = W.heap[k]?
theorem KeepA.refl (n1 n0 : Nat) (W : World) : KeepA n1 n0 W W := fun _ _ _ => rfl
theorem KeepA.trans {n1 n0 : Nat} {a b c : World} (h : KeepA n1 n0 a b) (k : KeepA n1 n0 b c) : KeepA n1 n0 a c := fun i h1 hi => (k i h1 hi).trans (h i h1 hi)
theorem KeepA.cell {n1 n0 b i : Nat} {W W' : World} (h : KeepA n1 n0 W W') (ha : n1 ≤ b) (hb : b < n0) : W'.cell? ⟨b, i, none⟩ = W.cell? ⟨b, i, none⟩ := by simp [World.cell?, h b ha hb]
theorem KeepA.below {n1 n0 : Nat} {W W' : World} (h : Below W.heap.size W W') (hn : n0 ≤ W.heap.size) : KeepA n1 n0 W W' := fun k _ hk => h.block k (by omega)
theorem KeepA.put {n1 n0 : Nat} {w : World} (hn : n0 ≤ w.heap.size) (W : World) (l : Nat) (o o' : Obj) (hl : w.heap.size ≤ l) (_ : W.heap[l]? = some o) (_ : o.isCells = false) (_ : o.isWalk = false) : KeepA n1 n0 W (W.putObj l o') := fun k _ h2 => World.putObj_heap_other (by omega)
theorem KeepA.size {n1 n0 : Nat} {W W' : World} (h : KeepA n1 n0 W W') (hlt : n1 < n0) (hn : n0 ≤ W.heap.size) : n0 ≤ W'.heap.size := by
  have h1 := h (n0 - 1) (by omega) (by omega)
  rw [Array.getElem?_eq_getElem (show n0 - 1 < W.heap.size by omega)] at h1
  have := (Array.getElem?_eq_some_iff.1 h1).1
  omega
theorem KeepA.ld {n1 n0 : Nat} {W W' : World} {v : Value} {ls : List Int} (h : KeepA n1 n0 W W') (hl : Ld W v ls) (hn : ∀ i, i < ls.length → ∃ o c b f, v = .slice o ls.length c ∧ o = some ⟨b, f, none⟩ ∧ n1 ≤ b ∧ b < n0) (hs : n0 ≤ W'.heap.size) : Ld W' v ls := by
  obtain ⟨o, c, rfl, hc, hx⟩ := hl
  refine ⟨o, c, rfl, hc, fun i hi => ?_⟩
  obtain ⟨b, f, e, _, hcell⟩ := hx i hi
  obtain ⟨o2, c2, b2, f2, e1, e2, e4, e3⟩ := hn i hi
  simp only [Value.slice.injEq] at e1
  obtain ⟨rfl, _, rfl⟩ := e1
  rw [e] at e2
  simp only [Option.some.injEq, Addr.mk.injEq, and_true] at e2
  obtain ⟨rfl, rfl⟩ := e2
  exact ⟨b, f, e, by omega, (h.cell e4 e3).trans hcell⟩

end Go.Proofs.YtmafgdinegboeaaGreat
namespace Go.Proofs.YtmafgdinegboeaaGreat
open Go Go.RowKit

variable {F : Fence} {n : Nat} {P : Program}
end Go.Proofs.YtmafgdinegboeaaGreat
namespace Go.Proofs.YtmafgdinegboeaaGreat
open Go.RowKit Go.Shelf
attribute [local go_sem] Oper.semAt_some

/-- All's function value: two boxes, the copy. -/
def AllBox2 (w : World) (base B1 B2 : Nat) (N : Int) (o : Option Addr) (c : Nat) (ls : List Int) : Prop := Boxed w B1 3 (.int .i64 N) ∧ Boxed w B2 23 (.slice o ls.length c) ∧ w.ownsRow base 3 1 (.slice o ls.length c) ls.length (ints ls)
def SomeAll2 (w : World) (N : Int) (ls : List Int) (e : Ending) (w' : World) : Prop := ∃ B1 B2 o c, e = .returned (.func (.func 148) #[] #[.pointer (some ⟨B1, 0, none⟩), .pointer (some ⟨B2, 0, none⟩)]) ∧ AllBox2 w' w.heap.size B1 B2 N o c ls ∧ w.heap.size ≤ B1 ∧ w.heap.size ≤ B2 ∧ Below w.heap.size w w'

set_option maxRecDepth 100000 in
set_option maxHeartbeats 4000000 in
theorem all2_any (v : Value) (ls : List Int) (w : World) (h : Ld w v ls) (ll : ls.length ≤ 65536) :
    Calls Tryz.prog 73 #[v] w (SomeAll2 w (if may ls then prod ls else 0) ls) := by
  have CL := Lib.hid (fun (W : World) (hb : Below w.heap.size w W) => cloned_any v ls W (h.below hb) (by omega))
  have CN : Hid (∃ y : Int, Calls Tryz.prog 147 #[v] w fun e w' => e = .returned (.tuple #[.int .i64 (if may ls then prod ls else 0), .int .i64 y]) ∧ w = w') := by
    cases hm : may ls with
    | true => exact ⟨0, count_ok _ ls w h hm⟩
    | false => exact ⟨1, count_no _ ls w h hm⟩
  obtain ⟨y, CN⟩ := CN.out
  have CN := Lib.hid CN
  generalize (if may ls then prod ls else 0) = N at *
  obtain ⟨o, c, rfl, _, _⟩ := h
  go_enter Tryz.func73, Tryz.ntmps73
  go_wp2_with (first | (go_at_call 147; (with_reducible refine CN.out.mono ?_); rintro e w' ⟨rfl, rfl⟩) | (go_at_call 145; (with_reducible refine Go.Calls.mono (CL.out _ ?_) ?_); (· exact (Below.refl _ _).alloc (Nat.le_refl _) _); rintro e w2 ⟨o2, c2, rfl, ho2, hl2, hb2⟩; replace ho2 := Lib.hid ho2; clear hl2))
  refine bodyPost_ret (results_tmp rfl _ _ _) rfl ?_
  have b1 := (box_on (Boxed.new w 3 (.int .i64 N)) hb2).alloc (.cells #[.slice o2 ls.length c2] 23)
  have hs := hb2.size
  rw [World.size_alloc] at hs
  exact ⟨w.heap.size, w2.heap.size, o2, c2, rfl, ⟨b1, Boxed.new _ _ _, (own_base ho2.out (by simp)).alloc _⟩, Nat.le_refl _, by omega, (((Below.refl _ _).alloc (Nat.le_refl _) _).trans (hb2.mono (by simp))).alloc (by omega) _⟩

/-- What is known of an element that All's iterator tells. -/
def Tol3 (ls : List Int) (pre : List (Nat × Nat)) (x : Nat × Nat) (W : World) : Prop := x.1 = pre.length ∧ Blk W x.2 3 (ints (atl ls (x.1 : Nat))).toArray
/-- What a round must keep: All's boxes, the copy. -/
def Kp3 (B1 B2 : Nat) (o : Option Addr) (W W' : World) : Prop := W'.heap[B1]? = W.heap[B1]? ∧ W'.heap[B2]? = W.heap[B2]? ∧ ∀ g, o = some ⟨g, 0, none⟩ → W'.heap[g]? = W.heap[g]?
theorem Kp3.refl (B1 B2 : Nat) (o : Option Addr) (W : World) : Kp3 B1 B2 o W W := ⟨rfl, rfl, fun _ _ => rfl⟩
theorem Kp3.trans {B1 B2 : Nat} {o : Option Addr} {a b c : World} (h : Kp3 B1 B2 o a b) (k : Kp3 B1 B2 o b c) : Kp3 B1 B2 o a c := ⟨k.1.trans h.1, k.2.1.trans h.2.1, fun g e => (k.2.2 g e).trans (h.2.2 g e)⟩
theorem Kp3.own {B1 B2 : Nat} {o : Option Addr} {c base : Nat} {ls : List Int} {W W' : World} (h : Kp3 B1 B2 o W W') (ho : W.ownsRow base 3 1 (.slice o ls.length c) ls.length (ints ls)) : W'.ownsRow base 3 1 (.slice o ls.length c) ls.length (ints ls) := by
  refine ⟨ho.1, ?_⟩
  rcases ho.2 with a | ⟨g, cap, cur, e1, e2, e3, rest⟩
  · exact .inl a
  · have e4 := e1
    simp only [Value.slice.injEq] at e4
    exact .inr ⟨g, cap, cur, e1, e2, (h.2.2 g e4.1).trans e3, rest⟩
theorem Kp3.below {B1 B2 : Nat} {o : Option Addr} {c base : Nat} {ls : List Int} {W W' : World} (hb : Below W.heap.size W W') (h1 : B1 < W.heap.size) (h2 : B2 < W.heap.size) (ho : W.ownsRow base 3 1 (.slice o ls.length c) ls.length (ints ls)) : Kp3 B1 B2 o W W' := by
  refine ⟨hb.block _ h1, hb.block _ h2, fun g e => hb.block g ?_⟩
  subst e
  exact (ho.lt g rfl).2
theorem Boxed.kp {B : Nat} {t : TypeId} {v : Value} {W W' : World} (h : Boxed W B t v) (hk : W'.heap[B]? = W.heap[B]?) : Boxed W' B t v := hk.trans h

set_option maxRecDepth 100000 in
set_option maxHeartbeats 4000000 in
theorem all3_in (F : Fence) (n : Nat) (hfn : F.fn 148) (_hfi : F.fn 149) (hro : F.round = none) (hn : 2 ≤ n) (hix : ∀ v ls m w, Ld w v ls → may ls = true → 0 ≤ m → m < prod ls → CallsIn F (n - 1) Tryz.prog 149 #[v, .int .i64 m] w fun e w' => e = .returned (.slice (some ⟨w.heap.size + 1, 0, none⟩) ls.length ls.length) ∧ Blk w' (w.heap.size + 1) 3 (ints (atl ls m)).toArray ∧ Below w.heap.size w w')
    (l base B1 B2 N : Nat) (o : Option Addr) (c : Nat) (ls : List Int) (hN : N ≤ 65536) (hm : 0 < N → may ls = true ∧ prod ls = N) (J Jx : List (Nat × Nat) → World → Prop) (W : World) (hJ : AbidesFrom W.heap.size J)
    (hY : ∀ pre x W, J pre W → pre.length < N → Tol3 ls pre x W → YieldAt F (n - 1) Tryz.prog l (apr ls x) W fun e W' =>
      (e = .returned (.bool true) ∧ J (pre ++ [x]) W' ∧ Kp3 B1 B2 o W W') ∨ (e = .returned (.bool false) ∧ Jx (pre ++ [x]) W'))
    (hbox : AllBox2 W base B1 B2 N o c ls) (hj : J [] W) :
    CallsIn F n Tryz.prog 148 #[.func (.yield l) #[] #[], .pointer (some ⟨B1, 0, none⟩), .pointer (some ⟨B2, 0, none⟩)] W fun e W' => (∃ v, e = .returned v) ∧
      ((∃ ys : List (Nat × Nat), ys.length = N ∧ J ys W') ∨ (∃ pre : List (Nat × Nat), pre.length ≤ N ∧ Jx pre W')) := by
  have hn1 : 1 ≤ n := by omega
  have HB := Lib.hid hbox
  have h0 := hbox.1.cell
  clear hbox
  refine callsIn_of_wp Tryz.func148 rfl hfn ?_ hro
  simp only [Tryz.ntmps148, List.size_toArray, List.length_cons, List.length_nil, Nat.reduceAdd, Nat.reduceSub, Array.replicate_succ, Array.replicate_zero, List.push_toArray, List.append_toArray, List.nil_append, List.cons_append]
  gi_wp2
  gi_loopw [6] (fun s6 wr => ∃ pre : List (Nat × Nat), pre.length ≤ N ∧ s6 = .int .i64 (pre.length : Nat) ∧ J pre wr ∧ Hid (AllBox2 wr base B1 B2 N o c ls)) (fun s6 _ => N - (intOf s6).toNat)
  case atStart => exact ⟨[], Nat.zero_le _, rfl, hj, HB⟩
  case round =>
    obtain ⟨pre, hpl, rfl, hJs, hK⟩ := hrel
    have c1 : wr.cell? ⟨B2, 0, none⟩ = some (.slice o ls.length c) := hK.out.2.1.cell
    by_cases hlt : pre.length < N
    · obtain ⟨hm1, hm2⟩ := hm (by omega)
      have hld : Ld wr (.slice o ls.length c) ls := by
        obtain ⟨_, _, e, h1⟩ := Ld.of_owns hK.out.2.2
        rw [e]; exact h1
      have HI := Lib.hid (hix (.slice o ls.length c) ls (pre.length : Nat) wr hld hm1 (by omega) (by omega))
      have HY : Hid (∀ w2, Blk w2 (wr.heap.size + 1) 3 (ints (atl ls (pre.length : Nat))).toArray → Below wr.heap.size wr w2 → YieldAt F (n - 1) Tryz.prog l #[.int .i64 (pre.length : Nat), .slice (some ⟨wr.heap.size + 1, 0, none⟩) ls.length ls.length] w2 fun e W' =>
          (e = .returned (.bool true) ∧ J (pre ++ [(pre.length, wr.heap.size + 1)]) W' ∧ AllBox2 W' base B1 B2 N o c ls) ∨ (e = .returned (.bool false) ∧ Jx (pre ++ [(pre.length, wr.heap.size + 1)]) W')) := by
        intro w2 hb hB
        have hJ2 := hJ pre wr w2 none hJs ⟨hB.os, hB.tape, hB.output, hB.size, fun k hk _ => hB.block k hk⟩ (fun r e => by cases e)
        obtain ⟨fn, tmps, assign, body, hy, hR⟩ := hY pre (pre.length, wr.heap.size + 1) w2 hJ2 hlt ⟨rfl, hb⟩
        refine ⟨fn, tmps, assign, body, hy, hR.mono ?_⟩
        rintro e W' (⟨rfl, h2, h3⟩ | h2)
        · have k1 := (Kp3.below hB hK.out.1.lt hK.out.2.1.lt hK.out.2.2).trans h3
          exact .inl ⟨rfl, h2, k1.1.trans hK.out.1, k1.2.1.trans hK.out.2.1, k1.own hK.out.2.2⟩
        · exact .inr h2
      generalize hq : pre.length = q at *
      have HQ := Lib.hid hq
      clear hq hm hm1 hm2 hld
      gi_wp2
      refine HI.out.mono ?_
      rintro e w2 ⟨rfl, hb2, hB2⟩
      obtain ⟨fn, tmps, assign, body, hy, hR⟩ := HY.out w2 hb2 hB2
      gi_wp2
      refine hR.mono ?_
      rintro e W3 (⟨rfl, hJ3, hk3⟩ | ⟨rfl, hJx3⟩)
      · gi_wp2
        go_roundw
        case rel => exact ⟨pre ++ [(q, wr.heap.size + 1)], by simp [HQ.out]; omega, by simp [HQ.out], hJ3, hk3⟩
        case measure => simp [intOf]; omega
      · gi_wp2
        refine bodyPost_ret (results_none rfl _ _ _) rfl ?_
        exact ⟨⟨_, rfl⟩, .inr ⟨pre ++ [(q, wr.heap.size + 1)], by simp [HQ.out]; omega, hJx3⟩⟩
    · gi_wp2
      go_end0
      exact ⟨⟨_, rfl⟩, .inl ⟨pre, by omega, hJs⟩⟩
/-- The iterator's contract. -/
theorem all3_told (n base B1 B2 N : Nat) (hn : 2 ≤ n) (o : Option Addr) (c : Nat) (ls : List Int) (hN : N ≤ 65536) (hm : 0 < N → may ls = true ∧ prod ls = N) (w : World) (hbox : AllBox2 w base B1 B2 N o c ls) :
    SeqTold Fence.wide n Tryz.prog 148 #[.pointer (some ⟨B1, 0, none⟩), .pointer (some ⟨B2, 0, none⟩)] (apr ls) (Kp3 B1 B2 o) (Tol3 ls) (fun ys => ys.length = N) (fun pre => pre.length ≤ N) N w := fun l J Jx W hW hJ _ hY h0 =>
  all3_in Fence.wide n trivial trivial rfl hn (fun v ls m w h1 h2 h3 h4 => callsIn_wide.2 (index_any v ls m w h1 h2 h3 h4)) l base B1 B2 N o c ls hN hm J Jx W hJ hY
    ⟨box_on hbox.1 hW, box_on hbox.2.1 hW, Below.keepOwn hbox.2.2 hW (Nat.le_refl _)⟩ h0
end Go.Proofs.YtmafgdinegboeaaGreat
namespace Go.Proofs.YtmafgdinegboeaaGreat
open Go.RowKit
attribute [local go_sem ↓] Go.wp_at_zero Go.wp_at_succ

theorem ints_snoc (l : List Int) (x : Int) : ints (l ++ [x]) = ints l ++ [.int .i64 x] := by simp [ints]

theorem grown_set (W : World) (p : Addr) (z : Value) : W.grownBy (W.setCell p z) (some p.block) := ⟨rfl, rfl, rfl, by simp, fun j _ hne => Below.heap_setCell _ _ _ j (fun e => hne (by rw [e]))⟩
end Go.Proofs.YtmafgdinegboeaaGreat
namespace Go.Proofs.YtmafgdinegboeaaGreat
open Go.RowKit Go.Shelf
attribute [local go_sem] Oper.semAt_some

/-- What a round of a loop over places must keep. -/
def KV (S : Nat → Prop) (W W' : World) : Prop := (∀ k, S k → W'.heap[k]? = W.heap[k]?) ∧ ∀ (k : Nat) (cs : Array Value) (t : TypeId) (fz : Nat × Nat), W.heap[k]? = some (Obj.cells cs t fz) → t = 3 ∨ t = 23 ∨ t = 263 → W'.heap[k]? = W.heap[k]?
theorem KV.trans {S : Nat → Prop} {a b c : World} (h : KV S a b) (k : KV S b c) : KV S a c :=
  ⟨fun i hi => (k.1 i hi).trans (h.1 i hi), fun i cs t fz e ht => (k.2 i cs t fz ((h.2 i cs t fz e ht).trans e) ht).trans (h.2 i cs t fz e ht)⟩
theorem own_kept {W W' : World} {row : Option Nat} {base n : Nat} {e : TypeId} {v : Value} {xs : List Value} (h : W.ownsRow base e 1 v n xs) (hg : W.grownBy W' row) (hr : ∀ r, row = some r → ∃ o : Obj, W.heap[r]? = some o ∧ o.isCells = false) : W'.ownsRow base e 1 v n xs := by
  refine h.kept hg ?_
  rcases h.2 with ⟨rfl, _⟩ | ⟨g, cap, cur, rfl, _, hh, _⟩
  · exact .inl rfl
  · right
    intro e2
    obtain ⟨o, ho, hc⟩ := hr g e2.symm
    rw [hh] at ho
    cases ho
    cases hc
theorem OwnFrom.mono {β : Type} {B B' : Nat} {I : β → World → Prop} (h : OwnFrom B I) (hb : B ≤ B') : OwnFrom B' I := fun s W W' row hs hg hr => h s W W' row hs hg (fun r e => ⟨Nat.le_trans hb (hr r e).1, (hr r e).2⟩)
/-- What the iterator of places keeps. -/
def Pl (W : World) (bV By : Nat) (l : Nat) (vs vt : Value) (off : Int) (st : List Int) (base B1 B2 : Nat) (N : Int) (o : Option Addr) (c : Nat) (sh : List Int) : Prop := Blk W bV 168 #[vs, vt, .int .i64 off] ∧ Ld W vt st ∧ Boxed W By 263 (.func (.yield l) #[] #[]) ∧ AllBox2 W base B1 B2 N o c sh
end Go.Proofs.YtmafgdinegboeaaGreat
namespace Go.Proofs.YtmafgdinegboeaaGreat
open Go Go.RowKit

/-- No defer statement? -/
def nodf : Op → Bool
  | .defer _ => false
  | _ => true
theorem rows_in {P : Program} {n l : Nat} {row : String} {args : Array Value} {w : World} {R : Value → World → Prop} (h : Rows P row args w R) : RowsIn (Fence.wide.inRound l) n P row args w R := fun c cs _ =>
  let ⟨v, w', r, s⟩ := h c cs
  ⟨v, w', r, stepsIn_wide.2 s⟩
theorem oper_in {P : Program} {n l : Nat} {o : Oper} {a : Act} {w : World} {K : Act → World → Prop} {Q : Exit → Act → World → Prop} (hd : nodf o.op = true) (h : o.wp P a w K Q) : o.wpIn (Fence.wide.inRound l) n P a w K Q := by
  refine ⟨fun _ _ => trivial, ?_⟩
  rw [Oper.semAt_plain _ _ _ (fun c hc => by rw [hc] at hd; cases hd)]
  unfold Oper.wp at h
  generalize (execOp a.eval o).run P w = r at *
  cases r with
  | ok x w' =>
    cases x <;> simp only [Oper.uponIn, Oper.upon] at h ⊢ <;>
      first
        | exact h
        | exact ⟨(fun h0 => by cases h0), callsIn_wide.2 h⟩
        | exact ⟨(fun h0 => by cases h0), rows_in h⟩
  | halt x w' => cases x <;> simp only [Oper.uponIn, Oper.upon] at h ⊢ <;> exact h
theorem any_in {P : Program} {n l : Nat} {md : Region.Mode} {ops : Array Oper} {Q : Exit → Act → World → Prop} (hd : (ops.toList.all fun o => nodf o.op) = true) (hQ : ¬ LetsOut Q) :
    ∀ (fuel : Nat) (listed : Array Bool) (a : Act) (w : World), wpAny P md ops Q fuel listed a w → wpAnyIn (Fence.wide.inRound l) n P md ops Q fuel listed a w
  | 0, _, _, _, h => h
  | fuel + 1, listed, a, w, h => by
    refine ⟨h.1, fun i hi => ?_⟩
    have h1 := h.2 i hi
    unfold wpOp at h1
    unfold wpOpIn
    cases e : ops[i]? with
    | none =>
      simp only [e] at h1 ⊢
      exact any_in hd hQ fuel _ _ _ h1
    | some o =>
      have ho : nodf o.op = true := by
        have := List.all_eq_true.1 hd o (by
          have h2 := Array.getElem?_eq_some_iff.1 e
          rw [← h2.2]; simp)
        simpa using this
      simp only [e] at h1 ⊢
      split
      · rename_i hw
        simp only [hw, if_true] at h1
        rcases h1 with h1 | ⟨_, h1⟩
        · exact Oper.wpIn_mono (fun a' w' h' => any_in hd hQ fuel _ _ _ h') (oper_in ho h1)
        · exact absurd h1 hQ
      · rename_i hw
        simp only [hw] at h1
        exact ⟨fun _ _ => trivial, any_in hd hQ fuel _ _ _ h1⟩
/-- A region that draws its order, within a round: what it leaves of the frame, too. -/
theorem region_inA {P : Program} {n l id : Nat} {ops : Array Oper} {R : Act → World → Prop} {S : World → Prop} {a : Act} {W : World} (hd : (ops.toList.all fun o => nodf o.op) = true) (hm : P.follows .mixedOrders = true) (hS : S W.drew)
    (h : S W.drew → wpAnyH P .any ops (fun e a2 W2 => e = .normal ∧ R a2 W2) S ops.size (Array.replicate ops.size false) a W.drew) : (Code.region id ops true).wpIn (Fence.wide.inRound l) n P (fun e a2 W2 => e = .normal ∧ R a2 W2) a W :=
  wpIn_region_any hm (any_in hd (fun ⟨_, _, h⟩ => by cases h.1) _ _ _ _ (wpAny_of_held _ _ _ _ (h hS)))
end Go.Proofs.YtmafgdinegboeaaGreat
namespace Go.Proofs.YtmafgdinegboeaaGreat
open Go.RowKit
attribute [local go_sem ↓] Go.wp_at_zero Go.wp_at_succ

end Go.Proofs.YtmafgdinegboeaaGreat
namespace Go.Proofs.YtmafgdinegboeaaGreat
open Go.RowKit
attribute [local go_sem ↓] Go.wp_at_zero Go.wp_at_succ

theorem own_some {w : World} {base n c : Nat} {e : TypeId} {o : Option Addr} {xs : List Value} (h : w.ownsRow base e 1 (.slice o n c) n xs) (h0 : 0 < n) : ∃ g, o = some ⟨g, 0, none⟩ := by
  rcases h.2 with ⟨_, h1⟩ | ⟨g, cap, cur, hv, _⟩
  · omega
  · simp only [Value.slice.injEq, true_and] at hv; exact ⟨g, hv.1⟩
theorem own_cell {w : World} {base g c i : Nat} {ls : List Int} {e : TypeId} (h : w.ownsRow base e 1 (.slice (some ⟨g, 0, none⟩) ls.length c) ls.length (ints ls)) (hi : i < ls.length) : w.cell? ⟨g, i, none⟩ = some (.int .i64 (ls.getD i 0)) := by
  rw [h.cellAt i (by omega)]; simpa using ints_at hi
theorem own_frozen {w : World} {base g n c : Nat} {xs : List Value} {e : TypeId} (h : w.ownsRow base e 1 (.slice (some ⟨g, 0, none⟩) n c) n xs) (i : Nat) : w.frozen? ⟨g, i, none⟩ = false := h.frozenAt i
theorem own_put {w : World} {base g c i : Nat} {ls : List Int} {e : TypeId} (h : w.ownsRow base e 1 (.slice (some ⟨g, 0, none⟩) ls.length c) ls.length (ints ls)) (_hi : i < ls.length) (v : Int) : (w.setCell ⟨g, i, none⟩ (.int .i64 v)).ownsRow base e 1 (.slice (some ⟨g, 0, none⟩) ls.length c) (ls.set i v).length (ints (ls.set i v)) := by
  rcases h.2 with ⟨hv, _⟩ | ⟨g', cap, cur, hv, hb, hh, hc, hm, hsz, ht⟩
  · cases hv
  · simp only [Value.slice.injEq, true_and, Option.some.injEq, Addr.mk.injEq, and_true] at hv
    obtain ⟨rfl, rfl⟩ := hv
    have hp : Blk (w.setCell ⟨g, i, none⟩ (.int .i64 v)) g e (cur.setIfInBounds i (.int .i64 v)) := Blk.set_ (show Blk w g e cur from hh) i _
    refine ⟨by simp [ints], .inr ⟨g, c, cur.setIfInBounds i (.int .i64 v), by rw [List.length_set], hb, hp, by rw [List.length_set]; exact hc, hm, by simpa using hsz, ?_⟩⟩
    rw [List.length_set, Nat.mul_one]
    rw [Nat.mul_one] at ht
    have : (cur.setIfInBounds i (.int .i64 v)).toList = cur.toList.set i (.int .i64 v) := by simp
    rw [this, List.take_set, ht]
    simp [ints, List.map_set]
theorem Ov.put {w : World} {base g c i : Nat} {vt : Value} {sh st : List Int} (h : Ov w base (.slice (some ⟨g, 0, none⟩) sh.length c) vt sh st) (hi : i < sh.length) (v : Int) : Ov (w.setCell ⟨g, i, none⟩ (.int .i64 v)) base (.slice (some ⟨g, 0, none⟩) sh.length c) vt (sh.set i v) st :=
  ⟨own_put h.1 hi v, h.2.1.kept (grown_set w ⟨g, i, none⟩ _) (.inr (h.2.2 g rfl)), h.2.2⟩
theorem Ov.alloc {w : World} {base : Nat} {vs vt : Value} {sh st : List Int} (h : Ov w base vs vt sh st) (o : Obj) : Ov (w.alloc o) base vs vt sh st := h.below ((Below.refl _ _).alloc (Nat.le_refl _) _)
theorem Ov.drew {w : World} {base : Nat} {vs vt : Value} {sh st : List Int} (h : Ov w base vs vt sh st) : Ov w.drew base vs vt sh st := h
theorem Ov.box {w : World} {base b : Nat} {vs vt : Value} {sh st : List Int} {cs : Array Value} (h : Ov w base vs vt sh st) (hb : Blk w b 168 cs) (x y z : Value) : Ov (((w.setCell ⟨b, 0, none⟩ x).setCell ⟨b, 1, none⟩ y).setCell ⟨b, 2, none⟩ z) base vs vt sh st :=
  h.kept (grown_box3 w b x y z) (.inl (own_not_box h.1 hb)) (.inl (own_not_box h.2.1 hb))
theorem Below.box {w W : World} {B b : Nat} (h : Below B w W) (hb : B ≤ b) (x y z : Value) : Below B w (((W.setCell ⟨b, 0, none⟩ x).setCell ⟨b, 1, none⟩ y).setCell ⟨b, 2, none⟩ z) := ((h.setCell hb _).setCell hb _).setCell hb _
end Go.Proofs.YtmafgdinegboeaaGreat
namespace Go.Proofs.YtmafgdinegboeaaGreat
open Go.RowKit
attribute [local go_sem ↓] Go.wp_at_zero Go.wp_at_succ

end Go.Proofs.YtmafgdinegboeaaGreat
namespace Go.Proofs.YtmafgdinegboeaaGreat
open Go.RowKit

set_option maxRecDepth 100000 in
set_option maxHeartbeats 2000000 in
theorem over_any (vs : Value) (s : List Int) (w : World) (hs : Ld w vs s) (l4 : s.length ≤ 1073741824) (j : Nat) (j1 : 1 ≤ j) (j2 : j ≤ 1073741824) :
    Calls Tryz.prog 216 #[vs, .int .i64 j] w fun e w' => e = .returned (.int .i64 (ov s j)) ∧ w = w' := by
  obtain ⟨os, cs, rfl, _, hxs⟩ := hs
  have HS := Lib.hid hxs
  clear hxs
  by_cases h : s.length < j
  · have E : Hid (ov s j = 1) := by unfold ov; rw [if_pos h]; exact Lib.hid rfl
    go_enter Tryz.func216, Tryz.ntmps216
    go_wp2
    go_ret
    exact ⟨by rw [E.out]; rfl, rfl⟩
  · obtain ⟨q, hq⟩ : ∃ q, s.length = q + j := ⟨s.length - j, by omega⟩
    obtain ⟨b, f, rfl, hb, hc⟩ := HS.out q (by omega)
    have E : Hid (ov s j = s.getD q 0) := by unfold ov; rw [if_neg h, show s.length - j = q by omega]; exact Lib.hid rfl
    have e1 : ((q + j : Nat) : Int) - (j : Int) = (q : Int) := by omega
    have h2 : ¬ q + j < j := by omega
    rw [hq]
    rw [hq] at l4
    clear HS hq h
    generalize s.getD q 0 = x at *
    go_enter Tryz.func216, Tryz.ntmps216
    go_wp2
    go_ret
    exact ⟨by rw [E.out]; rfl, rfl⟩


end Go.Proofs.YtmafgdinegboeaaGreat
