/-
  package matmul: Mul of what are no factors.
  package matmul: the axes of a turn.
  Words laid where indexes stand; which places are taken; plain mathematics.
  slices.Clone of words.
  The reference's views: which may be, axes, the plain one.
  view.Reshape; the reference's plain view.
  The view laws' own helpers: views held against one another, copied, written over, asked.
  Of the references that the laws of package view call: words copied and spoilt, where an index stands.
  The reference's Copy.
-/
import Derived.Deep.QuietTactic
import Derived.BigQuiet
import Derived.Deep.DeepBigQuietO
import Derived.Deep.RegionHeld3
import Derived.Test.YtlidkeabadioeaaM03
import Derived.Test.YtlidkeabadioeaaM05
import Derived.Test.YtlidkeabadioeaaM06
import Derived.Test.YtlidkeabadioeaaM07
import Derived.Test.YtlidkeabadioeaaM10
import Derived.Test.YtlidkeabadioeaaM14
namespace Go.Proofs.Ytlidkeabadioeaa
open Go Go.RowKit Go.Shelf

set_option maxRecDepth 100000 in
set_option maxHeartbeats 8000000 in
theorem mul_na (vs vd vt ve : Value) (a da b db : List Int) (f : Int) (w : World) (hs : Ld w vs a) (hd : Ld w vd da) (ht : Ld w vt b) (he : Ld w ve db) (l1 : a.length ≤ 17592186044416) (l2 : da.length ≤ 17592186044416) (l3 : b.length ≤ 17592186044416) (l4 : db.length ≤ 17592186044416) (ta : tnb a da = false) :
    Calls Try.prog 18 #[.agg #[vs, vd], .agg #[vt, ve], .int .i64 f] w (SomeT w 1 [] []) := by
  have CA := Lib.hid (fun (W : World) (hW : Below w.heap.size w W) => echeck_any vs vd a da W (hs.below hW) (hd.below hW) (by omega) (by omega))
  have CB := Lib.hid (fun (W : World) (hW : Below w.heap.size w W) => echeck_any vt ve b db W (ht.below hW) (he.below hW) (by omega) (by omega))
  have CF := Lib.hid (fun (W : World) => checkf_any f W)
  rw [ta, if_neg (by decide)] at CA
  obtain ⟨o1, c1, rfl, _, _⟩ := id hs
  obtain ⟨o2, c2, rfl, _, _⟩ := id hd
  obtain ⟨o3, c3, rfl, _, _⟩ := id ht
  obtain ⟨o4, c4, rfl, _, _⟩ := id he
  clear hs hd ht he ta
  obtain ⟨w5, hw5⟩ : ∃ w5, w5 = ((((w.alloc (.cells #[.slice o1 a.length c1, .slice o2 da.length c2] 26)).alloc (.cells #[.slice o3 b.length c3, .slice o4 db.length c4] 26)).alloc (.cells #[.int .i64 f] 3)).alloc (.cells #[.slice none 0 0, .slice none 0 0] 26)).alloc (.cells #[.int .i64 0] 32) := ⟨_, rfl⟩
  have B5 : Hid (Below w.heap.size w w5) := Lib.hid (by rw [hw5]; exact (((((Below.refl _ _).alloc (Nat.le_refl _) _).alloc (by simp) _).alloc (by simp; omega) _).alloc (by simp; omega) _).alloc (by simp; omega) _)
  have HW5 := Lib.hid hw5
  have S5 : Hid (w5.heap.size = w.heap.size + 5) := Lib.hid (by rw [hw5]; simp)
  have Q0 : Hid (Blk w5 w.heap.size 26 #[.slice o1 a.length c1, .slice o2 da.length c2]) := Lib.hid (by rw [hw5]; exact ((((Blk.new w _ _).alloc _).alloc _).alloc _).alloc _)
  have Q1 : Hid (Blk w5 (w.heap.size + 1) 26 #[.slice o3 b.length c3, .slice o4 db.length c4]) := Lib.hid (by rw [hw5]; exact (((blk_new1 w _ _ _).alloc _).alloc _).alloc _)
  have Q2 : Hid (Blk w5 (w.heap.size + 2) 3 #[.int .i64 f]) := Lib.hid (by
    rw [hw5]
    have q := Blk.new ((w.alloc (.cells #[.slice o1 a.length c1, .slice o2 da.length c2] 26)).alloc (.cells #[.slice o3 b.length c3, .slice o4 db.length c4] 26)) 3 #[.int .i64 f]
    rw [World.size_alloc, World.size_alloc] at q
    exact (q.alloc _).alloc _)
  have Q3 : Hid (Blk w5 (w.heap.size + 3) 26 #[.slice none 0 0, .slice none 0 0]) := Lib.hid (by
    rw [hw5]
    have q := Blk.new (((w.alloc (.cells #[.slice o1 a.length c1, .slice o2 da.length c2] 26)).alloc (.cells #[.slice o3 b.length c3, .slice o4 db.length c4] 26)).alloc (.cells #[.int .i64 f] 3)) 26 #[.slice none 0 0, .slice none 0 0]
    rw [World.size_alloc, World.size_alloc, World.size_alloc] at q
    exact q.alloc _)
  have Q4 : Hid (Blk w5 (w.heap.size + 4) 32 #[.int .i64 0]) := Lib.hid (by
    rw [hw5]
    have q := Blk.new ((((w.alloc (.cells #[.slice o1 a.length c1, .slice o2 da.length c2] 26)).alloc (.cells #[.slice o3 b.length c3, .slice o4 db.length c4] 26)).alloc (.cells #[.int .i64 f] 3)).alloc (.cells #[.slice none 0 0, .slice none 0 0] 26)) 32 #[.int .i64 0]
    rw [World.size_alloc, World.size_alloc, World.size_alloc, World.size_alloc] at q
    exact q)
  clear hw5
  have FK : Hid (∀ W, Below w5.heap.size w5 W → (W.cell? ⟨w.heap.size, 0, none⟩ = some (.slice o1 a.length c1) ∧ W.cell? ⟨w.heap.size, 1, none⟩ = some (.slice o2 da.length c2)) ∧ (W.cell? ⟨w.heap.size + 1, 0, none⟩ = some (.slice o3 b.length c3) ∧ W.cell? ⟨w.heap.size + 1, 1, none⟩ = some (.slice o4 db.length c4)) ∧ W.cell? ⟨w.heap.size + 2, 0, none⟩ = some (.int .i64 f)) := Lib.hid (fun W hW =>
    ⟨⟨(blk2 (Q0.out.below hW Q0.out.lt)).1, (blk2 (Q0.out.below hW Q0.out.lt)).2.1⟩, ⟨(blk2 (Q1.out.below hW Q1.out.lt)).1, (blk2 (Q1.out.below hW Q1.out.lt)).2.1⟩, (Q2.out.below hW Q2.out.lt).cell 0⟩)
  obtain ⟨⟨x0, x1⟩, ⟨x2, x3⟩, x4⟩ := FK.out _ (Below.refl _ _)
  have CA5 := Lib.hid (CA.out w5 B5.out)
  go_enter Try.func18, Try.ntmps18
  go_upto_region 1 with (fail)
  rw [← HW5.out]
  simp only [Nat.add_assoc, Nat.reduceAdd]
  go_step3
  go_wp2_with (first
  | (go_at_call 40; (with_reducible refine CA5.out.mono ?_); rintro e wa ⟨rfl, hb⟩; have Fa := Lib.hid hb; obtain ⟨⟨x0, x1⟩, ⟨x2, x3⟩, x4⟩ := FK.out _ Fa.out; clear hb; have Z3 := Q3.out.below Fa.out Q3.out.lt; have Z4 := Q4.out.below Fa.out Q4.out.lt; obtain ⟨p0, p1, pf0, pf1⟩ := blk2 Z3; have q0 := Z4.cell 0; have qf0 := Z4.frozen 0; clear Z3 Z4)
  | (go_at_call 40; (with_reducible refine (CB.out _ (B5.out.trans (Fa.out.mono B5.out.size))).mono ?_); rintro e wb ⟨rfl, hb⟩; have Fb := Lib.hid (Fa.out.trans (hb.mono Fa.out.size)); obtain ⟨⟨x0, x1⟩, ⟨x2, x3⟩, x4⟩ := FK.out _ Fb.out; clear hb)
  | (go_at_call 47; (with_reducible refine (CF.out _).mono ?_); rintro e w' ⟨rfl, rfl⟩)
  | (go_at_call 48; (with_reducible refine (CP.out _ (B5.out.trans (Fb.out.mono B5.out.size))).mono ?_); rintro e w6 ⟨rfl, hb⟩; have F6 := Lib.hid (Fb.out.trans (hb.mono Fb.out.size)); have F7 := Lib.hid (F6.out.alloc F6.out.size (.cells #[.slice none 0 0, .int .i64 0, .int .i64 0, .int .i64 0] 79)); obtain ⟨⟨x0, x1⟩, ⟨x2, x3⟩, x4⟩ := FK.out _ F6.out; clear hb))
  rw [Exit.noGoto_ret]
  refine bodyPost_ret (v := .tuple #[.agg #[.slice none 0 0, .slice none 0 0], .int .i64 1]) (by simp [results, Try.results18, go_sem, p0, p1, q0]) rfl ?_
  exact ⟨none, 0, none, 0, rfl, World.ownsRow_nil _ _ _ _, World.ownsRow_nil _ _ _ _, (((B5.out.trans (Fa.out.mono B5.out.size)).setCell (p := ⟨w.heap.size + 3, 0, none⟩) (Nat.le_add_right _ _) _).setCell (p := ⟨w.heap.size + 3, 1, none⟩) (Nat.le_add_right _ _) _).setCell (p := ⟨w.heap.size + 4, 0, none⟩) (Nat.le_add_right _ _) _⟩
set_option maxRecDepth 100000 in
set_option maxHeartbeats 8000000 in
theorem mul_nb (vs vd vt ve : Value) (a da b db : List Int) (f : Int) (w : World) (hs : Ld w vs a) (hd : Ld w vd da) (ht : Ld w vt b) (he : Ld w ve db) (l1 : a.length ≤ 17592186044416) (l2 : da.length ≤ 17592186044416) (l3 : b.length ≤ 17592186044416) (l4 : db.length ≤ 17592186044416) (ta : tnb a da = true) (tb : tnb b db = false) :
    Calls Try.prog 18 #[.agg #[vs, vd], .agg #[vt, ve], .int .i64 f] w (SomeT w 1 [] []) := by
  have CA := Lib.hid (fun (W : World) (hW : Below w.heap.size w W) => echeck_any vs vd a da W (hs.below hW) (hd.below hW) (by omega) (by omega))
  have CB := Lib.hid (fun (W : World) (hW : Below w.heap.size w W) => echeck_any vt ve b db W (ht.below hW) (he.below hW) (by omega) (by omega))
  have CF := Lib.hid (fun (W : World) => checkf_any f W)
  rw [ta, if_pos rfl] at CA
  rw [tb, if_neg (by decide)] at CB
  obtain ⟨o1, c1, rfl, _, _⟩ := id hs
  obtain ⟨o2, c2, rfl, _, _⟩ := id hd
  obtain ⟨o3, c3, rfl, _, _⟩ := id ht
  obtain ⟨o4, c4, rfl, _, _⟩ := id he
  clear hs hd ht he ta tb
  obtain ⟨w5, hw5⟩ : ∃ w5, w5 = ((((w.alloc (.cells #[.slice o1 a.length c1, .slice o2 da.length c2] 26)).alloc (.cells #[.slice o3 b.length c3, .slice o4 db.length c4] 26)).alloc (.cells #[.int .i64 f] 3)).alloc (.cells #[.slice none 0 0, .slice none 0 0] 26)).alloc (.cells #[.int .i64 0] 32) := ⟨_, rfl⟩
  have B5 : Hid (Below w.heap.size w w5) := Lib.hid (by rw [hw5]; exact (((((Below.refl _ _).alloc (Nat.le_refl _) _).alloc (by simp) _).alloc (by simp; omega) _).alloc (by simp; omega) _).alloc (by simp; omega) _)
  have HW5 := Lib.hid hw5
  have S5 : Hid (w5.heap.size = w.heap.size + 5) := Lib.hid (by rw [hw5]; simp)
  have Q0 : Hid (Blk w5 w.heap.size 26 #[.slice o1 a.length c1, .slice o2 da.length c2]) := Lib.hid (by rw [hw5]; exact ((((Blk.new w _ _).alloc _).alloc _).alloc _).alloc _)
  have Q1 : Hid (Blk w5 (w.heap.size + 1) 26 #[.slice o3 b.length c3, .slice o4 db.length c4]) := Lib.hid (by rw [hw5]; exact (((blk_new1 w _ _ _).alloc _).alloc _).alloc _)
  have Q2 : Hid (Blk w5 (w.heap.size + 2) 3 #[.int .i64 f]) := Lib.hid (by
    rw [hw5]
    have q := Blk.new ((w.alloc (.cells #[.slice o1 a.length c1, .slice o2 da.length c2] 26)).alloc (.cells #[.slice o3 b.length c3, .slice o4 db.length c4] 26)) 3 #[.int .i64 f]
    rw [World.size_alloc, World.size_alloc] at q
    exact (q.alloc _).alloc _)
  have Q3 : Hid (Blk w5 (w.heap.size + 3) 26 #[.slice none 0 0, .slice none 0 0]) := Lib.hid (by
    rw [hw5]
    have q := Blk.new (((w.alloc (.cells #[.slice o1 a.length c1, .slice o2 da.length c2] 26)).alloc (.cells #[.slice o3 b.length c3, .slice o4 db.length c4] 26)).alloc (.cells #[.int .i64 f] 3)) 26 #[.slice none 0 0, .slice none 0 0]
    rw [World.size_alloc, World.size_alloc, World.size_alloc] at q
    exact q.alloc _)
  have Q4 : Hid (Blk w5 (w.heap.size + 4) 32 #[.int .i64 0]) := Lib.hid (by
    rw [hw5]
    have q := Blk.new ((((w.alloc (.cells #[.slice o1 a.length c1, .slice o2 da.length c2] 26)).alloc (.cells #[.slice o3 b.length c3, .slice o4 db.length c4] 26)).alloc (.cells #[.int .i64 f] 3)).alloc (.cells #[.slice none 0 0, .slice none 0 0] 26)) 32 #[.int .i64 0]
    rw [World.size_alloc, World.size_alloc, World.size_alloc, World.size_alloc] at q
    exact q)
  clear hw5
  have FK : Hid (∀ W, Below w5.heap.size w5 W → (W.cell? ⟨w.heap.size, 0, none⟩ = some (.slice o1 a.length c1) ∧ W.cell? ⟨w.heap.size, 1, none⟩ = some (.slice o2 da.length c2)) ∧ (W.cell? ⟨w.heap.size + 1, 0, none⟩ = some (.slice o3 b.length c3) ∧ W.cell? ⟨w.heap.size + 1, 1, none⟩ = some (.slice o4 db.length c4)) ∧ W.cell? ⟨w.heap.size + 2, 0, none⟩ = some (.int .i64 f)) := Lib.hid (fun W hW =>
    ⟨⟨(blk2 (Q0.out.below hW Q0.out.lt)).1, (blk2 (Q0.out.below hW Q0.out.lt)).2.1⟩, ⟨(blk2 (Q1.out.below hW Q1.out.lt)).1, (blk2 (Q1.out.below hW Q1.out.lt)).2.1⟩, (Q2.out.below hW Q2.out.lt).cell 0⟩)
  obtain ⟨⟨x0, x1⟩, ⟨x2, x3⟩, x4⟩ := FK.out _ (Below.refl _ _)
  have CA5 := Lib.hid (CA.out w5 B5.out)
  go_enter Try.func18, Try.ntmps18
  go_upto_region 1 with (fail)
  rw [← HW5.out]
  simp only [Nat.add_assoc, Nat.reduceAdd]
  go_step3
  go_wp2_with (first
  | (go_at_call 40; (with_reducible refine CA5.out.mono ?_); rintro e wa ⟨rfl, hb⟩; have Fa := Lib.hid hb; obtain ⟨⟨x0, x1⟩, ⟨x2, x3⟩, x4⟩ := FK.out _ Fa.out; clear hb)
  | (go_at_call 40; (with_reducible refine (CB.out _ (B5.out.trans (Fa.out.mono B5.out.size))).mono ?_); rintro e wb ⟨rfl, hb⟩; have Fb := Lib.hid (Fa.out.trans (hb.mono Fa.out.size)); obtain ⟨⟨x0, x1⟩, ⟨x2, x3⟩, x4⟩ := FK.out _ Fb.out; clear hb; have Z3 := Q3.out.below Fb.out Q3.out.lt; have Z4 := Q4.out.below Fb.out Q4.out.lt; obtain ⟨p0, p1, pf0, pf1⟩ := blk2 Z3; have q0 := Z4.cell 0; have qf0 := Z4.frozen 0; clear Z3 Z4)
  | (go_at_call 47; (with_reducible refine (CF.out _).mono ?_); rintro e w' ⟨rfl, rfl⟩)
  | (go_at_call 48; (with_reducible refine (CP.out _ (B5.out.trans (Fb.out.mono B5.out.size))).mono ?_); rintro e w6 ⟨rfl, hb⟩; have F6 := Lib.hid (Fb.out.trans (hb.mono Fb.out.size)); have F7 := Lib.hid (F6.out.alloc F6.out.size (.cells #[.slice none 0 0, .int .i64 0, .int .i64 0, .int .i64 0] 79)); obtain ⟨⟨x0, x1⟩, ⟨x2, x3⟩, x4⟩ := FK.out _ F6.out; clear hb))
  rw [Exit.noGoto_ret]
  refine bodyPost_ret (v := .tuple #[.agg #[.slice none 0 0, .slice none 0 0], .int .i64 1]) (by simp [results, Try.results18, go_sem, p0, p1, q0]) rfl ?_
  exact ⟨none, 0, none, 0, rfl, World.ownsRow_nil _ _ _ _, World.ownsRow_nil _ _ _ _, (((B5.out.trans (Fb.out.mono B5.out.size)).setCell (p := ⟨w.heap.size + 3, 0, none⟩) (Nat.le_add_right _ _) _).setCell (p := ⟨w.heap.size + 3, 1, none⟩) (Nat.le_add_right _ _) _).setCell (p := ⟨w.heap.size + 4, 0, none⟩) (Nat.le_add_right _ _) _⟩
set_option maxRecDepth 100000 in
set_option maxHeartbeats 8000000 in
theorem mul_nf (vs vd vt ve : Value) (a da b db : List Int) (f : Int) (w : World) (hs : Ld w vs a) (hd : Ld w vd da) (ht : Ld w vt b) (he : Ld w ve db) (l1 : a.length ≤ 17592186044416) (l2 : da.length ≤ 17592186044416) (l3 : b.length ≤ 17592186044416) (l4 : db.length ≤ 17592186044416) (ta : tnb a da = true) (tb : tnb b db = true) (hf : fb f = false) :
    Calls Try.prog 18 #[.agg #[vs, vd], .agg #[vt, ve], .int .i64 f] w (SomeT w 1 [] []) := by
  have CA := Lib.hid (fun (W : World) (hW : Below w.heap.size w W) => echeck_any vs vd a da W (hs.below hW) (hd.below hW) (by omega) (by omega))
  have CB := Lib.hid (fun (W : World) (hW : Below w.heap.size w W) => echeck_any vt ve b db W (ht.below hW) (he.below hW) (by omega) (by omega))
  have CF := Lib.hid (fun (W : World) => checkf_any f W)
  rw [ta, if_pos rfl] at CA
  rw [tb, if_pos rfl] at CB
  rw [hf, if_neg (by decide)] at CF
  obtain ⟨o1, c1, rfl, _, _⟩ := id hs
  obtain ⟨o2, c2, rfl, _, _⟩ := id hd
  obtain ⟨o3, c3, rfl, _, _⟩ := id ht
  obtain ⟨o4, c4, rfl, _, _⟩ := id he
  clear hs hd ht he ta tb hf
  obtain ⟨w5, hw5⟩ : ∃ w5, w5 = ((((w.alloc (.cells #[.slice o1 a.length c1, .slice o2 da.length c2] 26)).alloc (.cells #[.slice o3 b.length c3, .slice o4 db.length c4] 26)).alloc (.cells #[.int .i64 f] 3)).alloc (.cells #[.slice none 0 0, .slice none 0 0] 26)).alloc (.cells #[.int .i64 0] 32) := ⟨_, rfl⟩
  have B5 : Hid (Below w.heap.size w w5) := Lib.hid (by rw [hw5]; exact (((((Below.refl _ _).alloc (Nat.le_refl _) _).alloc (by simp) _).alloc (by simp; omega) _).alloc (by simp; omega) _).alloc (by simp; omega) _)
  have HW5 := Lib.hid hw5
  have S5 : Hid (w5.heap.size = w.heap.size + 5) := Lib.hid (by rw [hw5]; simp)
  have Q0 : Hid (Blk w5 w.heap.size 26 #[.slice o1 a.length c1, .slice o2 da.length c2]) := Lib.hid (by rw [hw5]; exact ((((Blk.new w _ _).alloc _).alloc _).alloc _).alloc _)
  have Q1 : Hid (Blk w5 (w.heap.size + 1) 26 #[.slice o3 b.length c3, .slice o4 db.length c4]) := Lib.hid (by rw [hw5]; exact (((blk_new1 w _ _ _).alloc _).alloc _).alloc _)
  have Q2 : Hid (Blk w5 (w.heap.size + 2) 3 #[.int .i64 f]) := Lib.hid (by
    rw [hw5]
    have q := Blk.new ((w.alloc (.cells #[.slice o1 a.length c1, .slice o2 da.length c2] 26)).alloc (.cells #[.slice o3 b.length c3, .slice o4 db.length c4] 26)) 3 #[.int .i64 f]
    rw [World.size_alloc, World.size_alloc] at q
    exact (q.alloc _).alloc _)
  have Q3 : Hid (Blk w5 (w.heap.size + 3) 26 #[.slice none 0 0, .slice none 0 0]) := Lib.hid (by
    rw [hw5]
    have q := Blk.new (((w.alloc (.cells #[.slice o1 a.length c1, .slice o2 da.length c2] 26)).alloc (.cells #[.slice o3 b.length c3, .slice o4 db.length c4] 26)).alloc (.cells #[.int .i64 f] 3)) 26 #[.slice none 0 0, .slice none 0 0]
    rw [World.size_alloc, World.size_alloc, World.size_alloc] at q
    exact q.alloc _)
  have Q4 : Hid (Blk w5 (w.heap.size + 4) 32 #[.int .i64 0]) := Lib.hid (by
    rw [hw5]
    have q := Blk.new ((((w.alloc (.cells #[.slice o1 a.length c1, .slice o2 da.length c2] 26)).alloc (.cells #[.slice o3 b.length c3, .slice o4 db.length c4] 26)).alloc (.cells #[.int .i64 f] 3)).alloc (.cells #[.slice none 0 0, .slice none 0 0] 26)) 32 #[.int .i64 0]
    rw [World.size_alloc, World.size_alloc, World.size_alloc, World.size_alloc] at q
    exact q)
  clear hw5
  have FK : Hid (∀ W, Below w5.heap.size w5 W → (W.cell? ⟨w.heap.size, 0, none⟩ = some (.slice o1 a.length c1) ∧ W.cell? ⟨w.heap.size, 1, none⟩ = some (.slice o2 da.length c2)) ∧ (W.cell? ⟨w.heap.size + 1, 0, none⟩ = some (.slice o3 b.length c3) ∧ W.cell? ⟨w.heap.size + 1, 1, none⟩ = some (.slice o4 db.length c4)) ∧ W.cell? ⟨w.heap.size + 2, 0, none⟩ = some (.int .i64 f)) := Lib.hid (fun W hW =>
    ⟨⟨(blk2 (Q0.out.below hW Q0.out.lt)).1, (blk2 (Q0.out.below hW Q0.out.lt)).2.1⟩, ⟨(blk2 (Q1.out.below hW Q1.out.lt)).1, (blk2 (Q1.out.below hW Q1.out.lt)).2.1⟩, (Q2.out.below hW Q2.out.lt).cell 0⟩)
  obtain ⟨⟨x0, x1⟩, ⟨x2, x3⟩, x4⟩ := FK.out _ (Below.refl _ _)
  have CA5 := Lib.hid (CA.out w5 B5.out)
  go_enter Try.func18, Try.ntmps18
  go_upto_region 1 with (fail)
  rw [← HW5.out]
  simp only [Nat.add_assoc, Nat.reduceAdd]
  go_step3
  go_wp2_with (first
  | (go_at_call 40; (with_reducible refine CA5.out.mono ?_); rintro e wa ⟨rfl, hb⟩; have Fa := Lib.hid hb; obtain ⟨⟨x0, x1⟩, ⟨x2, x3⟩, x4⟩ := FK.out _ Fa.out; clear hb)
  | (go_at_call 40; (with_reducible refine (CB.out _ (B5.out.trans (Fa.out.mono B5.out.size))).mono ?_); rintro e wb ⟨rfl, hb⟩; have Fb := Lib.hid (Fa.out.trans (hb.mono Fa.out.size)); obtain ⟨⟨x0, x1⟩, ⟨x2, x3⟩, x4⟩ := FK.out _ Fb.out; clear hb; have Z3 := Q3.out.below Fb.out Q3.out.lt; have Z4 := Q4.out.below Fb.out Q4.out.lt; obtain ⟨p0, p1, pf0, pf1⟩ := blk2 Z3; have q0 := Z4.cell 0; have qf0 := Z4.frozen 0; clear Z3 Z4)
  | (go_at_call 47; (with_reducible refine (CF.out _).mono ?_); rintro e w' ⟨rfl, rfl⟩)
  | (go_at_call 48; (with_reducible refine (CP.out _ (B5.out.trans (Fb.out.mono B5.out.size))).mono ?_); rintro e w6 ⟨rfl, hb⟩; have F6 := Lib.hid (Fb.out.trans (hb.mono Fb.out.size)); have F7 := Lib.hid (F6.out.alloc F6.out.size (.cells #[.slice none 0 0, .int .i64 0, .int .i64 0, .int .i64 0] 79)); obtain ⟨⟨x0, x1⟩, ⟨x2, x3⟩, x4⟩ := FK.out _ F6.out; clear hb))
  rw [Exit.noGoto_ret]
  refine bodyPost_ret (v := .tuple #[.agg #[.slice none 0 0, .slice none 0 0], .int .i64 1]) (by simp [results, Try.results18, go_sem, p0, p1, q0]) rfl ?_
  exact ⟨none, 0, none, 0, rfl, World.ownsRow_nil _ _ _ _, World.ownsRow_nil _ _ _ _, (((B5.out.trans (Fb.out.mono B5.out.size)).setCell (p := ⟨w.heap.size + 3, 0, none⟩) (Nat.le_add_right _ _) _).setCell (p := ⟨w.heap.size + 3, 1, none⟩) (Nat.le_add_right _ _) _).setCell (p := ⟨w.heap.size + 4, 0, none⟩) (Nat.le_add_right _ _) _⟩
set_option maxRecDepth 100000 in
set_option maxHeartbeats 8000000 in
theorem mul_ns (vs vd vt ve : Value) (a da b db : List Int) (f : Int) (w : World) (hs : Ld w vs a) (hd : Ld w vd da) (ht : Ld w vt b) (he : Ld w ve db) (l1 : a.length ≤ 17592186044416) (l2 : da.length ≤ 17592186044416) (l3 : b.length ≤ 17592186044416) (l4 : db.length ≤ 17592186044416) (ta : tnb a da = true) (tb : tnb b db = true) (hf : fb f = true) (hm : mfit a b = false) :
    Calls Try.prog 18 #[.agg #[vs, vd], .agg #[vt, ve], .int .i64 f] w (SomeT w 2 [] []) := by
  have CA := Lib.hid (fun (W : World) (hW : Below w.heap.size w W) => echeck_any vs vd a da W (hs.below hW) (hd.below hW) (by omega) (by omega))
  have CB := Lib.hid (fun (W : World) (hW : Below w.heap.size w W) => echeck_any vt ve b db W (ht.below hW) (he.below hW) (by omega) (by omega))
  have CF := Lib.hid (fun (W : World) => checkf_any f W)
  have CP : Hid (∀ W, Below w.heap.size w W → Calls Try.prog 48 #[vs, vt] W (NoP W 2)) := Lib.hid (fun W hW => by
    have q := productof_any vs vt a b W (hs.below hW) (ht.below hW) (tnb_parts ta).1 (tnb_parts tb).1
    simp only [hm, Bool.false_eq_true, if_false] at q
    exact q)
  rw [ta, if_pos rfl] at CA
  rw [tb, if_pos rfl] at CB
  rw [hf, if_pos rfl] at CF
  obtain ⟨o1, c1, rfl, _, _⟩ := id hs
  obtain ⟨o2, c2, rfl, _, _⟩ := id hd
  obtain ⟨o3, c3, rfl, _, _⟩ := id ht
  obtain ⟨o4, c4, rfl, _, _⟩ := id he
  clear hs hd ht he ta tb hf hm
  obtain ⟨w5, hw5⟩ : ∃ w5, w5 = ((((w.alloc (.cells #[.slice o1 a.length c1, .slice o2 da.length c2] 26)).alloc (.cells #[.slice o3 b.length c3, .slice o4 db.length c4] 26)).alloc (.cells #[.int .i64 f] 3)).alloc (.cells #[.slice none 0 0, .slice none 0 0] 26)).alloc (.cells #[.int .i64 0] 32) := ⟨_, rfl⟩
  have B5 : Hid (Below w.heap.size w w5) := Lib.hid (by rw [hw5]; exact (((((Below.refl _ _).alloc (Nat.le_refl _) _).alloc (by simp) _).alloc (by simp; omega) _).alloc (by simp; omega) _).alloc (by simp; omega) _)
  have HW5 := Lib.hid hw5
  have S5 : Hid (w5.heap.size = w.heap.size + 5) := Lib.hid (by rw [hw5]; simp)
  have Q0 : Hid (Blk w5 w.heap.size 26 #[.slice o1 a.length c1, .slice o2 da.length c2]) := Lib.hid (by rw [hw5]; exact ((((Blk.new w _ _).alloc _).alloc _).alloc _).alloc _)
  have Q1 : Hid (Blk w5 (w.heap.size + 1) 26 #[.slice o3 b.length c3, .slice o4 db.length c4]) := Lib.hid (by rw [hw5]; exact (((blk_new1 w _ _ _).alloc _).alloc _).alloc _)
  have Q2 : Hid (Blk w5 (w.heap.size + 2) 3 #[.int .i64 f]) := Lib.hid (by
    rw [hw5]
    have q := Blk.new ((w.alloc (.cells #[.slice o1 a.length c1, .slice o2 da.length c2] 26)).alloc (.cells #[.slice o3 b.length c3, .slice o4 db.length c4] 26)) 3 #[.int .i64 f]
    rw [World.size_alloc, World.size_alloc] at q
    exact (q.alloc _).alloc _)
  have Q3 : Hid (Blk w5 (w.heap.size + 3) 26 #[.slice none 0 0, .slice none 0 0]) := Lib.hid (by
    rw [hw5]
    have q := Blk.new (((w.alloc (.cells #[.slice o1 a.length c1, .slice o2 da.length c2] 26)).alloc (.cells #[.slice o3 b.length c3, .slice o4 db.length c4] 26)).alloc (.cells #[.int .i64 f] 3)) 26 #[.slice none 0 0, .slice none 0 0]
    rw [World.size_alloc, World.size_alloc, World.size_alloc] at q
    exact q.alloc _)
  have Q4 : Hid (Blk w5 (w.heap.size + 4) 32 #[.int .i64 0]) := Lib.hid (by
    rw [hw5]
    have q := Blk.new ((((w.alloc (.cells #[.slice o1 a.length c1, .slice o2 da.length c2] 26)).alloc (.cells #[.slice o3 b.length c3, .slice o4 db.length c4] 26)).alloc (.cells #[.int .i64 f] 3)).alloc (.cells #[.slice none 0 0, .slice none 0 0] 26)) 32 #[.int .i64 0]
    rw [World.size_alloc, World.size_alloc, World.size_alloc, World.size_alloc] at q
    exact q)
  clear hw5
  have FK : Hid (∀ W, Below w5.heap.size w5 W → (W.cell? ⟨w.heap.size, 0, none⟩ = some (.slice o1 a.length c1) ∧ W.cell? ⟨w.heap.size, 1, none⟩ = some (.slice o2 da.length c2)) ∧ (W.cell? ⟨w.heap.size + 1, 0, none⟩ = some (.slice o3 b.length c3) ∧ W.cell? ⟨w.heap.size + 1, 1, none⟩ = some (.slice o4 db.length c4)) ∧ W.cell? ⟨w.heap.size + 2, 0, none⟩ = some (.int .i64 f)) := Lib.hid (fun W hW =>
    ⟨⟨(blk2 (Q0.out.below hW Q0.out.lt)).1, (blk2 (Q0.out.below hW Q0.out.lt)).2.1⟩, ⟨(blk2 (Q1.out.below hW Q1.out.lt)).1, (blk2 (Q1.out.below hW Q1.out.lt)).2.1⟩, (Q2.out.below hW Q2.out.lt).cell 0⟩)
  obtain ⟨⟨x0, x1⟩, ⟨x2, x3⟩, x4⟩ := FK.out _ (Below.refl _ _)
  have CA5 := Lib.hid (CA.out w5 B5.out)
  go_enter Try.func18, Try.ntmps18
  go_upto_region 1 with (fail)
  rw [← HW5.out]
  simp only [Nat.add_assoc, Nat.reduceAdd]
  go_step3
  go_wp2_with (first
  | (go_at_call 40; (with_reducible refine CA5.out.mono ?_); rintro e wa ⟨rfl, hb⟩; have Fa := Lib.hid hb; obtain ⟨⟨x0, x1⟩, ⟨x2, x3⟩, x4⟩ := FK.out _ Fa.out; clear hb)
  | (go_at_call 40; (with_reducible refine (CB.out _ (B5.out.trans (Fa.out.mono B5.out.size))).mono ?_); rintro e wb ⟨rfl, hb⟩; have Fb := Lib.hid (Fa.out.trans (hb.mono Fa.out.size)); obtain ⟨⟨x0, x1⟩, ⟨x2, x3⟩, x4⟩ := FK.out _ Fb.out; clear hb)
  | (go_at_call 47; (with_reducible refine (CF.out _).mono ?_); rintro e w' ⟨rfl, rfl⟩)
  | (go_at_call 48; (with_reducible refine (CP.out _ (B5.out.trans (Fb.out.mono B5.out.size))).mono ?_); rintro e w6 ⟨rfl, hb⟩; have F6 := Lib.hid (Fb.out.trans (hb.mono Fb.out.size)); have F7 := Lib.hid (F6.out.alloc F6.out.size (.cells #[.slice none 0 0, .int .i64 0, .int .i64 0, .int .i64 0] 79)); obtain ⟨⟨x0, x1⟩, ⟨x2, x3⟩, x4⟩ := FK.out _ F6.out; clear hb; have Z3 := Q3.out.below F7.out Q3.out.lt; have Z4 := Q4.out.below F7.out Q4.out.lt; obtain ⟨p0, p1, pf0, pf1⟩ := blk2 Z3; have q0 := Z4.cell 0; have qf0 := Z4.frozen 0; clear Z3 Z4))
  rw [Exit.noGoto_ret]
  refine bodyPost_ret (v := .tuple #[.agg #[.slice none 0 0, .slice none 0 0], .int .i64 2]) (by simp [results, Try.results18, go_sem, p0, p1, q0]) rfl ?_
  exact ⟨none, 0, none, 0, rfl, World.ownsRow_nil _ _ _ _, World.ownsRow_nil _ _ _ _, (((B5.out.trans (F7.out.mono B5.out.size)).setCell (p := ⟨w.heap.size + 3, 0, none⟩) (Nat.le_add_right _ _) _).setCell (p := ⟨w.heap.size + 3, 1, none⟩) (Nat.le_add_right _ _) _).setCell (p := ⟨w.heap.size + 4, 0, none⟩) (Nat.le_add_right _ _) _⟩
set_option maxRecDepth 100000 in
set_option maxHeartbeats 8000000 in
theorem mul_nm (vs vd vt ve : Value) (a da b db : List Int) (f : Int) (w : World) (hs : Ld w vs a) (hd : Ld w vd da) (ht : Ld w vt b) (he : Ld w ve db) (l1 : a.length ≤ 17592186044416) (l2 : da.length ≤ 17592186044416) (l3 : b.length ≤ 17592186044416) (l4 : db.length ≤ 17592186044416) (ta : tnb a da = true) (tb : tnb b db = true) (hf : fb f = true) (hm : mfit a b = true) (hh : may (msh a b) = false) :
    Calls Try.prog 18 #[.agg #[vs, vd], .agg #[vt, ve], .int .i64 f] w (SomeT w 5 [] []) := by
  have CA := Lib.hid (fun (W : World) (hW : Below w.heap.size w W) => echeck_any vs vd a da W (hs.below hW) (hd.below hW) (by omega) (by omega))
  have CB := Lib.hid (fun (W : World) (hW : Below w.heap.size w W) => echeck_any vt ve b db W (ht.below hW) (he.below hW) (by omega) (by omega))
  have CF := Lib.hid (fun (W : World) => checkf_any f W)
  have CP : Hid (∀ W, Below w.heap.size w W → Calls Try.prog 48 #[vs, vt] W (NoP W 5)) := Lib.hid (fun W hW => by
    have q := productof_any vs vt a b W (hs.below hW) (ht.below hW) (tnb_parts ta).1 (tnb_parts tb).1
    simp only [hm, hh, if_true, Bool.false_eq_true, if_false] at q
    exact q)
  rw [ta, if_pos rfl] at CA
  rw [tb, if_pos rfl] at CB
  rw [hf, if_pos rfl] at CF
  obtain ⟨o1, c1, rfl, _, _⟩ := id hs
  obtain ⟨o2, c2, rfl, _, _⟩ := id hd
  obtain ⟨o3, c3, rfl, _, _⟩ := id ht
  obtain ⟨o4, c4, rfl, _, _⟩ := id he
  clear hs hd ht he ta tb hf hm hh
  obtain ⟨w5, hw5⟩ : ∃ w5, w5 = ((((w.alloc (.cells #[.slice o1 a.length c1, .slice o2 da.length c2] 26)).alloc (.cells #[.slice o3 b.length c3, .slice o4 db.length c4] 26)).alloc (.cells #[.int .i64 f] 3)).alloc (.cells #[.slice none 0 0, .slice none 0 0] 26)).alloc (.cells #[.int .i64 0] 32) := ⟨_, rfl⟩
  have B5 : Hid (Below w.heap.size w w5) := Lib.hid (by rw [hw5]; exact (((((Below.refl _ _).alloc (Nat.le_refl _) _).alloc (by simp) _).alloc (by simp; omega) _).alloc (by simp; omega) _).alloc (by simp; omega) _)
  have HW5 := Lib.hid hw5
  have S5 : Hid (w5.heap.size = w.heap.size + 5) := Lib.hid (by rw [hw5]; simp)
  have Q0 : Hid (Blk w5 w.heap.size 26 #[.slice o1 a.length c1, .slice o2 da.length c2]) := Lib.hid (by rw [hw5]; exact ((((Blk.new w _ _).alloc _).alloc _).alloc _).alloc _)
  have Q1 : Hid (Blk w5 (w.heap.size + 1) 26 #[.slice o3 b.length c3, .slice o4 db.length c4]) := Lib.hid (by rw [hw5]; exact (((blk_new1 w _ _ _).alloc _).alloc _).alloc _)
  have Q2 : Hid (Blk w5 (w.heap.size + 2) 3 #[.int .i64 f]) := Lib.hid (by
    rw [hw5]
    have q := Blk.new ((w.alloc (.cells #[.slice o1 a.length c1, .slice o2 da.length c2] 26)).alloc (.cells #[.slice o3 b.length c3, .slice o4 db.length c4] 26)) 3 #[.int .i64 f]
    rw [World.size_alloc, World.size_alloc] at q
    exact (q.alloc _).alloc _)
  have Q3 : Hid (Blk w5 (w.heap.size + 3) 26 #[.slice none 0 0, .slice none 0 0]) := Lib.hid (by
    rw [hw5]
    have q := Blk.new (((w.alloc (.cells #[.slice o1 a.length c1, .slice o2 da.length c2] 26)).alloc (.cells #[.slice o3 b.length c3, .slice o4 db.length c4] 26)).alloc (.cells #[.int .i64 f] 3)) 26 #[.slice none 0 0, .slice none 0 0]
    rw [World.size_alloc, World.size_alloc, World.size_alloc] at q
    exact q.alloc _)
  have Q4 : Hid (Blk w5 (w.heap.size + 4) 32 #[.int .i64 0]) := Lib.hid (by
    rw [hw5]
    have q := Blk.new ((((w.alloc (.cells #[.slice o1 a.length c1, .slice o2 da.length c2] 26)).alloc (.cells #[.slice o3 b.length c3, .slice o4 db.length c4] 26)).alloc (.cells #[.int .i64 f] 3)).alloc (.cells #[.slice none 0 0, .slice none 0 0] 26)) 32 #[.int .i64 0]
    rw [World.size_alloc, World.size_alloc, World.size_alloc, World.size_alloc] at q
    exact q)
  clear hw5
  have FK : Hid (∀ W, Below w5.heap.size w5 W → (W.cell? ⟨w.heap.size, 0, none⟩ = some (.slice o1 a.length c1) ∧ W.cell? ⟨w.heap.size, 1, none⟩ = some (.slice o2 da.length c2)) ∧ (W.cell? ⟨w.heap.size + 1, 0, none⟩ = some (.slice o3 b.length c3) ∧ W.cell? ⟨w.heap.size + 1, 1, none⟩ = some (.slice o4 db.length c4)) ∧ W.cell? ⟨w.heap.size + 2, 0, none⟩ = some (.int .i64 f)) := Lib.hid (fun W hW =>
    ⟨⟨(blk2 (Q0.out.below hW Q0.out.lt)).1, (blk2 (Q0.out.below hW Q0.out.lt)).2.1⟩, ⟨(blk2 (Q1.out.below hW Q1.out.lt)).1, (blk2 (Q1.out.below hW Q1.out.lt)).2.1⟩, (Q2.out.below hW Q2.out.lt).cell 0⟩)
  obtain ⟨⟨x0, x1⟩, ⟨x2, x3⟩, x4⟩ := FK.out _ (Below.refl _ _)
  have CA5 := Lib.hid (CA.out w5 B5.out)
  go_enter Try.func18, Try.ntmps18
  go_upto_region 1 with (fail)
  rw [← HW5.out]
  simp only [Nat.add_assoc, Nat.reduceAdd]
  go_step3
  go_wp2_with (first
  | (go_at_call 40; (with_reducible refine CA5.out.mono ?_); rintro e wa ⟨rfl, hb⟩; have Fa := Lib.hid hb; obtain ⟨⟨x0, x1⟩, ⟨x2, x3⟩, x4⟩ := FK.out _ Fa.out; clear hb)
  | (go_at_call 40; (with_reducible refine (CB.out _ (B5.out.trans (Fa.out.mono B5.out.size))).mono ?_); rintro e wb ⟨rfl, hb⟩; have Fb := Lib.hid (Fa.out.trans (hb.mono Fa.out.size)); obtain ⟨⟨x0, x1⟩, ⟨x2, x3⟩, x4⟩ := FK.out _ Fb.out; clear hb)
  | (go_at_call 47; (with_reducible refine (CF.out _).mono ?_); rintro e w' ⟨rfl, rfl⟩)
  | (go_at_call 48; (with_reducible refine (CP.out _ (B5.out.trans (Fb.out.mono B5.out.size))).mono ?_); rintro e w6 ⟨rfl, hb⟩; have F6 := Lib.hid (Fb.out.trans (hb.mono Fb.out.size)); have F7 := Lib.hid (F6.out.alloc F6.out.size (.cells #[.slice none 0 0, .int .i64 0, .int .i64 0, .int .i64 0] 79)); obtain ⟨⟨x0, x1⟩, ⟨x2, x3⟩, x4⟩ := FK.out _ F6.out; clear hb; have Z3 := Q3.out.below F7.out Q3.out.lt; have Z4 := Q4.out.below F7.out Q4.out.lt; obtain ⟨p0, p1, pf0, pf1⟩ := blk2 Z3; have q0 := Z4.cell 0; have qf0 := Z4.frozen 0; clear Z3 Z4))
  rw [Exit.noGoto_ret]
  refine bodyPost_ret (v := .tuple #[.agg #[.slice none 0 0, .slice none 0 0], .int .i64 5]) (by simp [results, Try.results18, go_sem, p0, p1, q0]) rfl ?_
  exact ⟨none, 0, none, 0, rfl, World.ownsRow_nil _ _ _ _, World.ownsRow_nil _ _ _ _, (((B5.out.trans (F7.out.mono B5.out.size)).setCell (p := ⟨w.heap.size + 3, 0, none⟩) (Nat.le_add_right _ _) _).setCell (p := ⟨w.heap.size + 3, 1, none⟩) (Nat.le_add_right _ _) _).setCell (p := ⟨w.heap.size + 4, 0, none⟩) (Nat.le_add_right _ _) _⟩
end Go.Proofs.Ytlidkeabadioeaa
namespace Go.Proofs.Ytlidkeabadioeaa
open Go Go.RowKit Go.Shelf

/-- The axes in order, the last two changed. -/
def ltc (n : Nat) : List Int := ((alx n).set (n - 2) ((n : Int) - 1)).set (n - 1) ((n : Int) - 2)
theorem ltc_len (n : Nat) : (ltc n).length = n := by simp [ltc, alx_len]
set_option maxRecDepth 100000 in
set_option maxHeartbeats 4000000 in
theorem ltc_any (n : Nat) (w : World) (h2 : 2 ≤ n) (h4 : n ≤ 4) :
    Calls Try.prog 43 #[.int .i64 (n : Nat)] w fun e w' => e = .returned (.slice (some ⟨w.heap.size, 0, none⟩) n n) ∧ Blk w' w.heap.size 3 (ints (ltc n)).toArray ∧ Below w.heap.size w w' := by
  obtain ⟨i0, hi0, hz0, hz1, hz2⟩ := info_parts infoI
  have mk : (Instr.makeSlice 23 (.int .i64 (n : Int)) (.int .i64 (n : Int))).run Try.prog w = .ok (.slice (some ⟨w.heap.size, 0, none⟩) n n) (w.alloc (.cells (ints (List.replicate n 0)).toArray 3)) := by
    have := run_make (w := w) 23 3 i0 (.int .i64 0) Try.underlying23 hi0 hz0 .i64 .i64 n n (by omega) (by omega) (by rw [hz2]; omega) (by omega)
    rw [this, hz1, ← made_ints]; simp [Value.cells]
  go_enter Try.func43, Try.ntmps43
  go_wp2
  clear mk
  go_loopw [9] (fun s9 wQ => ∃ (k : Nat) (L : List Int), k ≤ n ∧ s9 = .int .i64 k ∧ Blk wQ w.heap.size 3 (ints L).toArray ∧ Hid (L.length = n ∧ ∀ j, j < k → L.getD j 0 = (j : Int)) ∧ Hid (Below w.heap.size w wQ)) (fun s9 _ => n - (intOf s9).toNat)
  case atStart => exact ⟨0, List.replicate n 0, Nat.zero_le _, rfl, Blk.new _ _ _, ⟨by simp, fun j hj => absurd hj (Nat.not_lt_zero _)⟩, Lib.hid ((Below.refl _ _).alloc (Nat.le_refl _) _)⟩
  case round =>
    obtain ⟨k, L, hk, rfl, hb, HL, HB⟩ := hrel
    by_cases hlt : k < n
    · have kc := hb.cell k
      rw [ints_at (by have := HL.out.1; omega)] at kc
      have kf := hb.frozen k
      generalize L.getD k 0 = l0 at kc
      have R : Hid ((L.set k (k : Int)).length = n ∧ ∀ j, j < k + 1 → (L.set k (k : Int)).getD j 0 = (j : Int)) := Lib.hid ⟨by rw [List.length_set]; exact HL.out.1, fun j hj => by
        by_cases e : k = j
        · subst e; rw [set_getD_self (by have := HL.out.1; omega)]
        · rw [set_getD_ne e]; exact HL.out.2 j (by omega)⟩
      have H1 := Lib.hid (HB.out.setCell (p := ⟨w.heap.size, k, none⟩) (Nat.le_refl _) (.int .i64 (k : Int)))
      have H2 := hb.put k (k : Int)
      go_wp2
      exact ⟨⟨k + 1, L.set k (k : Int), by omega, by go_num, H2, R, H1⟩, by simp [intOf]; omega⟩
    · obtain rfl : k = n := by omega
      have HE : L = alx k := ext_getD (by rw [alx_len]; exact HL.out.1) (fun j hj => by rw [HL.out.2 j (by have := HL.out.1; omega)]; simp [alx, List.getD, show j < k by have := HL.out.1; omega])
      subst HE
      clear HL hlt hk
      obtain rfl | rfl | rfl : k = 2 ∨ k = 3 ∨ k = 4 := by omega
      · clear h2 h4
        have E0 : alx 2 = [(0 : Int), (1 : Int)] := by decide
        rw [E0] at hb
        clear E0
        have k1 := hb.cell 0
        rw [ints_at (by decide)] at k1
        have f1 := hb.frozen 0
        have h3 := hb.put 0 (1 : Int)
        have k2 := h3.cell 1
        rw [ints_at (by decide)] at k2
        have f2 := h3.frozen 1
        have H5 := Lib.hid (h3.put 1 (0 : Int))
        have H6 := Lib.hid ((HB.out.setCell (p := ⟨w.heap.size, 0, none⟩) (Nat.le_refl _) (.int .i64 (1 : Int))).setCell (p := ⟨w.heap.size, 1, none⟩) (Nat.le_refl _) (.int .i64 (0 : Int)))
        generalize List.getD _ _ _ = l1 at k1
        generalize List.getD _ _ _ = l2 at k2
        clear hb h3
        go_wp2
        have H7 := H5.out
        rw [show ([(0 : Int), (1 : Int)].set 0 1).set 1 0 = ltc 2 by decide] at H7
        refine bodyPost_ret (results_tmp rfl _ _ _) rfl ?_
        exact ⟨rfl, H7, H6.out⟩
      · clear h2 h4
        have E0 : alx 3 = [(0 : Int), (1 : Int), (2 : Int)] := by decide
        rw [E0] at hb
        clear E0
        have k1 := hb.cell 1
        rw [ints_at (by decide)] at k1
        have f1 := hb.frozen 1
        have h3 := hb.put 1 (2 : Int)
        have k2 := h3.cell 2
        rw [ints_at (by decide)] at k2
        have f2 := h3.frozen 2
        have H5 := Lib.hid (h3.put 2 (1 : Int))
        have H6 := Lib.hid ((HB.out.setCell (p := ⟨w.heap.size, 1, none⟩) (Nat.le_refl _) (.int .i64 (2 : Int))).setCell (p := ⟨w.heap.size, 2, none⟩) (Nat.le_refl _) (.int .i64 (1 : Int)))
        generalize List.getD _ _ _ = l1 at k1
        generalize List.getD _ _ _ = l2 at k2
        clear hb h3
        go_wp2
        have H7 := H5.out
        rw [show ([(0 : Int), (1 : Int), (2 : Int)].set 1 2).set 2 1 = ltc 3 by decide] at H7
        refine bodyPost_ret (results_tmp rfl _ _ _) rfl ?_
        exact ⟨rfl, H7, H6.out⟩
      · clear h2 h4
        have E0 : alx 4 = [(0 : Int), (1 : Int), (2 : Int), (3 : Int)] := by decide
        rw [E0] at hb
        clear E0
        have k1 := hb.cell 2
        rw [ints_at (by decide)] at k1
        have f1 := hb.frozen 2
        have h3 := hb.put 2 (3 : Int)
        have k2 := h3.cell 3
        rw [ints_at (by decide)] at k2
        have f2 := h3.frozen 3
        have H5 := Lib.hid (h3.put 3 (2 : Int))
        have H6 := Lib.hid ((HB.out.setCell (p := ⟨w.heap.size, 2, none⟩) (Nat.le_refl _) (.int .i64 (3 : Int))).setCell (p := ⟨w.heap.size, 3, none⟩) (Nat.le_refl _) (.int .i64 (2 : Int)))
        generalize List.getD _ _ _ = l1 at k1
        generalize List.getD _ _ _ = l2 at k2
        clear hb h3
        go_wp2
        have H7 := H5.out
        rw [show ([(0 : Int), (1 : Int), (2 : Int), (3 : Int)].set 2 3).set 3 2 = ltc 4 by decide] at H7
        refine bodyPost_ret (results_tmp rfl _ _ _) rfl ?_
        exact ⟨rfl, H7, H6.out⟩
end Go.Proofs.Ytlidkeabadioeaa
namespace Go.Proofs.Ytlidkeabadioeaa

/-- Where the n-th index stands. -/
def plat (sh st : List Int) (off : Int) (n : Nat) : Int := off + dot st (atl sh (n : Int))
/-- Does an index before stand there, too? -/
def hit (sh st : List Int) (off : Int) (k : Nat) : Bool := (List.range k).any fun i => decide (plat sh st off i = plat sh st off k)
/-- Do two indexes stand at one place? -/
def dup (sh st : List Int) (off : Int) (N : Nat) : Bool := (List.range N).any fun k => hit sh st off k
theorem dup_yes {sh st : List Int} {off : Int} {N k : Nat} (hk : k < N) (h : hit sh st off k = true) : dup sh st off N = true := List.any_eq_true.2 ⟨k, List.mem_range.2 hk, h⟩
theorem dup_no {sh st : List Int} {off : Int} {N : Nat} (h : ∀ k, k < N → hit sh st off k = false) : dup sh st off N = false := by
  cases e : dup sh st off N with
  | false => rfl
  | true =>
    obtain ⟨k, hk, h2⟩ := List.any_eq_true.1 e
    rw [h k (List.mem_range.1 hk)] at h2
    cases h2
/-- The words, k of them laid. -/
def lys (sh st : List Int) (off : Int) (ls tds : List Int) : Nat → List Int
  | 0 => ls
  | k + 1 => (lys sh st off ls tds k).set (plat sh st off k).toNat (tds.getD k 0)
theorem lys_len (sh st : List Int) (off : Int) (ls tds : List Int) : ∀ k, (lys sh st off ls tds k).length = ls.length
  | 0 => rfl
  | k + 1 => by unfold lys; rw [List.length_set, lys_len sh st off ls tds k]
theorem lys_step {sh st : List Int} {off : Int} {ls tds : List Int} {k P : Nat} (h : plat sh st off k = (P : Int)) : lys sh st off ls tds (k + 1) = (lys sh st off ls tds k).set P (tds.getD k 0) := by
  show List.set _ _ _ = _
  rw [h, Int.toNat_natCast]
/-- Which places are taken, by k indexes. -/
def tks (sh st : List Int) (off : Int) (m : Nat) : Nat → List Bool
  | 0 => List.replicate m false
  | k + 1 => (tks sh st off m k).set (plat sh st off k).toNat true
theorem tks_len (sh st : List Int) (off : Int) (m : Nat) : ∀ k, (tks sh st off m k).length = m
  | 0 => by simp [tks]
  | k + 1 => by unfold tks; rw [List.length_set, tks_len sh st off m k]
theorem tks_step {sh st : List Int} {off : Int} {m k P : Nat} (h : plat sh st off k = (P : Int)) : tks sh st off m (k + 1) = (tks sh st off m k).set P true := by
  show List.set _ _ _ = _
  rw [h, Int.toNat_natCast]
theorem tks_at {sh st : List Int} {off : Int} {m Q : Nat} (hQ : Q < m) : ∀ k, (∀ i, i < k → 0 ≤ plat sh st off i) → (tks sh st off m k).getD Q false = (List.range k).any fun i => decide (plat sh st off i = (Q : Int))
  | 0, _ => by simp [tks, List.getD, hQ]
  | k + 1, h => by
    have ih := tks_at (sh := sh) (st := st) (off := off) hQ k (fun i hi => h i (by omega))
    have h0 := h k (by omega)
    obtain ⟨P, hP⟩ := Int.eq_ofNat_of_zero_le h0
    rw [tks_step hP, List.range_succ, List.any_append, ← ih]
    simp only [List.any_cons, List.any_nil, Bool.or_false, hP]
    rw [List.getD_eq_getElem?_getD, List.getD_eq_getElem?_getD, List.getElem?_set]
    by_cases e : P = Q
    · subst e
      rw [if_pos rfl, if_pos (by rw [tks_len]; exact hQ)]
      simp
    · rw [if_neg e]
      have : ¬ (P : Int) = (Q : Int) := by omega
      simp [this]
theorem tks_hit {sh st : List Int} {off : Int} {m k P : Nat} (hk : ∀ i, i < k → 0 ≤ plat sh st off i) (h : plat sh st off k = (P : Int)) (hP : P < m) : (tks sh st off m k).getD P false = hit sh st off k := by
  rw [tks_at hP k hk]
  unfold hit
  rw [h]
/-- What is laid where it lay changes nothing. -/
theorem lys_same {sh st : List Int} {off : Int} {ls tds : List Int} {N : Nat} (h : ∀ k, k < N → ∃ P : Nat, plat sh st off k = (P : Int) ∧ tds.getD k 0 = ls.getD P 0) : ∀ k, k ≤ N → lys sh st off ls tds k = ls
  | 0, _ => rfl
  | k + 1, hk => by
    obtain ⟨P, hP, hv⟩ := h k (by omega)
    rw [lys_step hP, lys_same h k (by omega), hv]
    apply List.ext_getElem
    · simp
    · intro j h1 h2
      rw [List.getElem_set]
      split
      · rename_i e
        subst e
        simp [List.getD, List.getElem?_eq_getElem h2]
      · rfl
end Go.Proofs.Ytlidkeabadioeaa
namespace Go.Proofs.Ytlidkeabadioeaa
open Go.RowKit

/-- Words in new memory. -/
def SomeWd (w : World) (ls : List Int) (e : Ending) (w' : World) : Prop := ∃ o c, e = .returned (.slice o ls.length c) ∧ w'.ownsRow w.heap.size 2 1 (.slice o ls.length c) ls.length (ints ls) ∧ Ld w' (.slice o ls.length c) ls ∧ Below w.heap.size w w'
end Go.Proofs.Ytlidkeabadioeaa
namespace Go.Proofs.Ytlidkeabadioeaa
open Go.RowKit


end Go.Proofs.Ytlidkeabadioeaa
namespace Go.Proofs.Ytlidkeabadioeaa
open Go.RowKit



end Go.Proofs.Ytlidkeabadioeaa
namespace Go.Proofs.Ytlidkeabadioeaa
open Go.RowKit


theorem Ov.kept2 {w w' : World} {base : Nat} {vs vt : Value} {sh st : List Int} (h : Ov w base vs vt sh st) (hg : w.grownBy w' vs.ownBlock) : w'.ownsRow base 3 1 vt st.length (ints st) := h.2.1.kept hg (by
  cases e : vt.ownBlock with
  | none => exact .inl rfl
  | some g => exact .inr (fun e2 => h.2.2 g e2.symm e))
theorem own_len {w : World} {base n : Nat} {e : TypeId} {v : Value} {xs : List Value} (h : w.ownsRow base e 1 v n xs) : ∃ o c, v = .slice o n c := by
  rcases h.2 with ⟨rfl, rfl⟩ | ⟨g, cap, cur, rfl, _⟩
  · exact ⟨_, _, rfl⟩
  · exact ⟨_, _, rfl⟩
theorem own_put2 {w : World} {base g c i n : Nat} {ls : List Int} {e : TypeId} (h : w.ownsRow base e 1 (.slice (some ⟨g, 0, none⟩) n c) n (ints ls)) (hl : ls.length = n) (hi : i < n) (v : Int) : (w.setCell ⟨g, i, none⟩ (.int .i64 v)).ownsRow base e 1 (.slice (some ⟨g, 0, none⟩) n c) n (ints (ls.set i v)) := by
  subst hl
  have := own_put h hi v
  rwa [List.length_set] at this


/-- Views' boxes are kept. -/
def KB (w w' : World) : Prop := ∀ (B : Nat) (cs : Array Value), Blk w B 69 cs → Blk w' B 69 cs
theorem KB.trans {a b c : World} (h : KB a b) (k : KB b c) : KB a c := fun B cs hB => k B cs (h B cs hB)
theorem kb_below {w w' : World} (h : Below w.heap.size w w') : KB w w' := fun _ _ hB => hB.below h hB.lt
theorem kb_row {w w' : World} {base n : Nat} {v : Value} {xs : List Value} (h : w.ownsRow base 3 1 v n xs) (hg : w.grownBy w' v.ownBlock) : KB w w' := fun _ _ hB => hB.kept hg (fun e => own_not_box h hB e.symm)



/-- A list, where there is no error, in memory. -/
theorem ov_ld {w : World} {base : Nat} {vs vt : Value} {sh st : List Int} (h : Ov w base vs vt sh st) : Ld w vs sh ∧ Ld w vt st := by
  obtain ⟨_, _, rfl, h1⟩ := Ld.of_owns h.1
  obtain ⟨_, _, rfl, h2⟩ := Ld.of_owns h.2.1
  exact ⟨h1, h2⟩




end Go.Proofs.Ytlidkeabadioeaa
namespace Go.Proofs.Ytlidkeabadioeaa
open Go.RowKit


set_option maxRecDepth 100000 in
set_option maxHeartbeats 4000000 in
theorem copywords_any (v : Value) (ls : List Int) (w : World) (h : Ld w v ls) (ll : ls.length ≤ 17592186044000) :
    Calls Try.prog 46 #[v] w (SomeWd w ls) := by
  obtain ⟨i0, hi0, hz0, hz1, hz2⟩ := info_parts infoW
  obtain ⟨o, c, rfl, _, hx⟩ := h
  have HX := Lib.hid hx
  clear hx
  go_enter Try.func46, Try.ntmps46
  go_wp2
  go_loopw [3, 4] (fun s3 s4 wr => ∃ k : Nat, k ≤ ls.length ∧ s4 = .int .i64 k ∧ Hid (wr.ownsRow w.heap.size 2 1 s3 k (ints (ls.take k))) ∧ Below w.heap.size w wr) (fun _ s4 _ => ls.length - (intOf s4).toNat)
  case atStart => exact ⟨0, Nat.zero_le _, rfl, World.ownsRow_nil _ _ _ _, Below.refl _ _⟩
  case round =>
    obtain ⟨k, hk, rfl, HO, hB⟩ := hrel
    have hBs := hB.size
    by_cases hlt : k < ls.length
    · obtain ⟨b, f, rfl, hb, hc⟩ := HX.out k hlt
      have hc' : wr.cell? ⟨b, f + k, none⟩ = some (.int .i64 (ls.getD k 0)) := (hB.cell (p := ⟨b, f + k, none⟩) hb).trans hc
      have E : Hid (ints (ls.take (k + 1)) = ints (ls.take k) ++ [.int .i64 (ls.getD k 0)]) := by
        unfold Hid ints
        rw [List.take_succ_eq_append_getElem hlt, List.map_append]
        simp [List.getD, List.getElem?_eq_getElem hlt]
      clear hc
      generalize ls.getD k 0 = x at *
      go_wp2_with (at_builtin; refine wpList_append_own _ rfl _ _ 24 rfl w.heap.size 2 i0 (.int .i64 0) 1 8 Try.underlying24 hi0 hz0 hz1 hz2 rfl (by decide) _ k (ints (ls.take k)) rfl (HO.out.alloc _) ⟨wr.heap.size, 0, none⟩ 1 1 [.int .i64 x] rfl rfl ?c1 ?c2 ?c3 ?c4 ?c5 ?_)
      case c1 => exact (cell_one_new _ _ _)
      case c2 => simp [Value.oneCell']
      case c3 => unfold maxLen; omega
      case c4 => omega
      case c5 => simp; omega
      intro v' w9 hown1 hgrow _
      have hB9 : Below w.heap.size w w9 := (hB.alloc hBs _).grown hgrow (by simp; omega) (fun j hj => (HO.out.lt j hj).1)
      have h1 : Hid (w9.ownsRow w.heap.size 2 1 v' (k + 1) (ints (ls.take (k + 1)))) := by
        rw [Hid, E.out]; exact hown1
      clear hown1 hgrow
      go_wp2
      exact ⟨⟨k + 1, by omega, by go_num, h1, hB9⟩, by simp [intOf]; omega⟩
    · obtain rfl : k = ls.length := by omega
      have h1 := HO.out
      rw [List.take_length] at h1
      obtain ⟨o2, c2, rfl, hld⟩ := Ld.of_owns h1
      have H1 := Lib.hid (And.intro h1 hld)
      clear h1 hld HO
      go_wp2
      go_ret
      exact ⟨o2, c2, rfl, H1.out.1, H1.out.2, hB⟩

end Go.Proofs.Ytlidkeabadioeaa
namespace Go.Proofs.Ytlidkeabadioeaa
open Go.RowKit Go.Shelf

/-- A tensor in memory. -/
def RefT (w : World) (sh ds : List Int) (e : Ending) (w' : World) : Prop := ∃ os cs od cd, e = .returned (.agg #[.slice os sh.length cs, .slice od ds.length cd]) ∧ Ld w' (.slice os sh.length cs) sh ∧ Ld w' (.slice od ds.length cd) ds ∧ Below w.heap.size w w'
end Go.Proofs.Ytlidkeabadioeaa
