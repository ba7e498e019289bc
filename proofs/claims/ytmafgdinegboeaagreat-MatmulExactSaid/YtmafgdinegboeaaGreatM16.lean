/-
  
  
  
  
  
  
  
-/
import Derived.Deep.QuietTactic
import Derived.BigQuiet
import Derived.Test.YtmafgdinegboeaaGreatM02
import Derived.Test.YtmafgdinegboeaaGreatM04
import Derived.Test.YtmafgdinegboeaaGreatM06
import Derived.Test.YtmafgdinegboeaaGreatM07
import Derived.Test.YtmafgdinegboeaaGreatM08
import Derived.Test.YtmafgdinegboeaaGreatM11
import Derived.Test.YtmafgdinegboeaaGreatM14
namespace Go.Proofs.YtmafgdinegboeaaGreat
open Go Go.RowKit Go.Shelf

set_option maxRecDepth 100000 in
set_option maxHeartbeats 8000000 in
theorem mul_na (vs vd vt ve : Value) (a da b db : List Int) (f : Int) (w : World) (hs : Ld w vs a) (hd : Ld w vd da) (ht : Ld w vt b) (he : Ld w ve db) (l1 : a.length ≤ 17592186044416) (l2 : da.length ≤ 17592186044416) (l3 : b.length ≤ 17592186044416) (l4 : db.length ≤ 17592186044416) (ta : tnb a da = false) :
    Calls Tryz.prog 40 #[.agg #[vs, vd], .agg #[vt, ve], .int .i64 f] w (SomeT w 1 [] []) := by
  have CA := Lib.hid (fun (W : World) (hW : Below w.heap.size w W) => echeck_any vs vd a da W (hs.below hW) (hd.below hW) (by omega) (by omega))
  have CB := Lib.hid (fun (W : World) (hW : Below w.heap.size w W) => echeck_any vt ve b db W (ht.below hW) (he.below hW) (by omega) (by omega))
  have CF := Lib.hid (fun (W : World) => checkf_any f W)
  rw [ta, if_neg (by decide)] at CA
  obtain ⟨o1, c1, rfl, _, _⟩ := id hs
  obtain ⟨o2, c2, rfl, _, _⟩ := id hd
  obtain ⟨o3, c3, rfl, _, _⟩ := id ht
  obtain ⟨o4, c4, rfl, _, _⟩ := id he
  clear hs hd ht he ta
  obtain ⟨w5, hw5⟩ : ∃ w5, w5 = ((((w.alloc (.cells #[.slice o1 a.length c1, .slice o2 da.length c2] 26)).alloc (.cells #[.slice o3 b.length c3, .slice o4 db.length c4] 26)).alloc (.cells #[.int .i64 f] 3)).alloc (.cells #[.slice none 0 0, .slice none 0 0] 26)).alloc (.cells #[.int .i64 0] 41) := ⟨_, rfl⟩
  have B5 : Hid (Below w.heap.size w w5) := Lib.hid (by rw [hw5]; exact (((((Below.refl _ _).alloc (Nat.le_refl _) _).alloc (by simp) _).alloc (by simp; omega) _).alloc (by simp; omega) _).alloc (by simp; omega) _)
  have HW5 := Lib.hid hw5
  have S5 : Hid (w5.heap.size = w.heap.size + 5) := Lib.hid (by rw [hw5]; simp)
  have Q0 : Hid (Blk w5 w.heap.size 26 #[.slice o1 a.length c1, .slice o2 da.length c2]) := Lib.hid (by rw [hw5]; exact ((((Blk.new w _ _).alloc _).alloc _).alloc _).alloc _)
  have Q1 : Hid (Blk w5 (w.heap.size + 1) 26 #[.slice o3 b.length c3, .slice o4 db.length c4]) := Lib.hid (by rw [hw5]; exact (((blk_new1 w _ _ _).alloc _).alloc _).alloc _)
  have Q2 : Hid (Blk w5 (w.heap.size + 2) 3 #[.int .i64 f]) := Lib.hid (by
    rw [hw5]
    have q := Blk.new ((w.alloc (.cells #[.slice o1 a.length c1, .slice o2 da.length c2] 26)).alloc (.cells #[.slice o3 b.length c3, .slice o4 db.length c4] 26)) 3 #[.int .i64 f]
    rw [World.size_alloc, World.size_alloc] at q
    exact (q.alloc _).alloc _)
  have Q3 : Hid (Blk w5 (w.heap.size + 3) 26 #[.slice none 0 0, .slice none 0 0]) := Lib.hid (by
    rw [hw5]
    have q := Blk.new (((w.alloc (.cells #[.slice o1 a.length c1, .slice o2 da.length c2] 26)).alloc (.cells #[.slice o3 b.length c3, .slice o4 db.length c4] 26)).alloc (.cells #[.int .i64 f] 3)) 26 #[.slice none 0 0, .slice none 0 0]
    rw [World.size_alloc, World.size_alloc, World.size_alloc] at q
    exact q.alloc _)
  have Q4 : Hid (Blk w5 (w.heap.size + 4) 41 #[.int .i64 0]) := Lib.hid (by
    rw [hw5]
    have q := Blk.new ((((w.alloc (.cells #[.slice o1 a.length c1, .slice o2 da.length c2] 26)).alloc (.cells #[.slice o3 b.length c3, .slice o4 db.length c4] 26)).alloc (.cells #[.int .i64 f] 3)).alloc (.cells #[.slice none 0 0, .slice none 0 0] 26)) 41 #[.int .i64 0]
    rw [World.size_alloc, World.size_alloc, World.size_alloc, World.size_alloc] at q
    exact q)
  clear hw5
  have FK : Hid (∀ W, Below w5.heap.size w5 W → (W.cell? ⟨w.heap.size, 0, none⟩ = some (.slice o1 a.length c1) ∧ W.cell? ⟨w.heap.size, 1, none⟩ = some (.slice o2 da.length c2)) ∧ (W.cell? ⟨w.heap.size + 1, 0, none⟩ = some (.slice o3 b.length c3) ∧ W.cell? ⟨w.heap.size + 1, 1, none⟩ = some (.slice o4 db.length c4)) ∧ W.cell? ⟨w.heap.size + 2, 0, none⟩ = some (.int .i64 f)) := Lib.hid (fun W hW =>
    ⟨⟨(blk2 (Q0.out.below hW Q0.out.lt)).1, (blk2 (Q0.out.below hW Q0.out.lt)).2.1⟩, ⟨(blk2 (Q1.out.below hW Q1.out.lt)).1, (blk2 (Q1.out.below hW Q1.out.lt)).2.1⟩, (Q2.out.below hW Q2.out.lt).cell 0⟩)
  obtain ⟨⟨x0, x1⟩, ⟨x2, x3⟩, x4⟩ := FK.out _ (Below.refl _ _)
  have CA5 := Lib.hid (CA.out w5 B5.out)
  go_enter Tryz.func40, Tryz.ntmps40
  go_upto_region 1 with (fail)
  rw [← HW5.out]
  simp only [Nat.add_assoc, Nat.reduceAdd]
  go_step3
  go_wp2_with (first
  | (go_at_call 83; (with_reducible refine CA5.out.mono ?_); rintro e wa ⟨rfl, hb⟩; have Fa := Lib.hid hb; obtain ⟨⟨x0, x1⟩, ⟨x2, x3⟩, x4⟩ := FK.out _ Fa.out; clear hb; have Z3 := Q3.out.below Fa.out Q3.out.lt; have Z4 := Q4.out.below Fa.out Q4.out.lt; obtain ⟨p0, p1, pf0, pf1⟩ := blk2 Z3; have q0 := Z4.cell 0; have qf0 := Z4.frozen 0; clear Z3 Z4)
  | (go_at_call 83; (with_reducible refine (CB.out _ (B5.out.trans (Fa.out.mono B5.out.size))).mono ?_); rintro e wb ⟨rfl, hb⟩; have Fb := Lib.hid (Fa.out.trans (hb.mono Fa.out.size)); obtain ⟨⟨x0, x1⟩, ⟨x2, x3⟩, x4⟩ := FK.out _ Fb.out; clear hb)
  | (go_at_call 84; (with_reducible refine (CF.out _).mono ?_); rintro e w' ⟨rfl, rfl⟩)
  | (go_at_call 102; (with_reducible refine (CP.out _ (B5.out.trans (Fb.out.mono B5.out.size))).mono ?_); rintro e w6 ⟨rfl, hb⟩; have F6 := Lib.hid (Fb.out.trans (hb.mono Fb.out.size)); have F7 := Lib.hid (F6.out.alloc F6.out.size (.cells #[.slice none 0 0, .int .i64 0, .int .i64 0, .int .i64 0] 172)); obtain ⟨⟨x0, x1⟩, ⟨x2, x3⟩, x4⟩ := FK.out _ F6.out; clear hb))
  rw [Exit.noGoto_ret]
  refine bodyPost_ret (v := .tuple #[.agg #[.slice none 0 0, .slice none 0 0], .int .i64 1]) (by simp [results, Tryz.results40, go_sem, p0, p1, q0]) rfl ?_
  exact ⟨none, 0, none, 0, rfl, World.ownsRow_nil _ _ _ _, World.ownsRow_nil _ _ _ _, (((B5.out.trans (Fa.out.mono B5.out.size)).setCell (p := ⟨w.heap.size + 3, 0, none⟩) (Nat.le_add_right _ _) _).setCell (p := ⟨w.heap.size + 3, 1, none⟩) (Nat.le_add_right _ _) _).setCell (p := ⟨w.heap.size + 4, 0, none⟩) (Nat.le_add_right _ _) _⟩
set_option maxRecDepth 100000 in
set_option maxHeartbeats 8000000 in
theorem mul_nb (vs vd vt ve : Value) (a da b db : List Int) (f : Int) (w : World) (hs : Ld w vs a) (hd : Ld w vd da) (ht : Ld w vt b) (he : Ld w ve db) (l1 : a.length ≤ 17592186044416) (l2 : da.length ≤ 17592186044416) (l3 : b.length ≤ 17592186044416) (l4 : db.length ≤ 17592186044416) (ta : tnb a da = true) (tb : tnb b db = false) :
    Calls Tryz.prog 40 #[.agg #[vs, vd], .agg #[vt, ve], .int .i64 f] w (SomeT w 1 [] []) := by
  have CA := Lib.hid (fun (W : World) (hW : Below w.heap.size w W) => echeck_any vs vd a da W (hs.below hW) (hd.below hW) (by omega) (by omega))
  have CB := Lib.hid (fun (W : World) (hW : Below w.heap.size w W) => echeck_any vt ve b db W (ht.below hW) (he.below hW) (by omega) (by omega))
  have CF := Lib.hid (fun (W : World) => checkf_any f W)
  rw [ta, if_pos rfl] at CA
  rw [tb, if_neg (by decide)] at CB
  obtain ⟨o1, c1, rfl, _, _⟩ := id hs
  obtain ⟨o2, c2, rfl, _, _⟩ := id hd
  obtain ⟨o3, c3, rfl, _, _⟩ := id ht
  obtain ⟨o4, c4, rfl, _, _⟩ := id he
  clear hs hd ht he ta tb
  obtain ⟨w5, hw5⟩ : ∃ w5, w5 = ((((w.alloc (.cells #[.slice o1 a.length c1, .slice o2 da.length c2] 26)).alloc (.cells #[.slice o3 b.length c3, .slice o4 db.length c4] 26)).alloc (.cells #[.int .i64 f] 3)).alloc (.cells #[.slice none 0 0, .slice none 0 0] 26)).alloc (.cells #[.int .i64 0] 41) := ⟨_, rfl⟩
  have B5 : Hid (Below w.heap.size w w5) := Lib.hid (by rw [hw5]; exact (((((Below.refl _ _).alloc (Nat.le_refl _) _).alloc (by simp) _).alloc (by simp; omega) _).alloc (by simp; omega) _).alloc (by simp; omega) _)
  have HW5 := Lib.hid hw5
  have S5 : Hid (w5.heap.size = w.heap.size + 5) := Lib.hid (by rw [hw5]; simp)
  have Q0 : Hid (Blk w5 w.heap.size 26 #[.slice o1 a.length c1, .slice o2 da.length c2]) := Lib.hid (by rw [hw5]; exact ((((Blk.new w _ _).alloc _).alloc _).alloc _).alloc _)
  have Q1 : Hid (Blk w5 (w.heap.size + 1) 26 #[.slice o3 b.length c3, .slice o4 db.length c4]) := Lib.hid (by rw [hw5]; exact (((blk_new1 w _ _ _).alloc _).alloc _).alloc _)
  have Q2 : Hid (Blk w5 (w.heap.size + 2) 3 #[.int .i64 f]) := Lib.hid (by
    rw [hw5]
    have q := Blk.new ((w.alloc (.cells #[.slice o1 a.length c1, .slice o2 da.length c2] 26)).alloc (.cells #[.slice o3 b.length c3, .slice o4 db.length c4] 26)) 3 #[.int .i64 f]
    rw [World.size_alloc, World.size_alloc] at q
    exact (q.alloc _).alloc _)
  have Q3 : Hid (Blk w5 (w.heap.size + 3) 26 #[.slice none 0 0, .slice none 0 0]) := Lib.hid (by
    rw [hw5]
    have q := Blk.new (((w.alloc (.cells #[.slice o1 a.length c1, .slice o2 da.length c2] 26)).alloc (.cells #[.slice o3 b.length c3, .slice o4 db.length c4] 26)).alloc (.cells #[.int .i64 f] 3)) 26 #[.slice none 0 0, .slice none 0 0]
    rw [World.size_alloc, World.size_alloc, World.size_alloc] at q
    exact q.alloc _)
  have Q4 : Hid (Blk w5 (w.heap.size + 4) 41 #[.int .i64 0]) := Lib.hid (by
    rw [hw5]
    have q := Blk.new ((((w.alloc (.cells #[.slice o1 a.length c1, .slice o2 da.length c2] 26)).alloc (.cells #[.slice o3 b.length c3, .slice o4 db.length c4] 26)).alloc (.cells #[.int .i64 f] 3)).alloc (.cells #[.slice none 0 0, .slice none 0 0] 26)) 41 #[.int .i64 0]
    rw [World.size_alloc, World.size_alloc, World.size_alloc, World.size_alloc] at q
    exact q)
  clear hw5
  have FK : Hid (∀ W, Below w5.heap.size w5 W → (W.cell? ⟨w.heap.size, 0, none⟩ = some (.slice o1 a.length c1) ∧ W.cell? ⟨w.heap.size, 1, none⟩ = some (.slice o2 da.length c2)) ∧ (W.cell? ⟨w.heap.size + 1, 0, none⟩ = some (.slice o3 b.length c3) ∧ W.cell? ⟨w.heap.size + 1, 1, none⟩ = some (.slice o4 db.length c4)) ∧ W.cell? ⟨w.heap.size + 2, 0, none⟩ = some (.int .i64 f)) := Lib.hid (fun W hW =>
    ⟨⟨(blk2 (Q0.out.below hW Q0.out.lt)).1, (blk2 (Q0.out.below hW Q0.out.lt)).2.1⟩, ⟨(blk2 (Q1.out.below hW Q1.out.lt)).1, (blk2 (Q1.out.below hW Q1.out.lt)).2.1⟩, (Q2.out.below hW Q2.out.lt).cell 0⟩)
  obtain ⟨⟨x0, x1⟩, ⟨x2, x3⟩, x4⟩ := FK.out _ (Below.refl _ _)
  have CA5 := Lib.hid (CA.out w5 B5.out)
  go_enter Tryz.func40, Tryz.ntmps40
  go_upto_region 1 with (fail)
  rw [← HW5.out]
  simp only [Nat.add_assoc, Nat.reduceAdd]
  go_step3
  go_wp2_with (first
  | (go_at_call 83; (with_reducible refine CA5.out.mono ?_); rintro e wa ⟨rfl, hb⟩; have Fa := Lib.hid hb; obtain ⟨⟨x0, x1⟩, ⟨x2, x3⟩, x4⟩ := FK.out _ Fa.out; clear hb)
  | (go_at_call 83; (with_reducible refine (CB.out _ (B5.out.trans (Fa.out.mono B5.out.size))).mono ?_); rintro e wb ⟨rfl, hb⟩; have Fb := Lib.hid (Fa.out.trans (hb.mono Fa.out.size)); obtain ⟨⟨x0, x1⟩, ⟨x2, x3⟩, x4⟩ := FK.out _ Fb.out; clear hb; have Z3 := Q3.out.below Fb.out Q3.out.lt; have Z4 := Q4.out.below Fb.out Q4.out.lt; obtain ⟨p0, p1, pf0, pf1⟩ := blk2 Z3; have q0 := Z4.cell 0; have qf0 := Z4.frozen 0; clear Z3 Z4)
  | (go_at_call 84; (with_reducible refine (CF.out _).mono ?_); rintro e w' ⟨rfl, rfl⟩)
  | (go_at_call 102; (with_reducible refine (CP.out _ (B5.out.trans (Fb.out.mono B5.out.size))).mono ?_); rintro e w6 ⟨rfl, hb⟩; have F6 := Lib.hid (Fb.out.trans (hb.mono Fb.out.size)); have F7 := Lib.hid (F6.out.alloc F6.out.size (.cells #[.slice none 0 0, .int .i64 0, .int .i64 0, .int .i64 0] 172)); obtain ⟨⟨x0, x1⟩, ⟨x2, x3⟩, x4⟩ := FK.out _ F6.out; clear hb))
  rw [Exit.noGoto_ret]
  refine bodyPost_ret (v := .tuple #[.agg #[.slice none 0 0, .slice none 0 0], .int .i64 1]) (by simp [results, Tryz.results40, go_sem, p0, p1, q0]) rfl ?_
  exact ⟨none, 0, none, 0, rfl, World.ownsRow_nil _ _ _ _, World.ownsRow_nil _ _ _ _, (((B5.out.trans (Fb.out.mono B5.out.size)).setCell (p := ⟨w.heap.size + 3, 0, none⟩) (Nat.le_add_right _ _) _).setCell (p := ⟨w.heap.size + 3, 1, none⟩) (Nat.le_add_right _ _) _).setCell (p := ⟨w.heap.size + 4, 0, none⟩) (Nat.le_add_right _ _) _⟩
set_option maxRecDepth 100000 in
set_option maxHeartbeats 8000000 in
theorem mul_nf (vs vd vt ve : Value) (a da b db : List Int) (f : Int) (w : World) (hs : Ld w vs a) (hd : Ld w vd da) (ht : Ld w vt b) (he : Ld w ve db) (l1 : a.length ≤ 17592186044416) (l2 : da.length ≤ 17592186044416) (l3 : b.length ≤ 17592186044416) (l4 : db.length ≤ 17592186044416) (ta : tnb a da = true) (tb : tnb b db = true) (hf : fb f = false) :
    Calls Tryz.prog 40 #[.agg #[vs, vd], .agg #[vt, ve], .int .i64 f] w (SomeT w 1 [] []) := by
  have CA := Lib.hid (fun (W : World) (hW : Below w.heap.size w W) => echeck_any vs vd a da W (hs.below hW) (hd.below hW) (by omega) (by omega))
  have CB := Lib.hid (fun (W : World) (hW : Below w.heap.size w W) => echeck_any vt ve b db W (ht.below hW) (he.below hW) (by omega) (by omega))
  have CF := Lib.hid (fun (W : World) => checkf_any f W)
  rw [ta, if_pos rfl] at CA
  rw [tb, if_pos rfl] at CB
  rw [hf, if_neg (by decide)] at CF
  obtain ⟨o1, c1, rfl, _, _⟩ := id hs
  obtain ⟨o2, c2, rfl, _, _⟩ := id hd
  obtain ⟨o3, c3, rfl, _, _⟩ := id ht
  obtain ⟨o4, c4, rfl, _, _⟩ := id he
  clear hs hd ht he ta tb hf
  obtain ⟨w5, hw5⟩ : ∃ w5, w5 = ((((w.alloc (.cells #[.slice o1 a.length c1, .slice o2 da.length c2] 26)).alloc (.cells #[.slice o3 b.length c3, .slice o4 db.length c4] 26)).alloc (.cells #[.int .i64 f] 3)).alloc (.cells #[.slice none 0 0, .slice none 0 0] 26)).alloc (.cells #[.int .i64 0] 41) := ⟨_, rfl⟩
  have B5 : Hid (Below w.heap.size w w5) := Lib.hid (by rw [hw5]; exact (((((Below.refl _ _).alloc (Nat.le_refl _) _).alloc (by simp) _).alloc (by simp; omega) _).alloc (by simp; omega) _).alloc (by simp; omega) _)
  have HW5 := Lib.hid hw5
  have S5 : Hid (w5.heap.size = w.heap.size + 5) := Lib.hid (by rw [hw5]; simp)
  have Q0 : Hid (Blk w5 w.heap.size 26 #[.slice o1 a.length c1, .slice o2 da.length c2]) := Lib.hid (by rw [hw5]; exact ((((Blk.new w _ _).alloc _).alloc _).alloc _).alloc _)
  have Q1 : Hid (Blk w5 (w.heap.size + 1) 26 #[.slice o3 b.length c3, .slice o4 db.length c4]) := Lib.hid (by rw [hw5]; exact (((blk_new1 w _ _ _).alloc _).alloc _).alloc _)
  have Q2 : Hid (Blk w5 (w.heap.size + 2) 3 #[.int .i64 f]) := Lib.hid (by
    rw [hw5]
    have q := Blk.new ((w.alloc (.cells #[.slice o1 a.length c1, .slice o2 da.length c2] 26)).alloc (.cells #[.slice o3 b.length c3, .slice o4 db.length c4] 26)) 3 #[.int .i64 f]
    rw [World.size_alloc, World.size_alloc] at q
    exact (q.alloc _).alloc _)
  have Q3 : Hid (Blk w5 (w.heap.size + 3) 26 #[.slice none 0 0, .slice none 0 0]) := Lib.hid (by
    rw [hw5]
    have q := Blk.new (((w.alloc (.cells #[.slice o1 a.length c1, .slice o2 da.length c2] 26)).alloc (.cells #[.slice o3 b.length c3, .slice o4 db.length c4] 26)).alloc (.cells #[.int .i64 f] 3)) 26 #[.slice none 0 0, .slice none 0 0]
    rw [World.size_alloc, World.size_alloc, World.size_alloc] at q
    exact q.alloc _)
  have Q4 : Hid (Blk w5 (w.heap.size + 4) 41 #[.int .i64 0]) := Lib.hid (by
    rw [hw5]
    have q := Blk.new ((((w.alloc (.cells #[.slice o1 a.length c1, .slice o2 da.length c2] 26)).alloc (.cells #[.slice o3 b.length c3, .slice o4 db.length c4] 26)).alloc (.cells #[.int .i64 f] 3)).alloc (.cells #[.slice none 0 0, .slice none 0 0] 26)) 41 #[.int .i64 0]
    rw [World.size_alloc, World.size_alloc, World.size_alloc, World.size_alloc] at q
    exact q)
  clear hw5
  have FK : Hid (∀ W, Below w5.heap.size w5 W → (W.cell? ⟨w.heap.size, 0, none⟩ = some (.slice o1 a.length c1) ∧ W.cell? ⟨w.heap.size, 1, none⟩ = some (.slice o2 da.length c2)) ∧ (W.cell? ⟨w.heap.size + 1, 0, none⟩ = some (.slice o3 b.length c3) ∧ W.cell? ⟨w.heap.size + 1, 1, none⟩ = some (.slice o4 db.length c4)) ∧ W.cell? ⟨w.heap.size + 2, 0, none⟩ = some (.int .i64 f)) := Lib.hid (fun W hW =>
    ⟨⟨(blk2 (Q0.out.below hW Q0.out.lt)).1, (blk2 (Q0.out.below hW Q0.out.lt)).2.1⟩, ⟨(blk2 (Q1.out.below hW Q1.out.lt)).1, (blk2 (Q1.out.below hW Q1.out.lt)).2.1⟩, (Q2.out.below hW Q2.out.lt).cell 0⟩)
  obtain ⟨⟨x0, x1⟩, ⟨x2, x3⟩, x4⟩ := FK.out _ (Below.refl _ _)
  have CA5 := Lib.hid (CA.out w5 B5.out)
  go_enter Tryz.func40, Tryz.ntmps40
  go_upto_region 1 with (fail)
  rw [← HW5.out]
  simp only [Nat.add_assoc, Nat.reduceAdd]
  go_step3
  go_wp2_with (first
  | (go_at_call 83; (with_reducible refine CA5.out.mono ?_); rintro e wa ⟨rfl, hb⟩; have Fa := Lib.hid hb; obtain ⟨⟨x0, x1⟩, ⟨x2, x3⟩, x4⟩ := FK.out _ Fa.out; clear hb)
  | (go_at_call 83; (with_reducible refine (CB.out _ (B5.out.trans (Fa.out.mono B5.out.size))).mono ?_); rintro e wb ⟨rfl, hb⟩; have Fb := Lib.hid (Fa.out.trans (hb.mono Fa.out.size)); obtain ⟨⟨x0, x1⟩, ⟨x2, x3⟩, x4⟩ := FK.out _ Fb.out; clear hb; have Z3 := Q3.out.below Fb.out Q3.out.lt; have Z4 := Q4.out.below Fb.out Q4.out.lt; obtain ⟨p0, p1, pf0, pf1⟩ := blk2 Z3; have q0 := Z4.cell 0; have qf0 := Z4.frozen 0; clear Z3 Z4)
  | (go_at_call 84; (with_reducible refine (CF.out _).mono ?_); rintro e w' ⟨rfl, rfl⟩)
  | (go_at_call 102; (with_reducible refine (CP.out _ (B5.out.trans (Fb.out.mono B5.out.size))).mono ?_); rintro e w6 ⟨rfl, hb⟩; have F6 := Lib.hid (Fb.out.trans (hb.mono Fb.out.size)); have F7 := Lib.hid (F6.out.alloc F6.out.size (.cells #[.slice none 0 0, .int .i64 0, .int .i64 0, .int .i64 0] 172)); obtain ⟨⟨x0, x1⟩, ⟨x2, x3⟩, x4⟩ := FK.out _ F6.out; clear hb))
  rw [Exit.noGoto_ret]
  refine bodyPost_ret (v := .tuple #[.agg #[.slice none 0 0, .slice none 0 0], .int .i64 1]) (by simp [results, Tryz.results40, go_sem, p0, p1, q0]) rfl ?_
  exact ⟨none, 0, none, 0, rfl, World.ownsRow_nil _ _ _ _, World.ownsRow_nil _ _ _ _, (((B5.out.trans (Fb.out.mono B5.out.size)).setCell (p := ⟨w.heap.size + 3, 0, none⟩) (Nat.le_add_right _ _) _).setCell (p := ⟨w.heap.size + 3, 1, none⟩) (Nat.le_add_right _ _) _).setCell (p := ⟨w.heap.size + 4, 0, none⟩) (Nat.le_add_right _ _) _⟩
set_option maxRecDepth 100000 in
set_option maxHeartbeats 8000000 in
theorem mul_ns (vs vd vt ve : Value) (a da b db : List Int) (f : Int) (w : World) (hs : Ld w vs a) (hd : Ld w vd da) (ht : Ld w vt b) (he : Ld w ve db) (l1 : a.length ≤ 17592186044416) (l2 : da.length ≤ 17592186044416) (l3 : b.length ≤ 17592186044416) (l4 : db.length ≤ 17592186044416) (ta : tnb a da = true) (tb : tnb b db = true) (hf : fb f = true) (hm : mfit a b = false) :
    Calls Tryz.prog 40 #[.agg #[vs, vd], .agg #[vt, ve], .int .i64 f] w (SomeT w 2 [] []) := by
  have CA := Lib.hid (fun (W : World) (hW : Below w.heap.size w W) => echeck_any vs vd a da W (hs.below hW) (hd.below hW) (by omega) (by omega))
  have CB := Lib.hid (fun (W : World) (hW : Below w.heap.size w W) => echeck_any vt ve b db W (ht.below hW) (he.below hW) (by omega) (by omega))
  have CF := Lib.hid (fun (W : World) => checkf_any f W)
  have CP : Hid (∀ W, Below w.heap.size w W → Calls Tryz.prog 102 #[vs, vt] W (NoP W 2)) := Lib.hid (fun W hW => by
    have q := productof_any vs vt a b W (hs.below hW) (ht.below hW) (tnb_parts ta).1 (tnb_parts tb).1
    simp only [hm, Bool.false_eq_true, if_false] at q
    exact q)
  rw [ta, if_pos rfl] at CA
  rw [tb, if_pos rfl] at CB
  rw [hf, if_pos rfl] at CF
  obtain ⟨o1, c1, rfl, _, _⟩ := id hs
  obtain ⟨o2, c2, rfl, _, _⟩ := id hd
  obtain ⟨o3, c3, rfl, _, _⟩ := id ht
  obtain ⟨o4, c4, rfl, _, _⟩ := id he
  clear hs hd ht he ta tb hf hm
  obtain ⟨w5, hw5⟩ : ∃ w5, w5 = ((((w.alloc (.cells #[.slice o1 a.length c1, .slice o2 da.length c2] 26)).alloc (.cells #[.slice o3 b.length c3, .slice o4 db.length c4] 26)).alloc (.cells #[.int .i64 f] 3)).alloc (.cells #[.slice none 0 0, .slice none 0 0] 26)).alloc (.cells #[.int .i64 0] 41) := ⟨_, rfl⟩
  have B5 : Hid (Below w.heap.size w w5) := Lib.hid (by rw [hw5]; exact (((((Below.refl _ _).alloc (Nat.le_refl _) _).alloc (by simp) _).alloc (by simp; omega) _).alloc (by simp; omega) _).alloc (by simp; omega) _)
  have HW5 := Lib.hid hw5
  have S5 : Hid (w5.heap.size = w.heap.size + 5) := Lib.hid (by rw [hw5]; simp)
  have Q0 : Hid (Blk w5 w.heap.size 26 #[.slice o1 a.length c1, .slice o2 da.length c2]) := Lib.hid (by rw [hw5]; exact ((((Blk.new w _ _).alloc _).alloc _).alloc _).alloc _)
  have Q1 : Hid (Blk w5 (w.heap.size + 1) 26 #[.slice o3 b.length c3, .slice o4 db.length c4]) := Lib.hid (by rw [hw5]; exact (((blk_new1 w _ _ _).alloc _).alloc _).alloc _)
  have Q2 : Hid (Blk w5 (w.heap.size + 2) 3 #[.int .i64 f]) := Lib.hid (by
    rw [hw5]
    have q := Blk.new ((w.alloc (.cells #[.slice o1 a.length c1, .slice o2 da.length c2] 26)).alloc (.cells #[.slice o3 b.length c3, .slice o4 db.length c4] 26)) 3 #[.int .i64 f]
    rw [World.size_alloc, World.size_alloc] at q
    exact (q.alloc _).alloc _)
  have Q3 : Hid (Blk w5 (w.heap.size + 3) 26 #[.slice none 0 0, .slice none 0 0]) := Lib.hid (by
    rw [hw5]
    have q := Blk.new (((w.alloc (.cells #[.slice o1 a.length c1, .slice o2 da.length c2] 26)).alloc (.cells #[.slice o3 b.length c3, .slice o4 db.length c4] 26)).alloc (.cells #[.int .i64 f] 3)) 26 #[.slice none 0 0, .slice none 0 0]
    rw [World.size_alloc, World.size_alloc, World.size_alloc] at q
    exact q.alloc _)
  have Q4 : Hid (Blk w5 (w.heap.size + 4) 41 #[.int .i64 0]) := Lib.hid (by
    rw [hw5]
    have q := Blk.new ((((w.alloc (.cells #[.slice o1 a.length c1, .slice o2 da.length c2] 26)).alloc (.cells #[.slice o3 b.length c3, .slice o4 db.length c4] 26)).alloc (.cells #[.int .i64 f] 3)).alloc (.cells #[.slice none 0 0, .slice none 0 0] 26)) 41 #[.int .i64 0]
    rw [World.size_alloc, World.size_alloc, World.size_alloc, World.size_alloc] at q
    exact q)
  clear hw5
  have FK : Hid (∀ W, Below w5.heap.size w5 W → (W.cell? ⟨w.heap.size, 0, none⟩ = some (.slice o1 a.length c1) ∧ W.cell? ⟨w.heap.size, 1, none⟩ = some (.slice o2 da.length c2)) ∧ (W.cell? ⟨w.heap.size + 1, 0, none⟩ = some (.slice o3 b.length c3) ∧ W.cell? ⟨w.heap.size + 1, 1, none⟩ = some (.slice o4 db.length c4)) ∧ W.cell? ⟨w.heap.size + 2, 0, none⟩ = some (.int .i64 f)) := Lib.hid (fun W hW =>
    ⟨⟨(blk2 (Q0.out.below hW Q0.out.lt)).1, (blk2 (Q0.out.below hW Q0.out.lt)).2.1⟩, ⟨(blk2 (Q1.out.below hW Q1.out.lt)).1, (blk2 (Q1.out.below hW Q1.out.lt)).2.1⟩, (Q2.out.below hW Q2.out.lt).cell 0⟩)
  obtain ⟨⟨x0, x1⟩, ⟨x2, x3⟩, x4⟩ := FK.out _ (Below.refl _ _)
  have CA5 := Lib.hid (CA.out w5 B5.out)
  go_enter Tryz.func40, Tryz.ntmps40
  go_upto_region 1 with (fail)
  rw [← HW5.out]
  simp only [Nat.add_assoc, Nat.reduceAdd]
  go_step3
  go_wp2_with (first
  | (go_at_call 83; (with_reducible refine CA5.out.mono ?_); rintro e wa ⟨rfl, hb⟩; have Fa := Lib.hid hb; obtain ⟨⟨x0, x1⟩, ⟨x2, x3⟩, x4⟩ := FK.out _ Fa.out; clear hb)
  | (go_at_call 83; (with_reducible refine (CB.out _ (B5.out.trans (Fa.out.mono B5.out.size))).mono ?_); rintro e wb ⟨rfl, hb⟩; have Fb := Lib.hid (Fa.out.trans (hb.mono Fa.out.size)); obtain ⟨⟨x0, x1⟩, ⟨x2, x3⟩, x4⟩ := FK.out _ Fb.out; clear hb)
  | (go_at_call 84; (with_reducible refine (CF.out _).mono ?_); rintro e w' ⟨rfl, rfl⟩)
  | (go_at_call 102; (with_reducible refine (CP.out _ (B5.out.trans (Fb.out.mono B5.out.size))).mono ?_); rintro e w6 ⟨rfl, hb⟩; have F6 := Lib.hid (Fb.out.trans (hb.mono Fb.out.size)); have F7 := Lib.hid (F6.out.alloc F6.out.size (.cells #[.slice none 0 0, .int .i64 0, .int .i64 0, .int .i64 0] 172)); obtain ⟨⟨x0, x1⟩, ⟨x2, x3⟩, x4⟩ := FK.out _ F6.out; clear hb; have Z3 := Q3.out.below F7.out Q3.out.lt; have Z4 := Q4.out.below F7.out Q4.out.lt; obtain ⟨p0, p1, pf0, pf1⟩ := blk2 Z3; have q0 := Z4.cell 0; have qf0 := Z4.frozen 0; clear Z3 Z4))
  rw [Exit.noGoto_ret]
  refine bodyPost_ret (v := .tuple #[.agg #[.slice none 0 0, .slice none 0 0], .int .i64 2]) (by simp [results, Tryz.results40, go_sem, p0, p1, q0]) rfl ?_
  exact ⟨none, 0, none, 0, rfl, World.ownsRow_nil _ _ _ _, World.ownsRow_nil _ _ _ _, (((B5.out.trans (F7.out.mono B5.out.size)).setCell (p := ⟨w.heap.size + 3, 0, none⟩) (Nat.le_add_right _ _) _).setCell (p := ⟨w.heap.size + 3, 1, none⟩) (Nat.le_add_right _ _) _).setCell (p := ⟨w.heap.size + 4, 0, none⟩) (Nat.le_add_right _ _) _⟩
set_option maxRecDepth 100000 in
set_option maxHeartbeats 8000000 in
theorem mul_nm (vs vd vt ve : Value) (a da b db : List Int) (f : Int) (w : World) (hs : Ld w vs a) (hd : Ld w vd da) (ht : Ld w vt b) (he : Ld w ve db) (l1 : a.length ≤ 17592186044416) (l2 : da.length ≤ 17592186044416) (l3 : b.length ≤ 17592186044416) (l4 : db.length ≤ 17592186044416) (ta : tnb a da = true) (tb : tnb b db = true) (hf : fb f = true) (hm : mfit a b = true) (hh : may (msh a b) = false) :
    Calls Tryz.prog 40 #[.agg #[vs, vd], .agg #[vt, ve], .int .i64 f] w (SomeT w 5 [] []) := by
  have CA := Lib.hid (fun (W : World) (hW : Below w.heap.size w W) => echeck_any vs vd a da W (hs.below hW) (hd.below hW) (by omega) (by omega))
  have CB := Lib.hid (fun (W : World) (hW : Below w.heap.size w W) => echeck_any vt ve b db W (ht.below hW) (he.below hW) (by omega) (by omega))
  have CF := Lib.hid (fun (W : World) => checkf_any f W)
  have CP : Hid (∀ W, Below w.heap.size w W → Calls Tryz.prog 102 #[vs, vt] W (NoP W 5)) := Lib.hid (fun W hW => by
    have q := productof_any vs vt a b W (hs.below hW) (ht.below hW) (tnb_parts ta).1 (tnb_parts tb).1
    simp only [hm, hh, if_true, Bool.false_eq_true, if_false] at q
    exact q)
  rw [ta, if_pos rfl] at CA
  rw [tb, if_pos rfl] at CB
  rw [hf, if_pos rfl] at CF
  obtain ⟨o1, c1, rfl, _, _⟩ := id hs
  obtain ⟨o2, c2, rfl, _, _⟩ := id hd
  obtain ⟨o3, c3, rfl, _, _⟩ := id ht
  obtain ⟨o4, c4, rfl, _, _⟩ := id he
  clear hs hd ht he ta tb hf hm hh
  obtain ⟨w5, hw5⟩ : ∃ w5, w5 = ((((w.alloc (.cells #[.slice o1 a.length c1, .slice o2 da.length c2] 26)).alloc (.cells #[.slice o3 b.length c3, .slice o4 db.length c4] 26)).alloc (.cells #[.int .i64 f] 3)).alloc (.cells #[.slice none 0 0, .slice none 0 0] 26)).alloc (.cells #[.int .i64 0] 41) := ⟨_, rfl⟩
  have B5 : Hid (Below w.heap.size w w5) := Lib.hid (by rw [hw5]; exact (((((Below.refl _ _).alloc (Nat.le_refl _) _).alloc (by simp) _).alloc (by simp; omega) _).alloc (by simp; omega) _).alloc (by simp; omega) _)
  have HW5 := Lib.hid hw5
  have S5 : Hid (w5.heap.size = w.heap.size + 5) := Lib.hid (by rw [hw5]; simp)
  have Q0 : Hid (Blk w5 w.heap.size 26 #[.slice o1 a.length c1, .slice o2 da.length c2]) := Lib.hid (by rw [hw5]; exact ((((Blk.new w _ _).alloc _).alloc _).alloc _).alloc _)
  have Q1 : Hid (Blk w5 (w.heap.size + 1) 26 #[.slice o3 b.length c3, .slice o4 db.length c4]) := Lib.hid (by rw [hw5]; exact (((blk_new1 w _ _ _).alloc _).alloc _).alloc _)
  have Q2 : Hid (Blk w5 (w.heap.size + 2) 3 #[.int .i64 f]) := Lib.hid (by
    rw [hw5]
    have q := Blk.new ((w.alloc (.cells #[.slice o1 a.length c1, .slice o2 da.length c2] 26)).alloc (.cells #[.slice o3 b.length c3, .slice o4 db.length c4] 26)) 3 #[.int .i64 f]
    rw [World.size_alloc, World.size_alloc] at q
    exact (q.alloc _).alloc _)
  have Q3 : Hid (Blk w5 (w.heap.size + 3) 26 #[.slice none 0 0, .slice none 0 0]) := Lib.hid (by
    rw [hw5]
    have q := Blk.new (((w.alloc (.cells #[.slice o1 a.length c1, .slice o2 da.length c2] 26)).alloc (.cells #[.slice o3 b.length c3, .slice o4 db.length c4] 26)).alloc (.cells #[.int .i64 f] 3)) 26 #[.slice none 0 0, .slice none 0 0]
    rw [World.size_alloc, World.size_alloc, World.size_alloc] at q
    exact q.alloc _)
  have Q4 : Hid (Blk w5 (w.heap.size + 4) 41 #[.int .i64 0]) := Lib.hid (by
    rw [hw5]
    have q := Blk.new ((((w.alloc (.cells #[.slice o1 a.length c1, .slice o2 da.length c2] 26)).alloc (.cells #[.slice o3 b.length c3, .slice o4 db.length c4] 26)).alloc (.cells #[.int .i64 f] 3)).alloc (.cells #[.slice none 0 0, .slice none 0 0] 26)) 41 #[.int .i64 0]
    rw [World.size_alloc, World.size_alloc, World.size_alloc, World.size_alloc] at q
    exact q)
  clear hw5
  have FK : Hid (∀ W, Below w5.heap.size w5 W → (W.cell? ⟨w.heap.size, 0, none⟩ = some (.slice o1 a.length c1) ∧ W.cell? ⟨w.heap.size, 1, none⟩ = some (.slice o2 da.length c2)) ∧ (W.cell? ⟨w.heap.size + 1, 0, none⟩ = some (.slice o3 b.length c3) ∧ W.cell? ⟨w.heap.size + 1, 1, none⟩ = some (.slice o4 db.length c4)) ∧ W.cell? ⟨w.heap.size + 2, 0, none⟩ = some (.int .i64 f)) := Lib.hid (fun W hW =>
    ⟨⟨(blk2 (Q0.out.below hW Q0.out.lt)).1, (blk2 (Q0.out.below hW Q0.out.lt)).2.1⟩, ⟨(blk2 (Q1.out.below hW Q1.out.lt)).1, (blk2 (Q1.out.below hW Q1.out.lt)).2.1⟩, (Q2.out.below hW Q2.out.lt).cell 0⟩)
  obtain ⟨⟨x0, x1⟩, ⟨x2, x3⟩, x4⟩ := FK.out _ (Below.refl _ _)
  have CA5 := Lib.hid (CA.out w5 B5.out)
  go_enter Tryz.func40, Tryz.ntmps40
  go_upto_region 1 with (fail)
  rw [← HW5.out]
  simp only [Nat.add_assoc, Nat.reduceAdd]
  go_step3
  go_wp2_with (first
  | (go_at_call 83; (with_reducible refine CA5.out.mono ?_); rintro e wa ⟨rfl, hb⟩; have Fa := Lib.hid hb; obtain ⟨⟨x0, x1⟩, ⟨x2, x3⟩, x4⟩ := FK.out _ Fa.out; clear hb)
  | (go_at_call 83; (with_reducible refine (CB.out _ (B5.out.trans (Fa.out.mono B5.out.size))).mono ?_); rintro e wb ⟨rfl, hb⟩; have Fb := Lib.hid (Fa.out.trans (hb.mono Fa.out.size)); obtain ⟨⟨x0, x1⟩, ⟨x2, x3⟩, x4⟩ := FK.out _ Fb.out; clear hb)
  | (go_at_call 84; (with_reducible refine (CF.out _).mono ?_); rintro e w' ⟨rfl, rfl⟩)
  | (go_at_call 102; (with_reducible refine (CP.out _ (B5.out.trans (Fb.out.mono B5.out.size))).mono ?_); rintro e w6 ⟨rfl, hb⟩; have F6 := Lib.hid (Fb.out.trans (hb.mono Fb.out.size)); have F7 := Lib.hid (F6.out.alloc F6.out.size (.cells #[.slice none 0 0, .int .i64 0, .int .i64 0, .int .i64 0] 172)); obtain ⟨⟨x0, x1⟩, ⟨x2, x3⟩, x4⟩ := FK.out _ F6.out; clear hb; have Z3 := Q3.out.below F7.out Q3.out.lt; have Z4 := Q4.out.below F7.out Q4.out.lt; obtain ⟨p0, p1, pf0, pf1⟩ := blk2 Z3; have q0 := Z4.cell 0; have qf0 := Z4.frozen 0; clear Z3 Z4))
  rw [Exit.noGoto_ret]
  refine bodyPost_ret (v := .tuple #[.agg #[.slice none 0 0, .slice none 0 0], .int .i64 5]) (by simp [results, Tryz.results40, go_sem, p0, p1, q0]) rfl ?_
  exact ⟨none, 0, none, 0, rfl, World.ownsRow_nil _ _ _ _, World.ownsRow_nil _ _ _ _, (((B5.out.trans (F7.out.mono B5.out.size)).setCell (p := ⟨w.heap.size + 3, 0, none⟩) (Nat.le_add_right _ _) _).setCell (p := ⟨w.heap.size + 3, 1, none⟩) (Nat.le_add_right _ _) _).setCell (p := ⟨w.heap.size + 4, 0, none⟩) (Nat.le_add_right _ _) _⟩
end Go.Proofs.YtmafgdinegboeaaGreat
namespace Go.Proofs.YtmafgdinegboeaaGreat
open Go Go.RowKit Go.Shelf

def ltc (n : Nat) : List Int := ((alx n).set (n - 2) ((n : Int) - 1)).set (n - 1) ((n : Int) - 2)
theorem ltc_len (n : Nat) : (ltc n).length = n := by simp [ltc, alx_len]
set_option maxRecDepth 100000 in
set_option maxHeartbeats 4000000 in
theorem ltc_any (n : Nat) (w : World) (h2 : 2 ≤ n) (h4 : n ≤ 4) :
    Calls Tryz.prog 106 #[.int .i64 (n : Nat)] w fun e w' => e = .returned (.slice (some ⟨w.heap.size, 0, none⟩) n n) ∧ Blk w' w.heap.size 3 (ints (ltc n)).toArray ∧ Below w.heap.size w w' := by
  obtain ⟨i0, hi0, hz0, hz1, hz2⟩ := info_parts infoI
  have mk : (Instr.makeSlice 23 (.int .i64 (n : Int)) (.int .i64 (n : Int))).run Tryz.prog w = .ok (.slice (some ⟨w.heap.size, 0, none⟩) n n) (w.alloc (.cells (ints (List.replicate n 0)).toArray 3)) := by
    have := run_make (w := w) 23 3 i0 (.int .i64 0) Tryz.underlying23 hi0 hz0 .i64 .i64 n n (by omega) (by omega) (by rw [hz2]; omega) (by omega)
    rw [this, hz1, ← made_ints]; simp [Value.cells]
  go_enter Tryz.func106, Tryz.ntmps106
  go_wp2
  clear mk
  go_loopw [9] (fun s9 wQ => ∃ (k : Nat) (L : List Int), k ≤ n ∧ s9 = .int .i64 k ∧ Blk wQ w.heap.size 3 (ints L).toArray ∧ Hid (L.length = n ∧ ∀ j, j < k → L.getD j 0 = (j : Int)) ∧ Hid (Below w.heap.size w wQ)) (fun s9 _ => n - (intOf s9).toNat)
  case atStart => exact ⟨0, List.replicate n 0, Nat.zero_le _, rfl, Blk.new _ _ _, ⟨by simp, fun j hj => absurd hj (Nat.not_lt_zero _)⟩, Lib.hid ((Below.refl _ _).alloc (Nat.le_refl _) _)⟩
  case round =>
    obtain ⟨k, L, hk, rfl, hb, HL, HB⟩ := hrel
    by_cases hlt : k < n
    · have kc := hb.cell k
      rw [ints_at (by have := HL.out.1; omega)] at kc
      have kf := hb.frozen k
      generalize L.getD k 0 = l0 at kc
      have R : Hid ((L.set k (k : Int)).length = n ∧ ∀ j, j < k + 1 → (L.set k (k : Int)).getD j 0 = (j : Int)) := Lib.hid ⟨by rw [List.length_set]; exact HL.out.1, fun j hj => by
        by_cases e : k = j
        · subst e; rw [set_getD_self (by have := HL.out.1; omega)]
        · rw [set_getD_ne e]; exact HL.out.2 j (by omega)⟩
      have H1 := Lib.hid (HB.out.setCell (p := ⟨w.heap.size, k, none⟩) (Nat.le_refl _) (.int .i64 (k : Int)))
      have H2 := hb.put k (k : Int)
      go_wp2
      exact ⟨⟨k + 1, L.set k (k : Int), by omega, by go_num, H2, R, H1⟩, by simp [intOf]; omega⟩
    · obtain rfl : k = n := by omega
      have HE : L = alx k := ext_getD (by rw [alx_len]; exact HL.out.1) (fun j hj => by rw [HL.out.2 j (by have := HL.out.1; omega)]; simp [alx, List.getD, show j < k by have := HL.out.1; omega])
      subst HE
      clear HL hlt hk
      obtain rfl | rfl | rfl : k = 2 ∨ k = 3 ∨ k = 4 := by omega
      · clear h2 h4
        have E0 : alx 2 = [(0 : Int), (1 : Int)] := by decide
        rw [E0] at hb
        clear E0
        have k1 := hb.cell 0
        rw [ints_at (by decide)] at k1
        have f1 := hb.frozen 0
        have h3 := hb.put 0 (1 : Int)
        have k2 := h3.cell 1
        rw [ints_at (by decide)] at k2
        have f2 := h3.frozen 1
        have H5 := Lib.hid (h3.put 1 (0 : Int))
        have H6 := Lib.hid ((HB.out.setCell (p := ⟨w.heap.size, 0, none⟩) (Nat.le_refl _) (.int .i64 (1 : Int))).setCell (p := ⟨w.heap.size, 1, none⟩) (Nat.le_refl _) (.int .i64 (0 : Int)))
        generalize List.getD _ _ _ = l1 at k1
        generalize List.getD _ _ _ = l2 at k2
        clear hb h3
        go_wp2
        have H7 := H5.out
        rw [show ([(0 : Int), (1 : Int)].set 0 1).set 1 0 = ltc 2 by decide] at H7
        refine bodyPost_ret (results_tmp rfl _ _ _) rfl ?_
        exact ⟨rfl, H7, H6.out⟩
      · clear h2 h4
        have E0 : alx 3 = [(0 : Int), (1 : Int), (2 : Int)] := by decide
        rw [E0] at hb
        clear E0
        have k1 := hb.cell 1
        rw [ints_at (by decide)] at k1
        have f1 := hb.frozen 1
        have h3 := hb.put 1 (2 : Int)
        have k2 := h3.cell 2
        rw [ints_at (by decide)] at k2
        have f2 := h3.frozen 2
        have H5 := Lib.hid (h3.put 2 (1 : Int))
        have H6 := Lib.hid ((HB.out.setCell (p := ⟨w.heap.size, 1, none⟩) (Nat.le_refl _) (.int .i64 (2 : Int))).setCell (p := ⟨w.heap.size, 2, none⟩) (Nat.le_refl _) (.int .i64 (1 : Int)))
        generalize List.getD _ _ _ = l1 at k1
        generalize List.getD _ _ _ = l2 at k2
        clear hb h3
        go_wp2
        have H7 := H5.out
        rw [show ([(0 : Int), (1 : Int), (2 : Int)].set 1 2).set 2 1 = ltc 3 by decide] at H7
        refine bodyPost_ret (results_tmp rfl _ _ _) rfl ?_
        exact ⟨rfl, H7, H6.out⟩
      · clear h2 h4
        have E0 : alx 4 = [(0 : Int), (1 : Int), (2 : Int), (3 : Int)] := by decide
        rw [E0] at hb
        clear E0
        have k1 := hb.cell 2
        rw [ints_at (by decide)] at k1
        have f1 := hb.frozen 2
        have h3 := hb.put 2 (3 : Int)
        have k2 := h3.cell 3
        rw [ints_at (by decide)] at k2
        have f2 := h3.frozen 3
        have H5 := Lib.hid (h3.put 3 (2 : Int))
        have H6 := Lib.hid ((HB.out.setCell (p := ⟨w.heap.size, 2, none⟩) (Nat.le_refl _) (.int .i64 (3 : Int))).setCell (p := ⟨w.heap.size, 3, none⟩) (Nat.le_refl _) (.int .i64 (2 : Int)))
        generalize List.getD _ _ _ = l1 at k1
        generalize List.getD _ _ _ = l2 at k2
        clear hb h3
        go_wp2
        have H7 := H5.out
        rw [show ([(0 : Int), (1 : Int), (2 : Int), (3 : Int)].set 2 3).set 3 2 = ltc 4 by decide] at H7
        refine bodyPost_ret (results_tmp rfl _ _ _) rfl ?_
        exact ⟨rfl, H7, H6.out⟩
end Go.Proofs.YtmafgdinegboeaaGreat
namespace Go.Proofs.YtmafgdinegboeaaGreat

end Go.Proofs.YtmafgdinegboeaaGreat
namespace Go.Proofs.YtmafgdinegboeaaGreat
open Go.RowKit

def SomeWd (w : World) (ls : List Int) (e : Ending) (w' : World) : Prop := ∃ o c, e = .returned (.slice o ls.length c) ∧ w'.ownsRow w.heap.size 2 1 (.slice o ls.length c) ls.length (ints ls) ∧ Ld w' (.slice o ls.length c) ls ∧ Below w.heap.size w w'
end Go.Proofs.YtmafgdinegboeaaGreat
namespace Go.Proofs.YtmafgdinegboeaaGreat
open Go.RowKit


end Go.Proofs.YtmafgdinegboeaaGreat
namespace Go.Proofs.YtmafgdinegboeaaGreat
open Go.RowKit

set_option maxRecDepth 100000 in
set_option maxHeartbeats 4000000 in
theorem rof_any (v : Value) (ls : List Int) (w : World) (h : Ld w v ls) (hm : may ls = true) :
    Calls Tryz.prog 101 #[v] w (SomeW w ls (stl ls) 0) := by
  have hB0 : Below w.heap.size w (w.alloc (.cells #[.slice none 0 0, .slice none 0 0, .int .i64 0] 168)) := (Below.refl _ _).alloc (Nat.le_refl _) _
  have l4 := may_len hm
  have CC := copy_any v ls _ (h.below hB0) (by omega)
  unfold SomeC at CC
  simp only [World.size_alloc] at CC
  replace CC := Lib.hid CC
  have CS := Lib.hid (fun (W : World) (hb : Below w.heap.size w W) => rstrides_any v ls W (h.below hb) hm)
  have HX := Lib.hid (Blk.new w 168 #[.slice none 0 0, .slice none 0 0, .int .i64 0])
  obtain ⟨o, c, rfl, _, _⟩ := h
  clear hm
  go_enter Tryz.func101, Tryz.ntmps101
  go_wp2_with (first | (go_at_call 58; (with_reducible refine CC.out.mono ?_); rintro e w2 ⟨o2, c2, rfl, ho2, _, hb2⟩; have X2 := Lib.hid (blk_box hb2 (by omega)); have b2 := hB0.trans (hb2.mono (by omega)); have s2 := hb2.size; simp only [World.size_alloc] at s2; replace ho2 := Lib.hid ho2; clear hb2) | (go_at_call 111; (with_reducible refine (CS.out _ b2).mono ?_); rintro e w3 ⟨rfl, hk3, hb3⟩; obtain ⟨d0, d1, d2, f0, f1, f2⟩ := blk3 (X2.out.below hb3 X2.out.lt); have D3 := Lib.hid (And.intro hk3 hb3); clear hk3 hb3))
  refine bodyPost_ret (v := .agg #[.slice o2 ls.length c2, .slice (some ⟨w2.heap.size, 0, none⟩) ls.length ls.length, .int .i64 0]) (by simp [results, Tryz.results101, go_sem, d0, d1, d2]) rfl ?_
  refine someW_end (Nat.le_refl _) (b2.trans (D3.out.2.mono (by omega))) (X2.out.below D3.out.2 X2.out.lt) rfl (by rw [stl_len]) ⟨own_base (Below.keepOwn ho2.out D3.out.2 (Nat.le_refl _)) (by omega), stl_own D3.out.1 (by omega) (by omega), ?_⟩
  intro g e e2
  have := (ho2.out.lt g e).2
  simp only [Value.ownBlock, Option.some.injEq] at e2
  omega


end Go.Proofs.YtmafgdinegboeaaGreat
namespace Go.Proofs.YtmafgdinegboeaaGreat
open Go.RowKit


theorem own_len {w : World} {base n : Nat} {e : TypeId} {v : Value} {xs : List Value} (h : w.ownsRow base e 1 v n xs) : ∃ o c, v = .slice o n c := by
  rcases h.2 with ⟨rfl, rfl⟩ | ⟨g, cap, cur, rfl, _⟩
  · exact ⟨_, _, rfl⟩
  · exact ⟨_, _, rfl⟩
theorem own_put2 {w : World} {base g c i n : Nat} {ls : List Int} {e : TypeId} (h : w.ownsRow base e 1 (.slice (some ⟨g, 0, none⟩) n c) n (ints ls)) (hl : ls.length = n) (hi : i < n) (v : Int) : (w.setCell ⟨g, i, none⟩ (.int .i64 v)).ownsRow base e 1 (.slice (some ⟨g, 0, none⟩) n c) n (ints (ls.set i v)) := by
  subst hl
  have := own_put h hi v
  rwa [List.length_set] at this

set_option maxRecDepth 100000 in
set_option maxHeartbeats 4000000 in
theorem numberso_any (base : Nat) (v : Value) (ls : List Int) (w : World) (h : w.ownsRow base 3 1 v ls.length (ints ls)) (hb : base ≤ w.heap.size) (hl : ls.length ≤ 65536) :
    Calls Tryz.prog 130 #[v] w fun e w' => e = .returned (.tuple #[]) ∧ w.grownBy w' v.ownBlock := by
  obtain ⟨i0, hi0, hz0, hz1, hz2⟩ := info_parts infoI
  obtain ⟨n, hn⟩ : ∃ n, n = ls.length := ⟨_, rfl⟩
  have HLN := Lib.hid hn
  rw [← hn] at h hl
  clear hn
  obtain ⟨o, c, rfl⟩ := own_len h
  have H0 : Hid (w.ownsRow base 3 1 (.slice o n c) n (ints ls)) := h
  have HF := Lib.hid (fun (h0 : 0 < n) => own_some h h0)
  clear h
  go_enter Tryz.func130, Tryz.ntmps130
  go_wp2
  go_loopw [2] (fun s2 wr => ∃ (k : Nat) (L : List Int), k ≤ n ∧ s2 = .int .i64 k ∧ Hid (L.length = n) ∧ Hid (wr.ownsRow base 3 1 (.slice o n c) n (ints L)) ∧ Hid (w.grownBy wr (Value.slice o n c).ownBlock)) (fun s2 _ => n - (intOf s2).toNat)
  case atStart => exact ⟨0, ls, Nat.zero_le _, rfl, HLN.out.symm, H0.out, World.grownBy.refl _ _⟩
  case round =>
    obtain ⟨k, L, hk, rfl, HL, HO, HG⟩ := hrel
    by_cases hlt : k < n
    · obtain ⟨g, rfl⟩ := HF.out (by omega)
      have kc : wr.cell? ⟨g, k, none⟩ = some (.int .i64 (L.getD k 0)) := by
        have h1 := HO.out
        rw [← HL.out] at h1
        exact own_cell h1 (by have := HL.out; omega)
      have kf := own_frozen HO.out k
      generalize L.getD k 0 = x at kc
      go_wp2
      refine ⟨⟨k + 1, L.set k (-99), by omega, by go_num, by have := HL.out; simpa [Hid] using this, own_put2 HO.out HL.out hlt _, grown_put HG.out _⟩, by simp [intOf]; omega⟩
    · go_wp2_with (at_builtin; refine wpList_append_own _ rfl _ _ 23 rfl base 3 i0 (.int .i64 0) 1 8 Tryz.underlying23 hi0 hz0 hz1 hz2 rfl (by decide) _ n (ints L) rfl (HO.out.alloc _) ⟨wr.heap.size, 0, none⟩ 1 1 [.int .i64 5] rfl rfl ?c1 ?c2 ?c3 ?c4 ?c5 ?_)
      case c1 => exact (cell_one_new _ _ _)
      case c2 => simp [Value.oneCell']
      case c3 => unfold maxLen; omega
      case c4 => omega
      case c5 => have := HG.out.size; simp; omega
      intro v' w9 _ hgrow _
      have h1 := HG.out
      have h2 : w.grownBy w9 (Value.slice o n c).ownBlock := ⟨hgrow.os.trans h1.os, hgrow.tape.trans h1.tape, hgrow.output.trans h1.output, Nat.le_trans h1.size (Nat.le_trans (by simp) hgrow.size), fun j hj hne => (hgrow.block j (by have := h1.size; simp; omega) hne).trans ((Below.heap_alloc _ _ _ (by have := h1.size; omega)).trans (h1.block j hj hne))⟩
      have H2 := Lib.hid h2
      clear h1 h2 hgrow
      go_wp2
      refine bodyPost_end (results_none rfl _ _ _) rfl ?_
      exact ⟨rfl, H2.out⟩

theorem ov_ld {w : World} {base : Nat} {vs vt : Value} {sh st : List Int} (h : Ov w base vs vt sh st) : Ld w vs sh ∧ Ld w vt st := by
  obtain ⟨_, _, rfl, h1⟩ := Ld.of_owns h.1
  obtain ⟨_, _, rfl, h2⟩ := Ld.of_owns h.2.1
  exact ⟨h1, h2⟩




end Go.Proofs.YtmafgdinegboeaaGreat
