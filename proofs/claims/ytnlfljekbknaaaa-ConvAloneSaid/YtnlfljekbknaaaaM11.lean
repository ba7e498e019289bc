/-
  package conv: Conv refuses numbers that are none.
  package conv: Conv refuses shapes that do not go together.
-/
import Derived.Test.YtnlfljekbknaaaaM06
import Derived.Test.YtnlfljekbknaaaaM09
namespace Go.Proofs.Ytnlfljekbknaaaa
open Go Go.RowKit Go.Shelf
attribute [local go_sem] Oper.semAt_some
set_option maxRecDepth 100000 in
set_option maxHeartbeats 8000000 in
theorem conv_no1 (o1 o2 o3 o4 oq os op ol : Option Addr) (m1 m2 m3 m4 zq zs zp zl c1 c2 c3 c4 cq cs cp cl : Nat) (a da b db : List Int) (f : Int) (w : World)
    (hx : Ld w (.slice o1 m1 c1) a) (hd : Ld w (.slice o2 m2 c2) da) (hw : Ld w (.slice o3 m3 c3) b) (he : Ld w (.slice o4 m4 c4) db) (ta : tnb a da = true) (tb : tnb b db = true) (hf : fb f = true)
    (hcn : ∀ W, Below w.heap.size w W → Calls Try.prog 53 #[.agg #[.slice oq zq cq, .slice os zs cs, .slice op zp cp, .slice ol zl cl]] W fun e w' => e = .returned (.bool false) ∧ Below W.heap.size W w') :
    Calls Try.prog 14 #[.agg #[.slice o1 m1 c1, .slice o2 m2 c2], .agg #[.slice o3 m3 c3, .slice o4 m4 c4], .agg #[.slice oq zq cq, .slice os zs cs, .slice op zp cp, .slice ol zl cl], .int .i64 f] w (SomeT w 1 [] []) := by
  obtain ⟨ma, _, _⟩ := tnb_parts ta
  obtain ⟨mb, _, _⟩ := tnb_parts tb
  have la := may_len ma
  have lb := may_len mb
  have lda := may_prod ma
  have ldb := may_prod mb
  have CA := Lib.hid (fun (W : World) (hW : Below w.heap.size w W) => echeck_any (.slice o1 m1 c1) (.slice o2 m2 c2) a da W (hx.below hW) (hd.below hW) (by omega) (by omega))
  have CB := Lib.hid (fun (W : World) (hW : Below w.heap.size w W) => echeck_any (.slice o3 m3 c3) (.slice o4 m4 c4) b db W (hw.below hW) (he.below hW) (by omega) (by omega))
  have CF := Lib.hid (fun (W : World) => checkf_any f W)
  rw [ta, if_pos rfl] at CA
  rw [tb, if_pos rfl] at CB
  rw [hf, if_pos rfl] at CF
  have CCN := Lib.hid hcn
  obtain ⟨w6, hw6⟩ : ∃ W, W = ((((((w.alloc (.cells #[.slice o1 m1 c1, .slice o2 m2 c2] 26)).alloc (.cells #[.slice o3 m3 c3, .slice o4 m4 c4] 26)).alloc (.cells #[.slice oq zq cq, .slice os zs cs, .slice op zp cp, .slice ol zl cl] 28)).alloc (.cells #[.int .i64 f] 3)).alloc (.cells #[.slice none 0 0, .slice none 0 0] 26)).alloc (.cells #[.int .i64 0] 34)) := ⟨_, rfl⟩
  have B6 : Hid (Below w.heap.size w w6) := Lib.hid (by rw [hw6]; exact ((((((Below.refl _ _).alloc (Nat.le_refl _) _).alloc (by simp) _).alloc (by simp; omega) _).alloc (by simp; omega) _).alloc (by simp; omega) _).alloc (by simp; omega) _)
  have Q0 : Hid (Blk w6 (w.heap.size) 26 #[.slice o1 m1 c1, .slice o2 m2 c2]) := Lib.hid (by
    rw [hw6]
    have q := Blk.new w 26 #[.slice o1 m1 c1, .slice o2 m2 c2]
    try simp only [World.size_alloc] at q
    exact (((((q.alloc _).alloc _).alloc _).alloc _).alloc _))
  have Q1 : Hid (Blk w6 (w.heap.size + 1) 26 #[.slice o3 m3 c3, .slice o4 m4 c4]) := Lib.hid (by
    rw [hw6]
    have q := Blk.new (w.alloc (.cells #[.slice o1 m1 c1, .slice o2 m2 c2] 26)) 26 #[.slice o3 m3 c3, .slice o4 m4 c4]
    try simp only [World.size_alloc] at q
    exact ((((q.alloc _).alloc _).alloc _).alloc _))
  have Q2 : Hid (Blk w6 (w.heap.size + 2) 28 #[.slice oq zq cq, .slice os zs cs, .slice op zp cp, .slice ol zl cl]) := Lib.hid (by
    rw [hw6]
    have q := Blk.new ((w.alloc (.cells #[.slice o1 m1 c1, .slice o2 m2 c2] 26)).alloc (.cells #[.slice o3 m3 c3, .slice o4 m4 c4] 26)) 28 #[.slice oq zq cq, .slice os zs cs, .slice op zp cp, .slice ol zl cl]
    try simp only [World.size_alloc] at q
    exact (((q.alloc _).alloc _).alloc _))
  have Q3 : Hid (Blk w6 (w.heap.size + 3) 3 #[.int .i64 f]) := Lib.hid (by
    rw [hw6]
    have q := Blk.new (((w.alloc (.cells #[.slice o1 m1 c1, .slice o2 m2 c2] 26)).alloc (.cells #[.slice o3 m3 c3, .slice o4 m4 c4] 26)).alloc (.cells #[.slice oq zq cq, .slice os zs cs, .slice op zp cp, .slice ol zl cl] 28)) 3 #[.int .i64 f]
    try simp only [World.size_alloc] at q
    exact ((q.alloc _).alloc _))
  have Q4 : Hid (Blk w6 (w.heap.size + 4) 26 #[.slice none 0 0, .slice none 0 0]) := Lib.hid (by
    rw [hw6]
    have q := Blk.new ((((w.alloc (.cells #[.slice o1 m1 c1, .slice o2 m2 c2] 26)).alloc (.cells #[.slice o3 m3 c3, .slice o4 m4 c4] 26)).alloc (.cells #[.slice oq zq cq, .slice os zs cs, .slice op zp cp, .slice ol zl cl] 28)).alloc (.cells #[.int .i64 f] 3)) 26 #[.slice none 0 0, .slice none 0 0]
    try simp only [World.size_alloc] at q
    exact (q.alloc _))
  have Q5 : Hid (Blk w6 (w.heap.size + 5) 34 #[.int .i64 0]) := Lib.hid (by
    rw [hw6]
    have q := Blk.new (((((w.alloc (.cells #[.slice o1 m1 c1, .slice o2 m2 c2] 26)).alloc (.cells #[.slice o3 m3 c3, .slice o4 m4 c4] 26)).alloc (.cells #[.slice oq zq cq, .slice os zs cs, .slice op zp cp, .slice ol zl cl] 28)).alloc (.cells #[.int .i64 f] 3)).alloc (.cells #[.slice none 0 0, .slice none 0 0] 26)) 34 #[.int .i64 0]
    try simp only [World.size_alloc] at q
    exact q)
  have HW6 := Lib.hid hw6
  have FK : Hid (∀ W, Below w6.heap.size w6 W → Blk W w.heap.size 26 #[.slice o1 m1 c1, .slice o2 m2 c2] ∧ Blk W (w.heap.size + 1) 26 #[.slice o3 m3 c3, .slice o4 m4 c4] ∧ Blk W (w.heap.size + 2) 28 #[.slice oq zq cq, .slice os zs cs, .slice op zp cp, .slice ol zl cl] ∧ Blk W (w.heap.size + 3) 3 #[.int .i64 f] ∧ Blk W (w.heap.size + 4) 26 #[.slice none 0 0, .slice none 0 0] ∧ Blk W (w.heap.size + 5) 34 #[.int .i64 0]) := Lib.hid (fun W hW => ⟨Q0.out.below hW Q0.out.lt, Q1.out.below hW Q1.out.lt, Q2.out.below hW Q2.out.lt, Q3.out.below hW Q3.out.lt, Q4.out.below hW Q4.out.lt, Q5.out.below hW Q5.out.lt⟩)
  have CA6 := Lib.hid (CA.out w6 B6.out)
  clear hw6 hx hd hw he ta tb hf hcn ma mb la lb lda ldb CA
  obtain ⟨k0, k1, k2, k3, k4, k5⟩ := FK.out w6 (Below.refl _ _); obtain ⟨y0, y1, _⟩ := blk2 k0; obtain ⟨y2, y3, _⟩ := blk2 k1; obtain ⟨y4, y5, y6, y7⟩ := blk4c k2; have y8 := k3.cell 0; obtain ⟨v0, v1, f0, f1⟩ := blk2 k4; have v2 := k5.cell 0; have f2 := k5.frozen 0; clear k0 k1 k2 k3 k4 k5
  go_enter Try.func14, Try.ntmps14
  go_upto_region 1 with (fail)
  rw [← HW6.out]
  simp only [Nat.add_assoc, Nat.reduceAdd]
  go_wp2_with (first
    | (go_at_call 51; (with_reducible refine CA6.out.mono ?_); rintro e wa ⟨rfl, hb⟩; have Fa := Lib.hid hb; obtain ⟨k0, k1, k2, k3, k4, k5⟩ := FK.out wa Fa.out; obtain ⟨y0, y1, _⟩ := blk2 k0; obtain ⟨y2, y3, _⟩ := blk2 k1; obtain ⟨y4, y5, y6, y7⟩ := blk4c k2; have y8 := k3.cell 0; obtain ⟨v0, v1, f0, f1⟩ := blk2 k4; have v2 := k5.cell 0; have f2 := k5.frozen 0; clear k0 k1 k2 k3 k4 k5; clear hb)
    | (go_at_call 51; (with_reducible refine (CB.out _ (B6.out.trans (Fa.out.mono B6.out.size))).mono ?_); rintro e wb ⟨rfl, hb⟩; have Fb := Lib.hid (Fa.out.trans (hb.mono Fa.out.size)); obtain ⟨k0, k1, k2, k3, k4, k5⟩ := FK.out wb Fb.out; obtain ⟨y0, y1, _⟩ := blk2 k0; obtain ⟨y2, y3, _⟩ := blk2 k1; obtain ⟨y4, y5, y6, y7⟩ := blk4c k2; have y8 := k3.cell 0; obtain ⟨v0, v1, f0, f1⟩ := blk2 k4; have v2 := k5.cell 0; have f2 := k5.frozen 0; clear k0 k1 k2 k3 k4 k5; clear hb)
    | (go_at_call 52; (with_reducible refine (CF.out _).mono ?_); rintro e w' ⟨rfl, rfl⟩)
    | (go_at_call 53; (with_reducible refine (CCN.out _ (B6.out.trans (Fb.out.mono B6.out.size))).mono ?_); rintro e w7 ⟨rfl, hb⟩; have F7 := Lib.hid (Fb.out.trans (hb.mono Fb.out.size)); obtain ⟨k0, k1, k2, k3, k4, k5⟩ := FK.out w7 F7.out; obtain ⟨y0, y1, _⟩ := blk2 k0; obtain ⟨y2, y3, _⟩ := blk2 k1; obtain ⟨y4, y5, y6, y7⟩ := blk4c k2; have y8 := k3.cell 0; obtain ⟨v0, v1, f0, f1⟩ := blk2 k4; have v2 := k5.cell 0; have f2 := k5.frozen 0; clear k0 k1 k2 k3 k4 k5; clear hb))
  have n45 : w.heap.size + 4 ≠ w.heap.size + 5 := by omega
  have n54 : w.heap.size + 5 ≠ w.heap.size + 4 := by omega
  have k4 := Q4.out.below F7.out Q4.out.lt
  have k5 := Q5.out.below F7.out Q5.out.lt
  have r4 := ((k4.set_ 0 (.slice none 0 0)).set_ 1 (.slice none 0 0)).far (p := ⟨w.heap.size + 5, 0, none⟩) n45 (.int .i64 1)
  have r5 := ((k5.far (p := ⟨w.heap.size + 4, 0, none⟩) n54 (.slice none 0 0)).far (p := ⟨w.heap.size + 4, 1, none⟩) n54 (.slice none 0 0)).set_ 0 (.int .i64 1)
  have rB := (((B6.out.trans (F7.out.mono B6.out.size)).setCell (p := ⟨w.heap.size + 4, 0, none⟩) (by show w.heap.size ≤ w.heap.size + 4; omega) (.slice none 0 0)).setCell (p := ⟨w.heap.size + 4, 1, none⟩) (by show w.heap.size ≤ w.heap.size + 4; omega) (.slice none 0 0)).setCell (p := ⟨w.heap.size + 5, 0, none⟩) (by show w.heap.size ≤ w.heap.size + 5; omega) (.int .i64 1)
  obtain ⟨q0, q1, _⟩ := blk2 r4
  have q2 := r5.cell 0
  refine bodyPost_ret (v := .tuple #[.agg #[.slice none 0 0, .slice none 0 0], .int .i64 1]) (by simp [results, Try.results14, go_sem, q0, q1, q2]) rfl ?_
  exact ⟨none, 0, none, 0, rfl, World.ownsRow_nil _ _ _ _, World.ownsRow_nil _ _ _ _, rB⟩
end Go.Proofs.Ytnlfljekbknaaaa
namespace Go.Proofs.Ytnlfljekbknaaaa
open Go Go.RowKit Go.Shelf
attribute [local go_sem] Oper.semAt_some
set_option maxRecDepth 100000 in
set_option maxHeartbeats 8000000 in
theorem conv_no2a (o1 o2 o3 o4 oq os op ol : Option Addr) (m1 m2 m3 m4 zq zs zp zl c1 c2 c3 c4 cq cs cp cl : Nat) (a da b db : List Int) (f : Int) (w : World)
    (hx : Ld w (.slice o1 m1 c1) a) (hd : Ld w (.slice o2 m2 c2) da) (hw : Ld w (.slice o3 m3 c3) b) (he : Ld w (.slice o4 m4 c4) db) (ta : tnb a da = true) (tb : tnb b db = true) (hf : fb f = true)
    (hcn : ∀ W, Below w.heap.size w W → Calls Try.prog 53 #[.agg #[.slice oq zq cq, .slice os zs cs, .slice op zp cp, .slice ol zl cl]] W fun e w' => e = .returned (.bool true) ∧ Below W.heap.size W w') (h : m1 < 2) :
    Calls Try.prog 14 #[.agg #[.slice o1 m1 c1, .slice o2 m2 c2], .agg #[.slice o3 m3 c3, .slice o4 m4 c4], .agg #[.slice oq zq cq, .slice os zs cs, .slice op zp cp, .slice ol zl cl], .int .i64 f] w (SomeT w 2 [] []) := by
  obtain ⟨ma, _, _⟩ := tnb_parts ta
  obtain ⟨mb, _, _⟩ := tnb_parts tb
  have la := may_len ma
  have lb := may_len mb
  have lda := may_prod ma
  have ldb := may_prod mb
  have CA := Lib.hid (fun (W : World) (hW : Below w.heap.size w W) => echeck_any (.slice o1 m1 c1) (.slice o2 m2 c2) a da W (hx.below hW) (hd.below hW) (by omega) (by omega))
  have CB := Lib.hid (fun (W : World) (hW : Below w.heap.size w W) => echeck_any (.slice o3 m3 c3) (.slice o4 m4 c4) b db W (hw.below hW) (he.below hW) (by omega) (by omega))
  have CF := Lib.hid (fun (W : World) => checkf_any f W)
  rw [ta, if_pos rfl] at CA
  rw [tb, if_pos rfl] at CB
  rw [hf, if_pos rfl] at CF
  have CCN := Lib.hid hcn
  obtain ⟨w6, hw6⟩ : ∃ W, W = ((((((w.alloc (.cells #[.slice o1 m1 c1, .slice o2 m2 c2] 26)).alloc (.cells #[.slice o3 m3 c3, .slice o4 m4 c4] 26)).alloc (.cells #[.slice oq zq cq, .slice os zs cs, .slice op zp cp, .slice ol zl cl] 28)).alloc (.cells #[.int .i64 f] 3)).alloc (.cells #[.slice none 0 0, .slice none 0 0] 26)).alloc (.cells #[.int .i64 0] 34)) := ⟨_, rfl⟩
  have B6 : Hid (Below w.heap.size w w6) := Lib.hid (by rw [hw6]; exact ((((((Below.refl _ _).alloc (Nat.le_refl _) _).alloc (by simp) _).alloc (by simp; omega) _).alloc (by simp; omega) _).alloc (by simp; omega) _).alloc (by simp; omega) _)
  have Q0 : Hid (Blk w6 (w.heap.size) 26 #[.slice o1 m1 c1, .slice o2 m2 c2]) := Lib.hid (by
    rw [hw6]
    have q := Blk.new w 26 #[.slice o1 m1 c1, .slice o2 m2 c2]
    try simp only [World.size_alloc] at q
    exact (((((q.alloc _).alloc _).alloc _).alloc _).alloc _))
  have Q1 : Hid (Blk w6 (w.heap.size + 1) 26 #[.slice o3 m3 c3, .slice o4 m4 c4]) := Lib.hid (by
    rw [hw6]
    have q := Blk.new (w.alloc (.cells #[.slice o1 m1 c1, .slice o2 m2 c2] 26)) 26 #[.slice o3 m3 c3, .slice o4 m4 c4]
    try simp only [World.size_alloc] at q
    exact ((((q.alloc _).alloc _).alloc _).alloc _))
  have Q2 : Hid (Blk w6 (w.heap.size + 2) 28 #[.slice oq zq cq, .slice os zs cs, .slice op zp cp, .slice ol zl cl]) := Lib.hid (by
    rw [hw6]
    have q := Blk.new ((w.alloc (.cells #[.slice o1 m1 c1, .slice o2 m2 c2] 26)).alloc (.cells #[.slice o3 m3 c3, .slice o4 m4 c4] 26)) 28 #[.slice oq zq cq, .slice os zs cs, .slice op zp cp, .slice ol zl cl]
    try simp only [World.size_alloc] at q
    exact (((q.alloc _).alloc _).alloc _))
  have Q3 : Hid (Blk w6 (w.heap.size + 3) 3 #[.int .i64 f]) := Lib.hid (by
    rw [hw6]
    have q := Blk.new (((w.alloc (.cells #[.slice o1 m1 c1, .slice o2 m2 c2] 26)).alloc (.cells #[.slice o3 m3 c3, .slice o4 m4 c4] 26)).alloc (.cells #[.slice oq zq cq, .slice os zs cs, .slice op zp cp, .slice ol zl cl] 28)) 3 #[.int .i64 f]
    try simp only [World.size_alloc] at q
    exact ((q.alloc _).alloc _))
  have Q4 : Hid (Blk w6 (w.heap.size + 4) 26 #[.slice none 0 0, .slice none 0 0]) := Lib.hid (by
    rw [hw6]
    have q := Blk.new ((((w.alloc (.cells #[.slice o1 m1 c1, .slice o2 m2 c2] 26)).alloc (.cells #[.slice o3 m3 c3, .slice o4 m4 c4] 26)).alloc (.cells #[.slice oq zq cq, .slice os zs cs, .slice op zp cp, .slice ol zl cl] 28)).alloc (.cells #[.int .i64 f] 3)) 26 #[.slice none 0 0, .slice none 0 0]
    try simp only [World.size_alloc] at q
    exact (q.alloc _))
  have Q5 : Hid (Blk w6 (w.heap.size + 5) 34 #[.int .i64 0]) := Lib.hid (by
    rw [hw6]
    have q := Blk.new (((((w.alloc (.cells #[.slice o1 m1 c1, .slice o2 m2 c2] 26)).alloc (.cells #[.slice o3 m3 c3, .slice o4 m4 c4] 26)).alloc (.cells #[.slice oq zq cq, .slice os zs cs, .slice op zp cp, .slice ol zl cl] 28)).alloc (.cells #[.int .i64 f] 3)).alloc (.cells #[.slice none 0 0, .slice none 0 0] 26)) 34 #[.int .i64 0]
    try simp only [World.size_alloc] at q
    exact q)
  have HW6 := Lib.hid hw6
  have FK : Hid (∀ W, Below w6.heap.size w6 W → Blk W w.heap.size 26 #[.slice o1 m1 c1, .slice o2 m2 c2] ∧ Blk W (w.heap.size + 1) 26 #[.slice o3 m3 c3, .slice o4 m4 c4] ∧ Blk W (w.heap.size + 2) 28 #[.slice oq zq cq, .slice os zs cs, .slice op zp cp, .slice ol zl cl] ∧ Blk W (w.heap.size + 3) 3 #[.int .i64 f] ∧ Blk W (w.heap.size + 4) 26 #[.slice none 0 0, .slice none 0 0] ∧ Blk W (w.heap.size + 5) 34 #[.int .i64 0]) := Lib.hid (fun W hW => ⟨Q0.out.below hW Q0.out.lt, Q1.out.below hW Q1.out.lt, Q2.out.below hW Q2.out.lt, Q3.out.below hW Q3.out.lt, Q4.out.below hW Q4.out.lt, Q5.out.below hW Q5.out.lt⟩)
  have CA6 := Lib.hid (CA.out w6 B6.out)
  clear hw6 hx hd hw he ta tb hf hcn ma mb la lb lda ldb CA
  obtain ⟨k0, k1, k2, k3, k4, k5⟩ := FK.out w6 (Below.refl _ _); obtain ⟨y0, y1, _⟩ := blk2 k0; obtain ⟨y2, y3, _⟩ := blk2 k1; obtain ⟨y4, y5, y6, y7⟩ := blk4c k2; have y8 := k3.cell 0; obtain ⟨v0, v1, f0, f1⟩ := blk2 k4; have v2 := k5.cell 0; have f2 := k5.frozen 0; clear k0 k1 k2 k3 k4 k5
  go_enter Try.func14, Try.ntmps14
  go_upto_region 1 with (fail)
  rw [← HW6.out]
  simp only [Nat.add_assoc, Nat.reduceAdd]
  go_upto_region 3 with (first
    | (go_at_call 51; (with_reducible refine CA6.out.mono ?_); rintro e wa ⟨rfl, hb⟩; have Fa := Lib.hid hb; obtain ⟨k0, k1, k2, k3, k4, k5⟩ := FK.out wa Fa.out; obtain ⟨y0, y1, _⟩ := blk2 k0; obtain ⟨y2, y3, _⟩ := blk2 k1; obtain ⟨y4, y5, y6, y7⟩ := blk4c k2; have y8 := k3.cell 0; obtain ⟨v0, v1, f0, f1⟩ := blk2 k4; have v2 := k5.cell 0; have f2 := k5.frozen 0; clear k0 k1 k2 k3 k4 k5; clear hb)
    | (go_at_call 51; (with_reducible refine (CB.out _ (B6.out.trans (Fa.out.mono B6.out.size))).mono ?_); rintro e wb ⟨rfl, hb⟩; have Fb := Lib.hid (Fa.out.trans (hb.mono Fa.out.size)); obtain ⟨k0, k1, k2, k3, k4, k5⟩ := FK.out wb Fb.out; obtain ⟨y0, y1, _⟩ := blk2 k0; obtain ⟨y2, y3, _⟩ := blk2 k1; obtain ⟨y4, y5, y6, y7⟩ := blk4c k2; have y8 := k3.cell 0; obtain ⟨v0, v1, f0, f1⟩ := blk2 k4; have v2 := k5.cell 0; have f2 := k5.frozen 0; clear k0 k1 k2 k3 k4 k5; clear hb)
    | (go_at_call 52; (with_reducible refine (CF.out _).mono ?_); rintro e w' ⟨rfl, rfl⟩)
    | (go_at_call 53; (with_reducible refine (CCN.out _ (B6.out.trans (Fb.out.mono B6.out.size))).mono ?_); rintro e w7 ⟨rfl, hb⟩; have F7 := Lib.hid (Fb.out.trans (hb.mono Fb.out.size)); obtain ⟨k0, k1, k2, k3, k4, k5⟩ := FK.out w7 F7.out; obtain ⟨y0, y1, _⟩ := blk2 k0; obtain ⟨y2, y3, _⟩ := blk2 k1; obtain ⟨y4, y5, y6, y7⟩ := blk4c k2; have y8 := k3.cell 0; obtain ⟨v0, v1, f0, f1⟩ := blk2 k4; have v2 := k5.cell 0; have f2 := k5.frozen 0; clear k0 k1 k2 k3 k4 k5; clear hb))
  have d1 : decide ((m1 : Int) < 2) = true := by rw [decide_eq_true_iff]; omega
  have d2 : decide (m1 < 2) = true := by rw [decide_eq_true_iff]; omega
  go_quiet (fail)
  clear d1 d2
  have F8 : Hid (Below w6.heap.size w6 (w7.drewN nq)) := Lib.hid (F7.out.trans ((below_drw (Below.refl w7.heap.size w7) nq).mono F7.out.size))
  obtain ⟨w8, hw8⟩ : ∃ W, W = w7.drewN nq := ⟨_, rfl⟩
  rw [← hw8] at F8 ⊢
  clear hw8
  obtain ⟨k0, k1, k2, k3, k4, k5⟩ := FK.out w8 F8.out; obtain ⟨y0, y1, _⟩ := blk2 k0; obtain ⟨y2, y3, _⟩ := blk2 k1; obtain ⟨y4, y5, y6, y7⟩ := blk4c k2; have y8 := k3.cell 0; obtain ⟨v0, v1, f0, f1⟩ := blk2 k4; have v2 := k5.cell 0; have f2 := k5.frozen 0; clear k0 k1 k2 k3 k4 k5
  go_wp2
  have n45 : w.heap.size + 4 ≠ w.heap.size + 5 := by omega
  have n54 : w.heap.size + 5 ≠ w.heap.size + 4 := by omega
  have k4 := Q4.out.below F8.out Q4.out.lt
  have k5 := Q5.out.below F8.out Q5.out.lt
  have r4 := ((k4.set_ 0 (.slice none 0 0)).set_ 1 (.slice none 0 0)).far (p := ⟨w.heap.size + 5, 0, none⟩) n45 (.int .i64 2)
  have r5 := ((k5.far (p := ⟨w.heap.size + 4, 0, none⟩) n54 (.slice none 0 0)).far (p := ⟨w.heap.size + 4, 1, none⟩) n54 (.slice none 0 0)).set_ 0 (.int .i64 2)
  have rB := (((B6.out.trans (F8.out.mono B6.out.size)).setCell (p := ⟨w.heap.size + 4, 0, none⟩) (by show w.heap.size ≤ w.heap.size + 4; omega) (.slice none 0 0)).setCell (p := ⟨w.heap.size + 4, 1, none⟩) (by show w.heap.size ≤ w.heap.size + 4; omega) (.slice none 0 0)).setCell (p := ⟨w.heap.size + 5, 0, none⟩) (by show w.heap.size ≤ w.heap.size + 5; omega) (.int .i64 2)
  obtain ⟨q0, q1, _⟩ := blk2 r4
  have q2 := r5.cell 0
  refine bodyPost_ret (v := .tuple #[.agg #[.slice none 0 0, .slice none 0 0], .int .i64 2]) (by simp [results, Try.results14, go_sem, q0, q1, q2]) rfl ?_
  exact ⟨none, 0, none, 0, rfl, World.ownsRow_nil _ _ _ _, World.ownsRow_nil _ _ _ _, rB⟩
set_option maxRecDepth 100000 in
set_option maxHeartbeats 8000000 in
theorem conv_no2b (o1 o2 o3 o4 oq os op ol : Option Addr) (m1 m2 m3 m4 zq zs zp zl c1 c2 c3 c4 cq cs cp cl : Nat) (a da b db : List Int) (f : Int) (w : World)
    (hx : Ld w (.slice o1 m1 c1) a) (hd : Ld w (.slice o2 m2 c2) da) (hw : Ld w (.slice o3 m3 c3) b) (he : Ld w (.slice o4 m4 c4) db) (ta : tnb a da = true) (tb : tnb b db = true) (hf : fb f = true)
    (hcn : ∀ W, Below w.heap.size w W → Calls Try.prog 53 #[.agg #[.slice oq zq cq, .slice os zs cs, .slice op zp cp, .slice ol zl cl]] W fun e w' => e = .returned (.bool true) ∧ Below W.heap.size W w') (h : 2 ≤ m1) (h2 : ¬ m3 = m1) :
    Calls Try.prog 14 #[.agg #[.slice o1 m1 c1, .slice o2 m2 c2], .agg #[.slice o3 m3 c3, .slice o4 m4 c4], .agg #[.slice oq zq cq, .slice os zs cs, .slice op zp cp, .slice ol zl cl], .int .i64 f] w (SomeT w 2 [] []) := by
  obtain ⟨ma, _, _⟩ := tnb_parts ta
  obtain ⟨mb, _, _⟩ := tnb_parts tb
  have la := may_len ma
  have lb := may_len mb
  have lda := may_prod ma
  have ldb := may_prod mb
  have CA := Lib.hid (fun (W : World) (hW : Below w.heap.size w W) => echeck_any (.slice o1 m1 c1) (.slice o2 m2 c2) a da W (hx.below hW) (hd.below hW) (by omega) (by omega))
  have CB := Lib.hid (fun (W : World) (hW : Below w.heap.size w W) => echeck_any (.slice o3 m3 c3) (.slice o4 m4 c4) b db W (hw.below hW) (he.below hW) (by omega) (by omega))
  have CF := Lib.hid (fun (W : World) => checkf_any f W)
  rw [ta, if_pos rfl] at CA
  rw [tb, if_pos rfl] at CB
  rw [hf, if_pos rfl] at CF
  have CCN := Lib.hid hcn
  obtain ⟨w6, hw6⟩ : ∃ W, W = ((((((w.alloc (.cells #[.slice o1 m1 c1, .slice o2 m2 c2] 26)).alloc (.cells #[.slice o3 m3 c3, .slice o4 m4 c4] 26)).alloc (.cells #[.slice oq zq cq, .slice os zs cs, .slice op zp cp, .slice ol zl cl] 28)).alloc (.cells #[.int .i64 f] 3)).alloc (.cells #[.slice none 0 0, .slice none 0 0] 26)).alloc (.cells #[.int .i64 0] 34)) := ⟨_, rfl⟩
  have B6 : Hid (Below w.heap.size w w6) := Lib.hid (by rw [hw6]; exact ((((((Below.refl _ _).alloc (Nat.le_refl _) _).alloc (by simp) _).alloc (by simp; omega) _).alloc (by simp; omega) _).alloc (by simp; omega) _).alloc (by simp; omega) _)
  have Q0 : Hid (Blk w6 (w.heap.size) 26 #[.slice o1 m1 c1, .slice o2 m2 c2]) := Lib.hid (by
    rw [hw6]
    have q := Blk.new w 26 #[.slice o1 m1 c1, .slice o2 m2 c2]
    try simp only [World.size_alloc] at q
    exact (((((q.alloc _).alloc _).alloc _).alloc _).alloc _))
  have Q1 : Hid (Blk w6 (w.heap.size + 1) 26 #[.slice o3 m3 c3, .slice o4 m4 c4]) := Lib.hid (by
    rw [hw6]
    have q := Blk.new (w.alloc (.cells #[.slice o1 m1 c1, .slice o2 m2 c2] 26)) 26 #[.slice o3 m3 c3, .slice o4 m4 c4]
    try simp only [World.size_alloc] at q
    exact ((((q.alloc _).alloc _).alloc _).alloc _))
  have Q2 : Hid (Blk w6 (w.heap.size + 2) 28 #[.slice oq zq cq, .slice os zs cs, .slice op zp cp, .slice ol zl cl]) := Lib.hid (by
    rw [hw6]
    have q := Blk.new ((w.alloc (.cells #[.slice o1 m1 c1, .slice o2 m2 c2] 26)).alloc (.cells #[.slice o3 m3 c3, .slice o4 m4 c4] 26)) 28 #[.slice oq zq cq, .slice os zs cs, .slice op zp cp, .slice ol zl cl]
    try simp only [World.size_alloc] at q
    exact (((q.alloc _).alloc _).alloc _))
  have Q3 : Hid (Blk w6 (w.heap.size + 3) 3 #[.int .i64 f]) := Lib.hid (by
    rw [hw6]
    have q := Blk.new (((w.alloc (.cells #[.slice o1 m1 c1, .slice o2 m2 c2] 26)).alloc (.cells #[.slice o3 m3 c3, .slice o4 m4 c4] 26)).alloc (.cells #[.slice oq zq cq, .slice os zs cs, .slice op zp cp, .slice ol zl cl] 28)) 3 #[.int .i64 f]
    try simp only [World.size_alloc] at q
    exact ((q.alloc _).alloc _))
  have Q4 : Hid (Blk w6 (w.heap.size + 4) 26 #[.slice none 0 0, .slice none 0 0]) := Lib.hid (by
    rw [hw6]
    have q := Blk.new ((((w.alloc (.cells #[.slice o1 m1 c1, .slice o2 m2 c2] 26)).alloc (.cells #[.slice o3 m3 c3, .slice o4 m4 c4] 26)).alloc (.cells #[.slice oq zq cq, .slice os zs cs, .slice op zp cp, .slice ol zl cl] 28)).alloc (.cells #[.int .i64 f] 3)) 26 #[.slice none 0 0, .slice none 0 0]
    try simp only [World.size_alloc] at q
    exact (q.alloc _))
  have Q5 : Hid (Blk w6 (w.heap.size + 5) 34 #[.int .i64 0]) := Lib.hid (by
    rw [hw6]
    have q := Blk.new (((((w.alloc (.cells #[.slice o1 m1 c1, .slice o2 m2 c2] 26)).alloc (.cells #[.slice o3 m3 c3, .slice o4 m4 c4] 26)).alloc (.cells #[.slice oq zq cq, .slice os zs cs, .slice op zp cp, .slice ol zl cl] 28)).alloc (.cells #[.int .i64 f] 3)).alloc (.cells #[.slice none 0 0, .slice none 0 0] 26)) 34 #[.int .i64 0]
    try simp only [World.size_alloc] at q
    exact q)
  have HW6 := Lib.hid hw6
  have FK : Hid (∀ W, Below w6.heap.size w6 W → Blk W w.heap.size 26 #[.slice o1 m1 c1, .slice o2 m2 c2] ∧ Blk W (w.heap.size + 1) 26 #[.slice o3 m3 c3, .slice o4 m4 c4] ∧ Blk W (w.heap.size + 2) 28 #[.slice oq zq cq, .slice os zs cs, .slice op zp cp, .slice ol zl cl] ∧ Blk W (w.heap.size + 3) 3 #[.int .i64 f] ∧ Blk W (w.heap.size + 4) 26 #[.slice none 0 0, .slice none 0 0] ∧ Blk W (w.heap.size + 5) 34 #[.int .i64 0]) := Lib.hid (fun W hW => ⟨Q0.out.below hW Q0.out.lt, Q1.out.below hW Q1.out.lt, Q2.out.below hW Q2.out.lt, Q3.out.below hW Q3.out.lt, Q4.out.below hW Q4.out.lt, Q5.out.below hW Q5.out.lt⟩)
  have CA6 := Lib.hid (CA.out w6 B6.out)
  clear hw6 hx hd hw he ta tb hf hcn ma mb la lb lda ldb CA
  obtain ⟨k0, k1, k2, k3, k4, k5⟩ := FK.out w6 (Below.refl _ _); obtain ⟨y0, y1, _⟩ := blk2 k0; obtain ⟨y2, y3, _⟩ := blk2 k1; obtain ⟨y4, y5, y6, y7⟩ := blk4c k2; have y8 := k3.cell 0; obtain ⟨v0, v1, f0, f1⟩ := blk2 k4; have v2 := k5.cell 0; have f2 := k5.frozen 0; clear k0 k1 k2 k3 k4 k5
  go_enter Try.func14, Try.ntmps14
  go_upto_region 1 with (fail)
  rw [← HW6.out]
  simp only [Nat.add_assoc, Nat.reduceAdd]
  go_upto_region 3 with (first
    | (go_at_call 51; (with_reducible refine CA6.out.mono ?_); rintro e wa ⟨rfl, hb⟩; have Fa := Lib.hid hb; obtain ⟨k0, k1, k2, k3, k4, k5⟩ := FK.out wa Fa.out; obtain ⟨y0, y1, _⟩ := blk2 k0; obtain ⟨y2, y3, _⟩ := blk2 k1; obtain ⟨y4, y5, y6, y7⟩ := blk4c k2; have y8 := k3.cell 0; obtain ⟨v0, v1, f0, f1⟩ := blk2 k4; have v2 := k5.cell 0; have f2 := k5.frozen 0; clear k0 k1 k2 k3 k4 k5; clear hb)
    | (go_at_call 51; (with_reducible refine (CB.out _ (B6.out.trans (Fa.out.mono B6.out.size))).mono ?_); rintro e wb ⟨rfl, hb⟩; have Fb := Lib.hid (Fa.out.trans (hb.mono Fa.out.size)); obtain ⟨k0, k1, k2, k3, k4, k5⟩ := FK.out wb Fb.out; obtain ⟨y0, y1, _⟩ := blk2 k0; obtain ⟨y2, y3, _⟩ := blk2 k1; obtain ⟨y4, y5, y6, y7⟩ := blk4c k2; have y8 := k3.cell 0; obtain ⟨v0, v1, f0, f1⟩ := blk2 k4; have v2 := k5.cell 0; have f2 := k5.frozen 0; clear k0 k1 k2 k3 k4 k5; clear hb)
    | (go_at_call 52; (with_reducible refine (CF.out _).mono ?_); rintro e w' ⟨rfl, rfl⟩)
    | (go_at_call 53; (with_reducible refine (CCN.out _ (B6.out.trans (Fb.out.mono B6.out.size))).mono ?_); rintro e w7 ⟨rfl, hb⟩; have F7 := Lib.hid (Fb.out.trans (hb.mono Fb.out.size)); obtain ⟨k0, k1, k2, k3, k4, k5⟩ := FK.out w7 F7.out; obtain ⟨y0, y1, _⟩ := blk2 k0; obtain ⟨y2, y3, _⟩ := blk2 k1; obtain ⟨y4, y5, y6, y7⟩ := blk4c k2; have y8 := k3.cell 0; obtain ⟨v0, v1, f0, f1⟩ := blk2 k4; have v2 := k5.cell 0; have f2 := k5.frozen 0; clear k0 k1 k2 k3 k4 k5; clear hb))
  have d0 : ¬ m1 < 2 := by omega
  have d1 : decide ((m1 : Int) < 2) = false := by rw [decide_eq_false_iff_not]; omega
  have d2 : decide (m1 < 2) = false := by rw [decide_eq_false_iff_not]; omega
  have d3 : ((m3 : Int) == (m1 : Int)) = false := by rw [beq_eq_false_iff_ne]; omega
  have d4 : ((m3 : Int) != (m1 : Int)) = true := by rw [bne_iff_ne]; omega
  go_quiet (fail)
  clear d0 d1 d2 d3 d4
  have F8 : Hid (Below w6.heap.size w6 (w7.drewN nq)) := Lib.hid (F7.out.trans ((below_drw (Below.refl w7.heap.size w7) nq).mono F7.out.size))
  obtain ⟨w8, hw8⟩ : ∃ W, W = w7.drewN nq := ⟨_, rfl⟩
  rw [← hw8] at F8 ⊢
  clear hw8
  obtain ⟨k0, k1, k2, k3, k4, k5⟩ := FK.out w8 F8.out; obtain ⟨y0, y1, _⟩ := blk2 k0; obtain ⟨y2, y3, _⟩ := blk2 k1; obtain ⟨y4, y5, y6, y7⟩ := blk4c k2; have y8 := k3.cell 0; obtain ⟨v0, v1, f0, f1⟩ := blk2 k4; have v2 := k5.cell 0; have f2 := k5.frozen 0; clear k0 k1 k2 k3 k4 k5
  go_wp2
  have n45 : w.heap.size + 4 ≠ w.heap.size + 5 := by omega
  have n54 : w.heap.size + 5 ≠ w.heap.size + 4 := by omega
  have k4 := Q4.out.below F8.out Q4.out.lt
  have k5 := Q5.out.below F8.out Q5.out.lt
  have r4 := ((k4.set_ 0 (.slice none 0 0)).set_ 1 (.slice none 0 0)).far (p := ⟨w.heap.size + 5, 0, none⟩) n45 (.int .i64 2)
  have r5 := ((k5.far (p := ⟨w.heap.size + 4, 0, none⟩) n54 (.slice none 0 0)).far (p := ⟨w.heap.size + 4, 1, none⟩) n54 (.slice none 0 0)).set_ 0 (.int .i64 2)
  have rB := (((B6.out.trans (F8.out.mono B6.out.size)).setCell (p := ⟨w.heap.size + 4, 0, none⟩) (by show w.heap.size ≤ w.heap.size + 4; omega) (.slice none 0 0)).setCell (p := ⟨w.heap.size + 4, 1, none⟩) (by show w.heap.size ≤ w.heap.size + 4; omega) (.slice none 0 0)).setCell (p := ⟨w.heap.size + 5, 0, none⟩) (by show w.heap.size ≤ w.heap.size + 5; omega) (.int .i64 2)
  obtain ⟨q0, q1, _⟩ := blk2 r4
  have q2 := r5.cell 0
  refine bodyPost_ret (v := .tuple #[.agg #[.slice none 0 0, .slice none 0 0], .int .i64 2]) (by simp [results, Try.results14, go_sem, q0, q1, q2]) rfl ?_
  exact ⟨none, 0, none, 0, rfl, World.ownsRow_nil _ _ _ _, World.ownsRow_nil _ _ _ _, rB⟩
set_option maxRecDepth 100000 in
set_option maxHeartbeats 8000000 in
theorem conv_no2c (bs fs bt ft : Nat) (o2 o4 oq os op ol : Option Addr) (m1 m2 m4 zq zs zp zl c1 c2 c3 c4 cq cs cp cl : Nat) (a da b db : List Int) (f : Int) (w : World)
    (hx : Ld w (.slice (some ⟨bs, fs, none⟩) m1 c1) a) (hd : Ld w (.slice o2 m2 c2) da) (hw : Ld w (.slice (some ⟨bt, ft, none⟩) m1 c3) b) (he : Ld w (.slice o4 m4 c4) db) (ta : tnb a da = true) (tb : tnb b db = true) (hf : fb f = true)
    (hcn : ∀ W, Below w.heap.size w W → Calls Try.prog 53 #[.agg #[.slice oq zq cq, .slice os zs cs, .slice op zp cp, .slice ol zl cl]] W fun e w' => e = .returned (.bool true) ∧ Below W.heap.size W w') (h : 2 ≤ m1) (X1 W1 : Int) (gx : a.getD 1 0 = X1) (gw : b.getD 1 0 = W1) (h3 : ¬ W1 = X1) :
    Calls Try.prog 14 #[.agg #[.slice (some ⟨bs, fs, none⟩) m1 c1, .slice o2 m2 c2], .agg #[.slice (some ⟨bt, ft, none⟩) m1 c3, .slice o4 m4 c4], .agg #[.slice oq zq cq, .slice os zs cs, .slice op zp cp, .slice ol zl cl], .int .i64 f] w (SomeT w 2 [] []) := by
  obtain ⟨bs', fs', e1, hbs, xs1⟩ := (show ∃ b f, ((some ⟨bs, fs, none⟩) : Option Addr) = some ⟨b, f, none⟩ ∧ b < w.heap.size ∧ w.cell? ⟨b, f + 1, none⟩ = some (.int .i64 (a.getD 1 0)) from by
    obtain ⟨o, c, e, hc, z⟩ := hx
    simp only [Value.slice.injEq] at e
    obtain ⟨rfl, e2, rfl⟩ := e
    exact z 1 (by omega))
  obtain ⟨bt', ft', e2, hbt, xt1⟩ := (show ∃ b' f, ((some ⟨bt, ft, none⟩) : Option Addr) = some ⟨b', f, none⟩ ∧ b' < w.heap.size ∧ w.cell? ⟨b', f + 1, none⟩ = some (.int .i64 (b.getD 1 0)) from by
    obtain ⟨o, c, e, hc, z⟩ := hw
    simp only [Value.slice.injEq] at e
    obtain ⟨rfl, e2, rfl⟩ := e
    exact z 1 (by omega))
  simp only [Option.some.injEq, Addr.mk.injEq, and_true] at e1 e2
  obtain ⟨rfl, rfl⟩ := e1
  obtain ⟨rfl, rfl⟩ := e2
  rw [gx] at xs1
  rw [gw] at xt1
  have HXC := Lib.hid (And.intro hbs (And.intro hbt (And.intro xs1 xt1)))
  clear hbs hbt xs1 xt1 gx gw
  obtain ⟨ma, _, _⟩ := tnb_parts ta
  obtain ⟨mb, _, _⟩ := tnb_parts tb
  have la := may_len ma
  have lb := may_len mb
  have lda := may_prod ma
  have ldb := may_prod mb
  have CA := Lib.hid (fun (W : World) (hW : Below w.heap.size w W) => echeck_any (.slice (some ⟨bs, fs, none⟩) m1 c1) (.slice o2 m2 c2) a da W (hx.below hW) (hd.below hW) (by omega) (by omega))
  have CB := Lib.hid (fun (W : World) (hW : Below w.heap.size w W) => echeck_any (.slice (some ⟨bt, ft, none⟩) m1 c3) (.slice o4 m4 c4) b db W (hw.below hW) (he.below hW) (by omega) (by omega))
  have CF := Lib.hid (fun (W : World) => checkf_any f W)
  rw [ta, if_pos rfl] at CA
  rw [tb, if_pos rfl] at CB
  rw [hf, if_pos rfl] at CF
  have CCN := Lib.hid hcn
  obtain ⟨w6, hw6⟩ : ∃ W, W = ((((((w.alloc (.cells #[.slice (some ⟨bs, fs, none⟩) m1 c1, .slice o2 m2 c2] 26)).alloc (.cells #[.slice (some ⟨bt, ft, none⟩) m1 c3, .slice o4 m4 c4] 26)).alloc (.cells #[.slice oq zq cq, .slice os zs cs, .slice op zp cp, .slice ol zl cl] 28)).alloc (.cells #[.int .i64 f] 3)).alloc (.cells #[.slice none 0 0, .slice none 0 0] 26)).alloc (.cells #[.int .i64 0] 34)) := ⟨_, rfl⟩
  have B6 : Hid (Below w.heap.size w w6) := Lib.hid (by rw [hw6]; exact ((((((Below.refl _ _).alloc (Nat.le_refl _) _).alloc (by simp) _).alloc (by simp; omega) _).alloc (by simp; omega) _).alloc (by simp; omega) _).alloc (by simp; omega) _)
  have Q0 : Hid (Blk w6 (w.heap.size) 26 #[.slice (some ⟨bs, fs, none⟩) m1 c1, .slice o2 m2 c2]) := Lib.hid (by
    rw [hw6]
    have q := Blk.new w 26 #[.slice (some ⟨bs, fs, none⟩) m1 c1, .slice o2 m2 c2]
    try simp only [World.size_alloc] at q
    exact (((((q.alloc _).alloc _).alloc _).alloc _).alloc _))
  have Q1 : Hid (Blk w6 (w.heap.size + 1) 26 #[.slice (some ⟨bt, ft, none⟩) m1 c3, .slice o4 m4 c4]) := Lib.hid (by
    rw [hw6]
    have q := Blk.new (w.alloc (.cells #[.slice (some ⟨bs, fs, none⟩) m1 c1, .slice o2 m2 c2] 26)) 26 #[.slice (some ⟨bt, ft, none⟩) m1 c3, .slice o4 m4 c4]
    try simp only [World.size_alloc] at q
    exact ((((q.alloc _).alloc _).alloc _).alloc _))
  have Q2 : Hid (Blk w6 (w.heap.size + 2) 28 #[.slice oq zq cq, .slice os zs cs, .slice op zp cp, .slice ol zl cl]) := Lib.hid (by
    rw [hw6]
    have q := Blk.new ((w.alloc (.cells #[.slice (some ⟨bs, fs, none⟩) m1 c1, .slice o2 m2 c2] 26)).alloc (.cells #[.slice (some ⟨bt, ft, none⟩) m1 c3, .slice o4 m4 c4] 26)) 28 #[.slice oq zq cq, .slice os zs cs, .slice op zp cp, .slice ol zl cl]
    try simp only [World.size_alloc] at q
    exact (((q.alloc _).alloc _).alloc _))
  have Q3 : Hid (Blk w6 (w.heap.size + 3) 3 #[.int .i64 f]) := Lib.hid (by
    rw [hw6]
    have q := Blk.new (((w.alloc (.cells #[.slice (some ⟨bs, fs, none⟩) m1 c1, .slice o2 m2 c2] 26)).alloc (.cells #[.slice (some ⟨bt, ft, none⟩) m1 c3, .slice o4 m4 c4] 26)).alloc (.cells #[.slice oq zq cq, .slice os zs cs, .slice op zp cp, .slice ol zl cl] 28)) 3 #[.int .i64 f]
    try simp only [World.size_alloc] at q
    exact ((q.alloc _).alloc _))
  have Q4 : Hid (Blk w6 (w.heap.size + 4) 26 #[.slice none 0 0, .slice none 0 0]) := Lib.hid (by
    rw [hw6]
    have q := Blk.new ((((w.alloc (.cells #[.slice (some ⟨bs, fs, none⟩) m1 c1, .slice o2 m2 c2] 26)).alloc (.cells #[.slice (some ⟨bt, ft, none⟩) m1 c3, .slice o4 m4 c4] 26)).alloc (.cells #[.slice oq zq cq, .slice os zs cs, .slice op zp cp, .slice ol zl cl] 28)).alloc (.cells #[.int .i64 f] 3)) 26 #[.slice none 0 0, .slice none 0 0]
    try simp only [World.size_alloc] at q
    exact (q.alloc _))
  have Q5 : Hid (Blk w6 (w.heap.size + 5) 34 #[.int .i64 0]) := Lib.hid (by
    rw [hw6]
    have q := Blk.new (((((w.alloc (.cells #[.slice (some ⟨bs, fs, none⟩) m1 c1, .slice o2 m2 c2] 26)).alloc (.cells #[.slice (some ⟨bt, ft, none⟩) m1 c3, .slice o4 m4 c4] 26)).alloc (.cells #[.slice oq zq cq, .slice os zs cs, .slice op zp cp, .slice ol zl cl] 28)).alloc (.cells #[.int .i64 f] 3)).alloc (.cells #[.slice none 0 0, .slice none 0 0] 26)) 34 #[.int .i64 0]
    try simp only [World.size_alloc] at q
    exact q)
  have HW6 := Lib.hid hw6
  have FK : Hid (∀ W, Below w6.heap.size w6 W → Blk W w.heap.size 26 #[.slice (some ⟨bs, fs, none⟩) m1 c1, .slice o2 m2 c2] ∧ Blk W (w.heap.size + 1) 26 #[.slice (some ⟨bt, ft, none⟩) m1 c3, .slice o4 m4 c4] ∧ Blk W (w.heap.size + 2) 28 #[.slice oq zq cq, .slice os zs cs, .slice op zp cp, .slice ol zl cl] ∧ Blk W (w.heap.size + 3) 3 #[.int .i64 f] ∧ Blk W (w.heap.size + 4) 26 #[.slice none 0 0, .slice none 0 0] ∧ Blk W (w.heap.size + 5) 34 #[.int .i64 0]) := Lib.hid (fun W hW => ⟨Q0.out.below hW Q0.out.lt, Q1.out.below hW Q1.out.lt, Q2.out.below hW Q2.out.lt, Q3.out.below hW Q3.out.lt, Q4.out.below hW Q4.out.lt, Q5.out.below hW Q5.out.lt⟩)
  have CA6 := Lib.hid (CA.out w6 B6.out)
  clear hw6 hx hd hw he ta tb hf hcn ma mb la lb lda ldb CA
  obtain ⟨k0, k1, k2, k3, k4, k5⟩ := FK.out w6 (Below.refl _ _); obtain ⟨y0, y1, _⟩ := blk2 k0; obtain ⟨y2, y3, _⟩ := blk2 k1; obtain ⟨y4, y5, y6, y7⟩ := blk4c k2; have y8 := k3.cell 0; obtain ⟨v0, v1, f0, f1⟩ := blk2 k4; have v2 := k5.cell 0; have f2 := k5.frozen 0; clear k0 k1 k2 k3 k4 k5
  go_enter Try.func14, Try.ntmps14
  go_upto_region 1 with (fail)
  rw [← HW6.out]
  simp only [Nat.add_assoc, Nat.reduceAdd]
  go_upto_region 3 with (first
    | (go_at_call 51; (with_reducible refine CA6.out.mono ?_); rintro e wa ⟨rfl, hb⟩; have Fa := Lib.hid hb; obtain ⟨k0, k1, k2, k3, k4, k5⟩ := FK.out wa Fa.out; obtain ⟨y0, y1, _⟩ := blk2 k0; obtain ⟨y2, y3, _⟩ := blk2 k1; obtain ⟨y4, y5, y6, y7⟩ := blk4c k2; have y8 := k3.cell 0; obtain ⟨v0, v1, f0, f1⟩ := blk2 k4; have v2 := k5.cell 0; have f2 := k5.frozen 0; clear k0 k1 k2 k3 k4 k5; clear hb)
    | (go_at_call 51; (with_reducible refine (CB.out _ (B6.out.trans (Fa.out.mono B6.out.size))).mono ?_); rintro e wb ⟨rfl, hb⟩; have Fb := Lib.hid (Fa.out.trans (hb.mono Fa.out.size)); obtain ⟨k0, k1, k2, k3, k4, k5⟩ := FK.out wb Fb.out; obtain ⟨y0, y1, _⟩ := blk2 k0; obtain ⟨y2, y3, _⟩ := blk2 k1; obtain ⟨y4, y5, y6, y7⟩ := blk4c k2; have y8 := k3.cell 0; obtain ⟨v0, v1, f0, f1⟩ := blk2 k4; have v2 := k5.cell 0; have f2 := k5.frozen 0; clear k0 k1 k2 k3 k4 k5; clear hb)
    | (go_at_call 52; (with_reducible refine (CF.out _).mono ?_); rintro e w' ⟨rfl, rfl⟩)
    | (go_at_call 53; (with_reducible refine (CCN.out _ (B6.out.trans (Fb.out.mono B6.out.size))).mono ?_); rintro e w7 ⟨rfl, hb⟩; have F7 := Lib.hid (Fb.out.trans (hb.mono Fb.out.size)); obtain ⟨k0, k1, k2, k3, k4, k5⟩ := FK.out w7 F7.out; obtain ⟨y0, y1, _⟩ := blk2 k0; obtain ⟨y2, y3, _⟩ := blk2 k1; obtain ⟨y4, y5, y6, y7⟩ := blk4c k2; have y8 := k3.cell 0; obtain ⟨v0, v1, f0, f1⟩ := blk2 k4; have v2 := k5.cell 0; have f2 := k5.frozen 0; clear k0 k1 k2 k3 k4 k5; clear hb))
  obtain ⟨z1, z2, z3, z4⟩ := HXC.out
  have zk := B6.out.trans (F7.out.mono B6.out.size)
  have k6 := (zk.cell (p := ⟨bs, fs + 1, none⟩) z1).trans z3
  have k7 := (zk.cell (p := ⟨bt, ft + 1, none⟩) z2).trans z4
  clear z1 z2 z3 z4 zk
  have g1 : (1 : Int) < (m1 : Int) := by omega
  have g2 : 1 < m1 := by omega
  have d1 : decide ((m1 : Int) < 2) = false := by rw [decide_eq_false_iff_not]; omega
  have d2 : decide (m1 < 2) = false := by rw [decide_eq_false_iff_not]; omega
  have d3 : (W1 == X1) = false := by rw [beq_eq_false_iff_ne]; omega
  have d4 : (W1 != X1) = true := by rw [bne_iff_ne]; omega
  go_quiet (fail)
  clear d1 d2 d3 d4 g1 g2
  have F8 : Hid (Below w6.heap.size w6 (w7.drewN nq)) := Lib.hid (F7.out.trans ((below_drw (Below.refl w7.heap.size w7) nq).mono F7.out.size))
  obtain ⟨w8, hw8⟩ : ∃ W, W = w7.drewN nq := ⟨_, rfl⟩
  rw [← hw8] at F8 ⊢
  clear hw8
  obtain ⟨k0, k1, k2, k3, k4, k5⟩ := FK.out w8 F8.out; obtain ⟨y0, y1, _⟩ := blk2 k0; obtain ⟨y2, y3, _⟩ := blk2 k1; obtain ⟨y4, y5, y6, y7⟩ := blk4c k2; have y8 := k3.cell 0; obtain ⟨v0, v1, f0, f1⟩ := blk2 k4; have v2 := k5.cell 0; have f2 := k5.frozen 0; clear k0 k1 k2 k3 k4 k5
  go_wp2
  have n45 : w.heap.size + 4 ≠ w.heap.size + 5 := by omega
  have n54 : w.heap.size + 5 ≠ w.heap.size + 4 := by omega
  have k4 := Q4.out.below F8.out Q4.out.lt
  have k5 := Q5.out.below F8.out Q5.out.lt
  have r4 := ((k4.set_ 0 (.slice none 0 0)).set_ 1 (.slice none 0 0)).far (p := ⟨w.heap.size + 5, 0, none⟩) n45 (.int .i64 2)
  have r5 := ((k5.far (p := ⟨w.heap.size + 4, 0, none⟩) n54 (.slice none 0 0)).far (p := ⟨w.heap.size + 4, 1, none⟩) n54 (.slice none 0 0)).set_ 0 (.int .i64 2)
  have rB := (((B6.out.trans (F8.out.mono B6.out.size)).setCell (p := ⟨w.heap.size + 4, 0, none⟩) (by show w.heap.size ≤ w.heap.size + 4; omega) (.slice none 0 0)).setCell (p := ⟨w.heap.size + 4, 1, none⟩) (by show w.heap.size ≤ w.heap.size + 4; omega) (.slice none 0 0)).setCell (p := ⟨w.heap.size + 5, 0, none⟩) (by show w.heap.size ≤ w.heap.size + 5; omega) (.int .i64 2)
  obtain ⟨q0, q1, _⟩ := blk2 r4
  have q2 := r5.cell 0
  refine bodyPost_ret (v := .tuple #[.agg #[.slice none 0 0, .slice none 0 0], .int .i64 2]) (by simp [results, Try.results14, go_sem, q0, q1, q2]) rfl ?_
  exact ⟨none, 0, none, 0, rfl, World.ownsRow_nil _ _ _ _, World.ownsRow_nil _ _ _ _, rB⟩
end Go.Proofs.Ytnlfljekbknaaaa
