/-
  package conv: Conv where there is no window, and where its answer is no tensor.
-/
import Derived.Test.YtnlfljekbknaaaaM10
namespace Go.Proofs.Ytnlfljekbknaaaa
open Go Go.RowKit Go.Shelf
attribute [local go_sem] Oper.semAt_some
set_option maxRecDepth 100000 in
set_option maxHeartbeats 8000000 in
theorem conv_no3 (vs vd vt ve : Value) (oq os op ol : Option Addr) (zq zs zp zl cq cs cp cl : Nat) (a da b db : List Int) (f NX NK CH : Nat) (w : World)
    (hx : Ld w vs a) (hd : Ld w vd da) (hw : Ld w vt b) (he : Ld w ve db) (ta : tnb a da = true) (tb : tnb b db = true) (hf : fb (f : Nat) = true)
    (hcn : ∀ W, Below w.heap.size w W → Calls Try.prog 53 #[.agg #[.slice oq zq cq, .slice os zs cs, .slice op zp cp, .slice ol zl cl]] W fun e w' => e = .returned (.bool true) ∧ Below W.heap.size W w')
    (hof : ∀ W v2, Below w.heap.size w W → Ld W v2 (b.drop 2) → Calls Try.prog 54 #[vs, v2, .agg #[.slice oq zq cq, .slice os zs cs, .slice op zp cp, .slice ol zl cl]] W (NoW W))
    (hal : 2 ≤ a.length) (hbl : b.length = a.length) (ga0 : a.getD 0 0 = (NX : Nat)) (ga1 : a.getD 1 0 = (CH : Nat)) (gb0 : b.getD 0 0 = (NK : Nat)) (gb1 : b.getD 1 0 = (CH : Nat)) :
    Calls Try.prog 14 #[.agg #[vs, vd], .agg #[vt, ve], .agg #[.slice oq zq cq, .slice os zs cs, .slice op zp cp, .slice ol zl cl], .int .i64 (f : Nat)] w (SomeT w 2 [] []) := by
  obtain ⟨i0, hi0, hz0, hz1, hz2⟩ := info_parts infoI
  obtain ⟨ma, hda, hwa⟩ := tnb_parts ta
  obtain ⟨mb, hdb, hwb⟩ := tnb_parts tb
  have la := may_len ma
  have lb := may_len mb
  have lda := may_prod ma
  have ldb := may_prod mb
  have CA := Lib.hid (fun (W : World) (hW : Below w.heap.size w W) => echeck_any vs vd a da W (hx.below hW) (hd.below hW) (by omega) (by omega))
  have CB := Lib.hid (fun (W : World) (hW : Below w.heap.size w W) => echeck_any vt ve b db W (hw.below hW) (he.below hW) (by omega) (by omega))
  have CF := Lib.hid (fun (W : World) => checkf_any (f : Nat) W)
  rw [ta, if_pos rfl] at CA
  rw [tb, if_pos rfl] at CB
  rw [hf, if_pos rfl] at CF
  obtain ⟨o1, c1, rfl, hc1, hx1⟩ := id hx
  obtain ⟨o2, c2, rfl, hc2, hx2⟩ := id hd
  obtain ⟨o3, c3, rfl, hc3, hx3⟩ := id hw
  obtain ⟨o4, c4, rfl, hc4, hx4⟩ := id he
  obtain ⟨bs, fs, rfl, hbs, xs0⟩ := hx1 0 (by omega)
  obtain ⟨bt, ft, rfl, hbt, xt0⟩ := hx3 0 (by omega)
  obtain ⟨bs', fs', e1, _, xs1⟩ := hx1 1 (by omega)
  obtain ⟨bt', ft', e2, _, xt1⟩ := hx3 1 (by omega)
  simp only [Option.some.injEq, Addr.mk.injEq, and_true] at e1 e2
  obtain ⟨rfl, rfl⟩ := e1
  obtain ⟨rfl, rfl⟩ := e2
  have pda : 0 < da.length := by have := prod_pos (may_pos ma); omega
  have pdb : 0 < db.length := by have := prod_pos (may_pos mb); omega
  obtain ⟨bd, fd, rfl, _, _⟩ := hx2 0 pda
  obtain ⟨be, fe, rfl, _, _⟩ := hx4 0 pdb
  rw [ga0] at xs0
  rw [ga1] at xs1
  rw [gb0] at xt0
  rw [gb1] at xt1
  simp only [Nat.add_zero] at xs0 xt0
  have HSL := Lib.hid (And.intro hbs (And.intro hbt (And.intro xs0 (And.intro xs1 (And.intro xt0 xt1)))))
  have HLD := Lib.hid (And.intro hx (And.intro hd (And.intro hw he)))
  have COF := Lib.hid hof
  have CCN := Lib.hid hcn
  obtain ⟨o2r, q2r, hq2, hs2⟩ := run_rest (P := Try.prog) (t := 23) Try.underlying23 hi0 hz1 bt ft b.length c3 2 (by omega) (by omega)
  simp only [show ((2 : Nat) : Int) = 2 from rfl] at hs2
  have HS2 := Lib.hid hs2
  have hld2 : Hid (Ld w (.slice o2r (b.length - 2) q2r) (b.drop 2)) := Lib.hid (by
    by_cases e : 2 < b.length
    · obtain ⟨rfl, rfl⟩ := hq2 (by omega)
      have q := ld_part (lo := 2) (N := b.length - 2) hw (by omega)
      rwa [List.take_of_length_le (by simp)] at q
    · have e2 : b.drop 2 = [] := List.drop_eq_nil_of_le (by omega)
      rw [e2]
      refine ⟨o2r, q2r, by rw [show b.length - 2 = 0 by omega]; rfl, Nat.zero_le _, fun i hi => absurd hi (Nat.not_lt_zero _)⟩)
  clear hq2
  rw [hbl] at HS2 hld2 HLD CB ⊢
  obtain ⟨w6, hw6⟩ : ∃ W, W = ((((((w.alloc (.cells #[.slice (some ⟨bs, fs, none⟩) a.length c1, .slice (some ⟨bd, fd, none⟩) da.length c2] 26)).alloc (.cells #[.slice (some ⟨bt, ft, none⟩) a.length c3, .slice (some ⟨be, fe, none⟩) db.length c4] 26)).alloc (.cells #[.slice oq zq cq, .slice os zs cs, .slice op zp cp, .slice ol zl cl] 28)).alloc (.cells #[.int .i64 (f : Nat)] 3)).alloc (.cells #[.slice none 0 0, .slice none 0 0] 26)).alloc (.cells #[.int .i64 0] 34)) := ⟨_, rfl⟩
  have B6 : Hid (Below w.heap.size w w6) := Lib.hid (by rw [hw6]; exact ((((((Below.refl _ _).alloc (Nat.le_refl _) _).alloc (by simp) _).alloc (by simp; omega) _).alloc (by simp; omega) _).alloc (by simp; omega) _).alloc (by simp; omega) _)
  have S6 : Hid (w6.heap.size = w.heap.size + 6) := Lib.hid (by rw [hw6]; simp)
  have Q0 : Hid (Blk w6 (w.heap.size) 26 #[.slice (some ⟨bs, fs, none⟩) a.length c1, .slice (some ⟨bd, fd, none⟩) da.length c2]) := Lib.hid (by
    rw [hw6]
    have q := Blk.new w 26 #[.slice (some ⟨bs, fs, none⟩) a.length c1, .slice (some ⟨bd, fd, none⟩) da.length c2]
    try simp only [World.size_alloc] at q
    exact (((((q.alloc _).alloc _).alloc _).alloc _).alloc _))
  have Q1 : Hid (Blk w6 (w.heap.size + 1) 26 #[.slice (some ⟨bt, ft, none⟩) a.length c3, .slice (some ⟨be, fe, none⟩) db.length c4]) := Lib.hid (by
    rw [hw6]
    have q := Blk.new (w.alloc (.cells #[.slice (some ⟨bs, fs, none⟩) a.length c1, .slice (some ⟨bd, fd, none⟩) da.length c2] 26)) 26 #[.slice (some ⟨bt, ft, none⟩) a.length c3, .slice (some ⟨be, fe, none⟩) db.length c4]
    try simp only [World.size_alloc] at q
    exact ((((q.alloc _).alloc _).alloc _).alloc _))
  have Q2 : Hid (Blk w6 (w.heap.size + 2) 28 #[.slice oq zq cq, .slice os zs cs, .slice op zp cp, .slice ol zl cl]) := Lib.hid (by
    rw [hw6]
    have q := Blk.new ((w.alloc (.cells #[.slice (some ⟨bs, fs, none⟩) a.length c1, .slice (some ⟨bd, fd, none⟩) da.length c2] 26)).alloc (.cells #[.slice (some ⟨bt, ft, none⟩) a.length c3, .slice (some ⟨be, fe, none⟩) db.length c4] 26)) 28 #[.slice oq zq cq, .slice os zs cs, .slice op zp cp, .slice ol zl cl]
    try simp only [World.size_alloc] at q
    exact (((q.alloc _).alloc _).alloc _))
  have Q3 : Hid (Blk w6 (w.heap.size + 3) 3 #[.int .i64 (f : Nat)]) := Lib.hid (by
    rw [hw6]
    have q := Blk.new (((w.alloc (.cells #[.slice (some ⟨bs, fs, none⟩) a.length c1, .slice (some ⟨bd, fd, none⟩) da.length c2] 26)).alloc (.cells #[.slice (some ⟨bt, ft, none⟩) a.length c3, .slice (some ⟨be, fe, none⟩) db.length c4] 26)).alloc (.cells #[.slice oq zq cq, .slice os zs cs, .slice op zp cp, .slice ol zl cl] 28)) 3 #[.int .i64 (f : Nat)]
    try simp only [World.size_alloc] at q
    exact ((q.alloc _).alloc _))
  have Q4 : Hid (Blk w6 (w.heap.size + 4) 26 #[.slice none 0 0, .slice none 0 0]) := Lib.hid (by
    rw [hw6]
    have q := Blk.new ((((w.alloc (.cells #[.slice (some ⟨bs, fs, none⟩) a.length c1, .slice (some ⟨bd, fd, none⟩) da.length c2] 26)).alloc (.cells #[.slice (some ⟨bt, ft, none⟩) a.length c3, .slice (some ⟨be, fe, none⟩) db.length c4] 26)).alloc (.cells #[.slice oq zq cq, .slice os zs cs, .slice op zp cp, .slice ol zl cl] 28)).alloc (.cells #[.int .i64 (f : Nat)] 3)) 26 #[.slice none 0 0, .slice none 0 0]
    try simp only [World.size_alloc] at q
    exact (q.alloc _))
  have Q5 : Hid (Blk w6 (w.heap.size + 5) 34 #[.int .i64 0]) := Lib.hid (by
    rw [hw6]
    have q := Blk.new (((((w.alloc (.cells #[.slice (some ⟨bs, fs, none⟩) a.length c1, .slice (some ⟨bd, fd, none⟩) da.length c2] 26)).alloc (.cells #[.slice (some ⟨bt, ft, none⟩) a.length c3, .slice (some ⟨be, fe, none⟩) db.length c4] 26)).alloc (.cells #[.slice oq zq cq, .slice os zs cs, .slice op zp cp, .slice ol zl cl] 28)).alloc (.cells #[.int .i64 (f : Nat)] 3)).alloc (.cells #[.slice none 0 0, .slice none 0 0] 26)) 34 #[.int .i64 0]
    try simp only [World.size_alloc] at q
    exact q)
  have HW6 := Lib.hid hw6
  have FK : Hid (∀ W, Below w6.heap.size w6 W → (Blk W w.heap.size 26 #[.slice (some ⟨bs, fs, none⟩) a.length c1, .slice (some ⟨bd, fd, none⟩) da.length c2] ∧ Blk W (w.heap.size + 1) 26 #[.slice (some ⟨bt, ft, none⟩) a.length c3, .slice (some ⟨be, fe, none⟩) db.length c4] ∧ Blk W (w.heap.size + 2) 28 #[.slice oq zq cq, .slice os zs cs, .slice op zp cp, .slice ol zl cl] ∧ Blk W (w.heap.size + 3) 3 #[.int .i64 (f : Nat)]) ∧ W.cell? ⟨bs, fs, none⟩ = some (.int .i64 (NX : Nat)) ∧ W.cell? ⟨bs, fs + 1, none⟩ = some (.int .i64 (CH : Nat)) ∧ W.cell? ⟨bt, ft, none⟩ = some (.int .i64 (NK : Nat)) ∧ W.cell? ⟨bt, ft + 1, none⟩ = some (.int .i64 (CH : Nat))) := Lib.hid (fun W hW => by
    have k := B6.out.trans (hW.mono B6.out.size)
    obtain ⟨z1, z2, z3, z4, z5, z6⟩ := HSL.out
    exact ⟨⟨Q0.out.below hW Q0.out.lt, Q1.out.below hW Q1.out.lt, Q2.out.below hW Q2.out.lt, Q3.out.below hW Q3.out.lt⟩, (k.cell (p := ⟨bs, fs, none⟩) z1).trans z3, (k.cell (p := ⟨bs, fs + 1, none⟩) z1).trans z4, (k.cell (p := ⟨bt, ft, none⟩) z2).trans z5, (k.cell (p := ⟨bt, ft + 1, none⟩) z2).trans z6⟩)
  have hal2 : ¬ a.length < 2 := by omega
  have CA6 := Lib.hid (CA.out w6 B6.out)
  obtain ⟨⟨k0, k1, k2, k3⟩, k4, k5, k6, k7⟩ := FK.out w6 (Below.refl _ _)
  obtain ⟨y0, y1, _⟩ := blk2 k0
  obtain ⟨y2, y3, _⟩ := blk2 k1
  obtain ⟨y4, y5, y6, y7⟩ := blk4c k2
  have y8 := k3.cell 0
  clear k0 k1 k2 k3 k4 k5 k6 k7
  clear hw6 hx hd hw he ta tb hf hcn hof hbl ga0 ga1 gb0 gb1 hs2 hda hdb hwa hwb hx1 hx2 hx3 hx4 hbs hbt xs0 xs1 xt0 xt1 ma mb pda pdb hc1 hc2 hc3 hc4 CA lda ldb
  refine (callsIn_wide (n := 14)).1 ?_
  refine callsIn_of_wp_marks Try.func14 rfl trivial ?_
  simp only [Try.ntmps14, List.size_toArray, List.length_cons, List.length_nil, Nat.reduceAdd, Nat.reduceSub, Array.replicate_succ, Array.replicate_zero, List.push_toArray, List.append_toArray, List.nil_append, List.cons_append]
  refine wpIn_wide.2 ?_
  go_upto_region 1 with (fail)
  rw [← HW6.out]
  simp only [Nat.add_assoc, Nat.reduceAdd]
  go_upto_region 3 with (first
    | (go_at_call 51; (with_reducible refine CA6.out.mono ?_); rintro e wa ⟨rfl, hb⟩; have Fa := Lib.hid hb; obtain ⟨⟨k0, k1, k2, k3⟩, k4, k5, k6, k7⟩ := FK.out wa Fa.out; obtain ⟨y0, y1, _⟩ := blk2 k0; obtain ⟨y2, y3, _⟩ := blk2 k1; obtain ⟨y4, y5, y6, y7⟩ := blk4c k2; have y8 := k3.cell 0; clear k0 k1 k2 k3; clear hb)
    | (go_at_call 51; (with_reducible refine (CB.out _ (B6.out.trans (Fa.out.mono B6.out.size))).mono ?_); rintro e wb ⟨rfl, hb⟩; have Fb := Lib.hid (Fa.out.trans (hb.mono Fa.out.size)); obtain ⟨⟨k0, k1, k2, k3⟩, k4, k5, k6, k7⟩ := FK.out wb Fb.out; obtain ⟨y0, y1, _⟩ := blk2 k0; obtain ⟨y2, y3, _⟩ := blk2 k1; obtain ⟨y4, y5, y6, y7⟩ := blk4c k2; have y8 := k3.cell 0; clear k0 k1 k2 k3; clear hb)
    | (go_at_call 52; (with_reducible refine (CF.out _).mono ?_); rintro e w' ⟨rfl, rfl⟩)
    | (go_at_call 53; (with_reducible refine (CCN.out _ (B6.out.trans (Fb.out.mono B6.out.size))).mono ?_); rintro e w7 ⟨rfl, hb⟩; have F7 := Lib.hid (Fb.out.trans (hb.mono Fb.out.size)); obtain ⟨⟨k0, k1, k2, k3⟩, k4, k5, k6, k7⟩ := FK.out w7 F7.out; obtain ⟨y0, y1, _⟩ := blk2 k0; obtain ⟨y2, y3, _⟩ := blk2 k1; obtain ⟨y4, y5, y6, y7⟩ := blk4c k2; have y8 := k3.cell 0; clear k0 k1 k2 k3; clear hb))
  have g1 : (1 : Int) < (a.length : Int) := by omega
  have g2 : 1 < a.length := by omega
  have d1 : decide ((a.length : Int) < 2) = false := by rw [decide_eq_false_iff_not]; omega
  have d2 : decide (a.length < 2) = false := by rw [decide_eq_false_iff_not]; omega
  go_quiet (fail)
  clear d1 d2 g1 g2
  go_upto_region 5 with fail
  obtain ⟨w8, hw8⟩ : ∃ W, W = w7.drewN nq := ⟨_, rfl⟩
  rw [← hw8]
  have F8 : Hid (Below w6.heap.size w6 w8) := Lib.hid (by rw [hw8]; exact F7.out.trans ((below_drw (Below.refl w7.heap.size w7) nq).mono F7.out.size))
  clear hw8 F7 Fa Fb y0 y1 y2 y3 y4 y5 y6 y7 y8 k4 k5 k6 k7 CA6 CB CF CCN
  have hs2 := HS2.out
  have KS : Hid (∀ X : World, Below w8.heap.size w8 X → X.cell? ⟨w.heap.size, 0, none⟩ = some (.slice (some ⟨bs, fs, none⟩) a.length c1) ∧ X.cell? ⟨w.heap.size + 1, 0, none⟩ = some (.slice (some ⟨bt, ft, none⟩) a.length c3) ∧ X.cell? ⟨w.heap.size + 2, 0, none⟩ = some (.slice oq zq cq) ∧ X.cell? ⟨w.heap.size + 2, 1, none⟩ = some (.slice os zs cs) ∧ X.cell? ⟨w.heap.size + 2, 2, none⟩ = some (.slice op zp cp) ∧ X.cell? ⟨w.heap.size + 2, 3, none⟩ = some (.slice ol zl cl)) := Lib.hid (fun X hX => by
    obtain ⟨⟨k0, k1, k2, k3⟩, _⟩ := FK.out X (F8.out.trans (hX.mono F8.out.size))
    obtain ⟨y0, _⟩ := blk2 k0
    obtain ⟨y2, _⟩ := blk2 k1
    obtain ⟨y4, y5, y6, y7⟩ := blk4c k2
    exact ⟨y0, y2, y4, y5, y6, y7⟩)
  have B86 : Hid (∀ X : World, Below w8.heap.size w8 X → Below w.heap.size w X) := Lib.hid (fun X hX => (B6.out.trans (F8.out.mono B6.out.size)).trans (hX.mono (Nat.le_trans B6.out.size F8.out.size)))
  go_cut [10, 11] from 65 to 74 (fun s10 s11 wx => ∃ (P10 : Nat), s10 = .pointer (some ⟨P10, 0, none⟩) ∧ s11 = .int .i64 2 ∧ Hid (Below w8.heap.size w8 wx))
  case first =>
    have B0 : Hid (Below w8.heap.size w8 w8.drew) := Lib.hid (below_drw (Below.refl _ _) 1)
    refine wp_region_noPanic ?_
    refine wp_region_held_drew (S := fun X => X.cell? ⟨w.heap.size, 0, none⟩ = some (.slice (some ⟨bs, fs, none⟩) a.length c1) ∧ X.cell? ⟨w.heap.size + 1, 0, none⟩ = some (.slice (some ⟨bt, ft, none⟩) a.length c3) ∧ X.cell? ⟨w.heap.size + 2, 0, none⟩ = some (.slice oq zq cq) ∧ X.cell? ⟨w.heap.size + 2, 1, none⟩ = some (.slice os zs cs) ∧ X.cell? ⟨w.heap.size + 2, 2, none⟩ = some (.slice op zp cp) ∧ X.cell? ⟨w.heap.size + 2, 3, none⟩ = some (.slice ol zl cl)) (by kernel_rfl) ?_ (fun hHeld => ?_)
    · exact KS.out _ B0.out
    have hHd := hHeld
    generalize w8.drew = wd at *
    (refine wpAnyH_take (i := 0) (oi := ⟨some 66, _, _, _, _, _⟩) (v := ?v0_o1) rfl (by kernel_rfl) (by kernel_rfl) (by kernel_rfl) (fun _ _ _ h => h) (Or.inl ⟨by rfl, ?hy0_o1⟩) (by assumption) ?rest0_o1; (case hy0_o1 => ((intro w hSw); (try dsimp only at hSw); go_simp; first | done | (with_reducible rfl))))
    (try simp only [Act.put, List.setIfInBounds_toArray, List.set_cons_zero, List.set_cons_succ])
    (refine wpAnyH_take (i := 1) (oi := ⟨some 67, _, _, _, _, _⟩) (v := ?v1_o2) rfl (by kernel_rfl) (by kernel_rfl) (by kernel_rfl) (fun _ _ _ h => h) (Or.inl ⟨by rfl, ?hy1_o2⟩) (by assumption) ?rest1_o2; (case hy1_o2 => ((intro w hSw); (try dsimp only at hSw); go_simp; first | done | (with_reducible rfl))))
    (try simp only [Act.put, List.setIfInBounds_toArray, List.set_cons_zero, List.set_cons_succ])
    (refine wpAnyH_take (i := 2) (oi := ⟨some 68, _, _, _, _, _⟩) (v := ?v2_o3) rfl (by kernel_rfl) (by kernel_rfl) (by kernel_rfl) (fun _ _ _ h => h) (Or.inl ⟨by rfl, ?hy2_o3⟩) (by assumption) ?rest2_o3; (case hy2_o3 => ((intro w hSw); (try dsimp only at hSw); go_simp; first | done | (with_reducible rfl))))
    (try simp only [Act.put, List.setIfInBounds_toArray, List.set_cons_zero, List.set_cons_succ])
    (refine wpAnyH_take (i := 3) (oi := ⟨some 69, _, _, _, _, _⟩) (v := ?v3_o4) rfl (by kernel_rfl) (by kernel_rfl) (by kernel_rfl) (fun _ _ _ h => h) (Or.inl ⟨by rfl, ?hy3_o4⟩) (by assumption) ?rest3_o4; (case hy3_o4 => ((intro w hSw); (try dsimp only at hSw); go_simp; first | done | (with_reducible rfl))))
    (try simp only [Act.put, List.setIfInBounds_toArray, List.set_cons_zero, List.set_cons_succ])
    (refine wpAnyH_take (i := 4) (oi := ⟨some 70, _, _, _, _, _⟩) (v := ?v4_o5) rfl (by kernel_rfl) (by kernel_rfl) (by kernel_rfl) (fun _ _ _ h => h) (Or.inl ⟨by rfl, ?hy4_o5⟩) (by assumption) ?rest4_o5; (case hy4_o5 => ((intro w hSw); (try dsimp only at hSw); go_simp; first | done | (with_reducible rfl))))
    (try simp only [Act.put, List.setIfInBounds_toArray, List.set_cons_zero, List.set_cons_succ])
    (refine wpAnyH_take (i := 5) (oi := ⟨some 71, _, _, _, _, _⟩) (v := ?v5_o6) rfl (by kernel_rfl) (by kernel_rfl) (by kernel_rfl) (fun _ _ _ h => h) (Or.inl ⟨by rfl, ?hy5_o6⟩) (by assumption) ?rest5_o6; (case hy5_o6 => ((intro w hSw); (try dsimp only at hSw); go_simp; first | done | (with_reducible rfl))))
    (try simp only [Act.put, List.setIfInBounds_toArray, List.set_cons_zero, List.set_cons_succ])
    refine wpAnyH_ready (rs := [6, 10]) (by kernel_rfl) (by simp) ?_
    refine AllReadyH.cons (o := ⟨some 72, _, _, _, _, _⟩) rfl (fun K hK => ?_) (AllReadyH.cons (o := ⟨some 10, _, _, _, _, _⟩) rfl (fun K hK => ?_) (AllReadyH.nil))
    · go_simp
      (go_at_call 54; (with_reducible refine (COF.out _ _ (B86.out _ B0.out) (hld2.out.below (B86.out _ B0.out))).mono ?_); rintro e w9 ⟨rfl, hb⟩)
      have b9 := Lib.hid (B0.out.trans (hb.mono B0.out.size))
      clear hb
      simp only [Wnv]
      refine hK.out _ _ ?_ (fun hHeld => ?_)
      · (try dsimp only)
        exact KS.out _ b9.out
      clear hK K
      (try simp only [Act.put, List.setIfInBounds_toArray, List.set_cons_zero, List.set_cons_succ])
      (refine wpAnyH_take (i := 7) (oi := ⟨some 65, _, _, _, _, _⟩) (v := ?v7_o7) rfl (by kernel_rfl) (by kernel_rfl) (by kernel_rfl) (fun _ _ _ h => h) (Or.inl ⟨by rfl, ?hy7_o7⟩) (by assumption) ?rest7_o7; (case hy7_o7 => ((intro w hSw); (try dsimp only at hSw); go_simp; first | done | (with_reducible rfl))))
      (try simp only [Act.put, List.setIfInBounds_toArray, List.set_cons_zero, List.set_cons_succ])
      (refine wpAnyH_take (i := 8) (oi := ⟨some 73, _, _, _, _, _⟩) (v := ?v8_o8) rfl (by kernel_rfl) (by kernel_rfl) (by kernel_rfl) (fun _ _ _ h => h) (Or.inl ⟨by rfl, ?hy8_o8⟩) (by assumption) ?rest8_o8; (case hy8_o8 => ((intro w hSw); (try dsimp only at hSw); go_simp; first | done | (with_reducible rfl))))
      (try simp only [Act.put, List.setIfInBounds_toArray, List.set_cons_zero, List.set_cons_succ])
      (refine wpAnyH_take (i := 9) (oi := ⟨some 74, _, _, _, _, _⟩) (v := ?v9_o9) rfl (by kernel_rfl) (by kernel_rfl) (by kernel_rfl) (fun _ _ _ h => h) (Or.inl ⟨by rfl, ?hy9_o9⟩) (by assumption) ?rest9_o9; (case hy9_o9 => ((intro w hSw); (try dsimp only at hSw); go_simp; first | done | (with_reducible rfl))))
      (try simp only [Act.put, List.setIfInBounds_toArray, List.set_cons_zero, List.set_cons_succ])
      refine wpAnyH_ready (rs := [10]) (by kernel_rfl) (by simp) ?_
      refine AllReadyH.cons (o := ⟨some 10, _, _, _, _, _⟩) rfl (fun K hK => ?_) (AllReadyH.nil)
      go_simp
      have bA := Lib.hid (b9.out.alloc b9.out.size (.cells #[.slice none 0 0, .int .i64 0, .int .i64 0, .int .i64 0, .int .i64 0, .int .i64 0, .int .i64 0, .int .i64 0, .int .i64 0, .int .i64 0, .int .i64 0, .int .i64 0, .int .i64 0, .int .i64 0, .int .i64 0, .int .i64 0] 86))
      have TA := Lib.hid (Blk.new w9 86 #[.slice none 0 0, .int .i64 0, .int .i64 0, .int .i64 0, .int .i64 0, .int .i64 0, .int .i64 0, .int .i64 0, .int .i64 0, .int .i64 0, .int .i64 0, .int .i64 0, .int .i64 0, .int .i64 0, .int .i64 0, .int .i64 0])
      obtain ⟨g9, hg9⟩ : ∃ g, g = w9.heap.size := ⟨_, rfl⟩
      rw [← hg9] at TA
      have G9 : Hid (w8.heap.size ≤ g9) := Lib.hid (by rw [hg9]; exact b9.out.size)
      try rw [← hg9]
      clear hg9
      refine hK.out _ _ ?_ (fun hHeld => ?_)
      · (try dsimp only)
        exact KS.out _ bA.out
      clear hK K
      generalize w9.alloc (.cells #[.slice none 0 0, .int .i64 0, .int .i64 0, .int .i64 0, .int .i64 0, .int .i64 0, .int .i64 0, .int .i64 0, .int .i64 0, .int .i64 0, .int .i64 0, .int .i64 0, .int .i64 0, .int .i64 0, .int .i64 0, .int .i64 0] 86) = wA at *
      (try simp only [Act.put, List.setIfInBounds_toArray, List.set_cons_zero, List.set_cons_succ])
      refine wpAnyH_ready (rs := [11]) (by kernel_rfl) (by simp) ?_
      refine AllReadyH.cons (o := ⟨none, _, _, _, _, _⟩) rfl (fun K hK => ?_) (AllReadyH.nil)
      rw [if_pos (by rfl)]
      refine wp_store_row 86 (.tmp 10) (.tmp 73) (by rfl) g9 #[.slice none 0 0, .int .i64 0, .int .i64 0, .int .i64 0, .int .i64 0, .int .i64 0, .int .i64 0, .int .i64 0, .int .i64 0, .int .i64 0, .int .i64 0, .int .i64 0, .int .i64 0, .int .i64 0, .int .i64 0, .int .i64 0] (by rfl) (by rfl) 86 _ TA.out (by kernel_rfl) rfl (by simp [Value.oneCell']) ?_
      refine hK.out _ _ ?_ (fun hHeld => ?_)
      · (try dsimp only)
        exact KS.out _ (setrow_below bA.out G9.out (Nat.le_refl _) _)
      clear hK K
      (try simp only [Act.put])
      (refine wpAnyH_take (i := 12) (oi := ⟨some 11, _, _, _, _, _⟩) (v := .int .i64 2) rfl (by kernel_rfl) (by kernel_rfl) (by kernel_rfl) (fun _ _ _ h => h) (Or.inl ⟨by rfl, ?hy12_o10⟩) (by assumption) ?rest12_o10; (case hy12_o10 => ((intro w hSw); (try dsimp only at hSw); go_simp; first | done | (with_reducible rfl))))
      (try simp only [Act.put, List.setIfInBounds_toArray, List.set_cons_zero, List.set_cons_succ])
      refine wpAnyH_done (by kernel_rfl) ?_ _
      have BT := Lib.hid (setrow_below bA.out G9.out (Nat.le_refl _) #[.slice none 0 0, .int .i64 0, .int .i64 0, .int .i64 0, .int .i64 0, .int .i64 0, .int .i64 0, .int .i64 0, .int .i64 0, .int .i64 0, .int .i64 0, .int .i64 0, .int .i64 0, .int .i64 0, .int .i64 0, .int .i64 0])
      refine NoPanic.normal ?_
      go_wp2
      go_meet
      exact ⟨g9, rfl, rfl, BT⟩
    · go_simp
      have bA := Lib.hid (B0.out.alloc B0.out.size (.cells #[.slice none 0 0, .int .i64 0, .int .i64 0, .int .i64 0, .int .i64 0, .int .i64 0, .int .i64 0, .int .i64 0, .int .i64 0, .int .i64 0, .int .i64 0, .int .i64 0, .int .i64 0, .int .i64 0, .int .i64 0, .int .i64 0] 86))
      have TA := Lib.hid (Blk.new wd 86 #[.slice none 0 0, .int .i64 0, .int .i64 0, .int .i64 0, .int .i64 0, .int .i64 0, .int .i64 0, .int .i64 0, .int .i64 0, .int .i64 0, .int .i64 0, .int .i64 0, .int .i64 0, .int .i64 0, .int .i64 0, .int .i64 0])
      obtain ⟨g9, hg9⟩ : ∃ g, g = wd.heap.size := ⟨_, rfl⟩
      rw [← hg9] at TA
      have G9 : Hid (w8.heap.size ≤ g9) := Lib.hid (by rw [hg9]; exact B0.out.size)
      try rw [← hg9]
      clear hg9
      refine hK.out _ _ ?_ (fun hHeld => ?_)
      · (try dsimp only)
        exact KS.out _ bA.out
      clear hK K
      generalize wd.alloc (.cells #[.slice none 0 0, .int .i64 0, .int .i64 0, .int .i64 0, .int .i64 0, .int .i64 0, .int .i64 0, .int .i64 0, .int .i64 0, .int .i64 0, .int .i64 0, .int .i64 0, .int .i64 0, .int .i64 0, .int .i64 0, .int .i64 0] 86) = wA at *
      (try simp only [Act.put, List.setIfInBounds_toArray, List.set_cons_zero, List.set_cons_succ])
      refine wpAnyH_ready (rs := [6]) (by kernel_rfl) (by simp) ?_
      refine AllReadyH.cons (o := ⟨some 72, _, _, _, _, _⟩) rfl (fun K hK => ?_) (AllReadyH.nil)
      go_simp
      (go_at_call 54; (with_reducible refine (COF.out _ _ (B86.out _ bA.out) (hld2.out.below (B86.out _ bA.out))).mono ?_); rintro e w9 ⟨rfl, hb⟩)
      have b9 := Lib.hid (bA.out.trans (hb.mono bA.out.size))
      have T9 := Lib.hid (TA.out.below hb TA.out.lt)
      clear hb
      simp only [Wnv]
      refine hK.out _ _ ?_ (fun hHeld => ?_)
      · (try dsimp only)
        exact KS.out _ b9.out
      clear hK K
      (try simp only [Act.put, List.setIfInBounds_toArray, List.set_cons_zero, List.set_cons_succ])
      (refine wpAnyH_take (i := 7) (oi := ⟨some 65, _, _, _, _, _⟩) (v := ?v7_o11) rfl (by kernel_rfl) (by kernel_rfl) (by kernel_rfl) (fun _ _ _ h => h) (Or.inl ⟨by rfl, ?hy7_o11⟩) (by assumption) ?rest7_o11; (case hy7_o11 => ((intro w hSw); (try dsimp only at hSw); go_simp; first | done | (with_reducible rfl))))
      (try simp only [Act.put, List.setIfInBounds_toArray, List.set_cons_zero, List.set_cons_succ])
      (refine wpAnyH_take (i := 8) (oi := ⟨some 73, _, _, _, _, _⟩) (v := ?v8_o12) rfl (by kernel_rfl) (by kernel_rfl) (by kernel_rfl) (fun _ _ _ h => h) (Or.inl ⟨by rfl, ?hy8_o12⟩) (by assumption) ?rest8_o12; (case hy8_o12 => ((intro w hSw); (try dsimp only at hSw); go_simp; first | done | (with_reducible rfl))))
      (try simp only [Act.put, List.setIfInBounds_toArray, List.set_cons_zero, List.set_cons_succ])
      (refine wpAnyH_take (i := 9) (oi := ⟨some 74, _, _, _, _, _⟩) (v := ?v9_o13) rfl (by kernel_rfl) (by kernel_rfl) (by kernel_rfl) (fun _ _ _ h => h) (Or.inl ⟨by rfl, ?hy9_o13⟩) (by assumption) ?rest9_o13; (case hy9_o13 => ((intro w hSw); (try dsimp only at hSw); go_simp; first | done | (with_reducible rfl))))
      (try simp only [Act.put, List.setIfInBounds_toArray, List.set_cons_zero, List.set_cons_succ])
      refine wpAnyH_ready (rs := [11]) (by kernel_rfl) (by simp) ?_
      refine AllReadyH.cons (o := ⟨none, _, _, _, _, _⟩) rfl (fun K hK => ?_) (AllReadyH.nil)
      rw [if_pos (by rfl)]
      refine wp_store_row 86 (.tmp 10) (.tmp 73) (by rfl) g9 #[.slice none 0 0, .int .i64 0, .int .i64 0, .int .i64 0, .int .i64 0, .int .i64 0, .int .i64 0, .int .i64 0, .int .i64 0, .int .i64 0, .int .i64 0, .int .i64 0, .int .i64 0, .int .i64 0, .int .i64 0, .int .i64 0] (by rfl) (by rfl) 86 _ T9.out (by kernel_rfl) rfl (by simp [Value.oneCell']) ?_
      refine hK.out _ _ ?_ (fun hHeld => ?_)
      · (try dsimp only)
        exact KS.out _ (setrow_below b9.out G9.out (Nat.le_refl _) _)
      clear hK K
      (try simp only [Act.put])
      (refine wpAnyH_take (i := 12) (oi := ⟨some 11, _, _, _, _, _⟩) (v := .int .i64 2) rfl (by kernel_rfl) (by kernel_rfl) (by kernel_rfl) (fun _ _ _ h => h) (Or.inl ⟨by rfl, ?hy12_o14⟩) (by assumption) ?rest12_o14; (case hy12_o14 => ((intro w hSw); (try dsimp only at hSw); go_simp; first | done | (with_reducible rfl))))
      (try simp only [Act.put, List.setIfInBounds_toArray, List.set_cons_zero, List.set_cons_succ])
      refine wpAnyH_done (by kernel_rfl) ?_ _
      have BT := Lib.hid (setrow_below b9.out G9.out (Nat.le_refl _) #[.slice none 0 0, .int .i64 0, .int .i64 0, .int .i64 0, .int .i64 0, .int .i64 0, .int .i64 0, .int .i64 0, .int .i64 0, .int .i64 0, .int .i64 0, .int .i64 0, .int .i64 0, .int .i64 0, .int .i64 0, .int .i64 0])
      refine NoPanic.normal ?_
      go_wp2
      go_meet
      exact ⟨g9, rfl, rfl, BT⟩
  case rest =>
    obtain ⟨P10, rfl, rfl, F10⟩ := hcut
    obtain ⟨w9, hw9⟩ : ∃ X, X = wc := ⟨_, rfl⟩
    subst hw9
    have F9 : Hid (Below w6.heap.size w6 w9) := Lib.hid (F8.out.trans (F10.out.mono F8.out.size))
    have k4 := Q4.out.below F9.out Q4.out.lt
    have k5 := Q5.out.below F9.out Q5.out.lt
    obtain ⟨v0, v1, f0, f1⟩ := blk2 k4
    have v2 := k5.cell 0
    have f2 := k5.frozen 0
    clear k4 k5
    go_wp2
    have n45 : w.heap.size + 4 ≠ w.heap.size + 5 := by omega
    have n54 : w.heap.size + 5 ≠ w.heap.size + 4 := by omega
    have k4 := Q4.out.below F9.out Q4.out.lt
    have k5 := Q5.out.below F9.out Q5.out.lt
    have r4 := ((k4.set_ 0 (.slice none 0 0)).set_ 1 (.slice none 0 0)).far (p := ⟨w.heap.size + 5, 0, none⟩) n45 (.int .i64 2)
    have r5 := ((k5.far (p := ⟨w.heap.size + 4, 0, none⟩) n54 (.slice none 0 0)).far (p := ⟨w.heap.size + 4, 1, none⟩) n54 (.slice none 0 0)).set_ 0 (.int .i64 2)
    have rB := (((B6.out.trans (F9.out.mono B6.out.size)).setCell (p := ⟨w.heap.size + 4, 0, none⟩) (by show w.heap.size ≤ w.heap.size + 4; omega) (.slice none 0 0)).setCell (p := ⟨w.heap.size + 4, 1, none⟩) (by show w.heap.size ≤ w.heap.size + 4; omega) (.slice none 0 0)).setCell (p := ⟨w.heap.size + 5, 0, none⟩) (by show w.heap.size ≤ w.heap.size + 5; omega) (.int .i64 2)
    obtain ⟨q0, q1, _⟩ := blk2 r4
    have q2 := r5.cell 0
    refine ⟨.tuple #[.agg #[.slice none 0 0, .slice none 0 0], .int .i64 2], by simp [results, Try.results14, go_sem, q0, q1, q2], ?_⟩
    exact ⟨none, 0, none, 0, rfl, World.ownsRow_nil _ _ _ _, World.ownsRow_nil _ _ _ _, rB⟩
set_option maxRecDepth 100000 in
set_option maxHeartbeats 8000000 in
theorem conv_no5 (vs vd vt ve : Value) (oq os op ol : Option Addr) (zq zs zp zl cq cs cp cl : Nat) (a da b db Pl : List Int) (f NX NK CH Ct Tp Wd K0 K1 : Nat) (l0 n0 s0 p0 d0 l1 n1 s1 p1 d1 : Int) (w : World)
    (hx : Ld w vs a) (hd : Ld w vd da) (hw : Ld w vt b) (he : Ld w ve db) (ta : tnb a da = true) (tb : tnb b db = true) (hf : fb (f : Nat) = true)
    (hcn : ∀ W, Below w.heap.size w W → Calls Try.prog 53 #[.agg #[.slice oq zq cq, .slice os zs cs, .slice op zp cp, .slice ol zl cl]] W fun e w' => e = .returned (.bool true) ∧ Below W.heap.size W w')
    (hof : ∀ W v2, Below w.heap.size w W → Ld W v2 (b.drop 2) → Calls Try.prog 54 #[vs, v2, .agg #[.slice oq zq cq, .slice os zs cs, .slice op zp cp, .slice ol zl cl]] W (SomeWn W Pl (Ct : Nat) (Tp : Nat) (Wd : Nat) (l0, n0, (K0 : Nat), s0, p0, d0) (l1, n1, (K1 : Nat), s1, p1, d1)))
    (hal : 3 ≤ a.length) (hbl : b.length = a.length) (ga0 : a.getD 0 0 = (NX : Nat)) (ga1 : a.getD 1 0 = (CH : Nat)) (gb0 : b.getD 0 0 = (NK : Nat)) (gb1 : b.getD 1 0 = (CH : Nat)) (hPl : 1 ≤ Pl.length ∧ Pl.length ≤ 2) (hS : may ([(NX : Int), (NK : Int)] ++ Pl) = false) :
    Calls Try.prog 14 #[.agg #[vs, vd], .agg #[vt, ve], .agg #[.slice oq zq cq, .slice os zs cs, .slice op zp cp, .slice ol zl cl], .int .i64 (f : Nat)] w (SomeT w 5 [] []) := by
  obtain ⟨i0, hi0, hz0, hz1, hz2⟩ := info_parts infoI
  obtain ⟨ma, hda, hwa⟩ := tnb_parts ta
  obtain ⟨mb, hdb, hwb⟩ := tnb_parts tb
  have la := may_len ma
  have lb := may_len mb
  have lda := may_prod ma
  have ldb := may_prod mb
  have CA := Lib.hid (fun (W : World) (hW : Below w.heap.size w W) => echeck_any vs vd a da W (hx.below hW) (hd.below hW) (by omega) (by omega))
  have CB := Lib.hid (fun (W : World) (hW : Below w.heap.size w W) => echeck_any vt ve b db W (hw.below hW) (he.below hW) (by omega) (by omega))
  have CF := Lib.hid (fun (W : World) => checkf_any (f : Nat) W)
  rw [ta, if_pos rfl] at CA
  rw [tb, if_pos rfl] at CB
  rw [hf, if_pos rfl] at CF
  obtain ⟨o1, c1, rfl, hc1, hx1⟩ := id hx
  obtain ⟨o2, c2, rfl, hc2, hx2⟩ := id hd
  obtain ⟨o3, c3, rfl, hc3, hx3⟩ := id hw
  obtain ⟨o4, c4, rfl, hc4, hx4⟩ := id he
  obtain ⟨bs, fs, rfl, hbs, xs0⟩ := hx1 0 (by omega)
  obtain ⟨bt, ft, rfl, hbt, xt0⟩ := hx3 0 (by omega)
  obtain ⟨bs', fs', e1, _, xs1⟩ := hx1 1 (by omega)
  obtain ⟨bt', ft', e2, _, xt1⟩ := hx3 1 (by omega)
  simp only [Option.some.injEq, Addr.mk.injEq, and_true] at e1 e2
  obtain ⟨rfl, rfl⟩ := e1
  obtain ⟨rfl, rfl⟩ := e2
  have pda : 0 < da.length := by have := prod_pos (may_pos ma); omega
  have pdb : 0 < db.length := by have := prod_pos (may_pos mb); omega
  obtain ⟨bd, fd, rfl, _, _⟩ := hx2 0 pda
  obtain ⟨be, fe, rfl, _, _⟩ := hx4 0 pdb
  rw [ga0] at xs0
  rw [ga1] at xs1
  rw [gb0] at xt0
  rw [gb1] at xt1
  simp only [Nat.add_zero] at xs0 xt0
  have HSL := Lib.hid (And.intro hbs (And.intro hbt (And.intro xs0 (And.intro xs1 (And.intro xt0 xt1)))))
  have HLD := Lib.hid (And.intro hx (And.intro hd (And.intro hw he)))
  have COF := Lib.hid hof
  have CCN := Lib.hid hcn
  have HS := Lib.hid (And.intro hS hPl)
  have hs2 := fun wx : World => run_from2 (P := Try.prog) (t := 23) Try.underlying23 hi0 hz1 bt ft b.length c3 (by omega) hc3 wx
  have HS2 := Lib.hid hs2
  have hld2 : Hid (Ld w (.slice (some ⟨bt, ft + 2, none⟩) (b.length - 2) (c3 - 2)) (b.drop 2)) := Lib.hid (by
    have q := ld_part (lo := 2) (N := b.length - 2) hw (by omega)
    rwa [List.take_of_length_le (by simp)] at q)
  rw [hbl] at HS2 hld2 HLD CB ⊢
  obtain ⟨w6, hw6⟩ : ∃ W, W = ((((((w.alloc (.cells #[.slice (some ⟨bs, fs, none⟩) a.length c1, .slice (some ⟨bd, fd, none⟩) da.length c2] 26)).alloc (.cells #[.slice (some ⟨bt, ft, none⟩) a.length c3, .slice (some ⟨be, fe, none⟩) db.length c4] 26)).alloc (.cells #[.slice oq zq cq, .slice os zs cs, .slice op zp cp, .slice ol zl cl] 28)).alloc (.cells #[.int .i64 (f : Nat)] 3)).alloc (.cells #[.slice none 0 0, .slice none 0 0] 26)).alloc (.cells #[.int .i64 0] 34)) := ⟨_, rfl⟩
  have B6 : Hid (Below w.heap.size w w6) := Lib.hid (by rw [hw6]; exact ((((((Below.refl _ _).alloc (Nat.le_refl _) _).alloc (by simp) _).alloc (by simp; omega) _).alloc (by simp; omega) _).alloc (by simp; omega) _).alloc (by simp; omega) _)
  have S6 : Hid (w6.heap.size = w.heap.size + 6) := Lib.hid (by rw [hw6]; simp)
  have Q0 : Hid (Blk w6 (w.heap.size) 26 #[.slice (some ⟨bs, fs, none⟩) a.length c1, .slice (some ⟨bd, fd, none⟩) da.length c2]) := Lib.hid (by
    rw [hw6]
    have q := Blk.new w 26 #[.slice (some ⟨bs, fs, none⟩) a.length c1, .slice (some ⟨bd, fd, none⟩) da.length c2]
    try simp only [World.size_alloc] at q
    exact (((((q.alloc _).alloc _).alloc _).alloc _).alloc _))
  have Q1 : Hid (Blk w6 (w.heap.size + 1) 26 #[.slice (some ⟨bt, ft, none⟩) a.length c3, .slice (some ⟨be, fe, none⟩) db.length c4]) := Lib.hid (by
    rw [hw6]
    have q := Blk.new (w.alloc (.cells #[.slice (some ⟨bs, fs, none⟩) a.length c1, .slice (some ⟨bd, fd, none⟩) da.length c2] 26)) 26 #[.slice (some ⟨bt, ft, none⟩) a.length c3, .slice (some ⟨be, fe, none⟩) db.length c4]
    try simp only [World.size_alloc] at q
    exact ((((q.alloc _).alloc _).alloc _).alloc _))
  have Q2 : Hid (Blk w6 (w.heap.size + 2) 28 #[.slice oq zq cq, .slice os zs cs, .slice op zp cp, .slice ol zl cl]) := Lib.hid (by
    rw [hw6]
    have q := Blk.new ((w.alloc (.cells #[.slice (some ⟨bs, fs, none⟩) a.length c1, .slice (some ⟨bd, fd, none⟩) da.length c2] 26)).alloc (.cells #[.slice (some ⟨bt, ft, none⟩) a.length c3, .slice (some ⟨be, fe, none⟩) db.length c4] 26)) 28 #[.slice oq zq cq, .slice os zs cs, .slice op zp cp, .slice ol zl cl]
    try simp only [World.size_alloc] at q
    exact (((q.alloc _).alloc _).alloc _))
  have Q3 : Hid (Blk w6 (w.heap.size + 3) 3 #[.int .i64 (f : Nat)]) := Lib.hid (by
    rw [hw6]
    have q := Blk.new (((w.alloc (.cells #[.slice (some ⟨bs, fs, none⟩) a.length c1, .slice (some ⟨bd, fd, none⟩) da.length c2] 26)).alloc (.cells #[.slice (some ⟨bt, ft, none⟩) a.length c3, .slice (some ⟨be, fe, none⟩) db.length c4] 26)).alloc (.cells #[.slice oq zq cq, .slice os zs cs, .slice op zp cp, .slice ol zl cl] 28)) 3 #[.int .i64 (f : Nat)]
    try simp only [World.size_alloc] at q
    exact ((q.alloc _).alloc _))
  have Q4 : Hid (Blk w6 (w.heap.size + 4) 26 #[.slice none 0 0, .slice none 0 0]) := Lib.hid (by
    rw [hw6]
    have q := Blk.new ((((w.alloc (.cells #[.slice (some ⟨bs, fs, none⟩) a.length c1, .slice (some ⟨bd, fd, none⟩) da.length c2] 26)).alloc (.cells #[.slice (some ⟨bt, ft, none⟩) a.length c3, .slice (some ⟨be, fe, none⟩) db.length c4] 26)).alloc (.cells #[.slice oq zq cq, .slice os zs cs, .slice op zp cp, .slice ol zl cl] 28)).alloc (.cells #[.int .i64 (f : Nat)] 3)) 26 #[.slice none 0 0, .slice none 0 0]
    try simp only [World.size_alloc] at q
    exact (q.alloc _))
  have Q5 : Hid (Blk w6 (w.heap.size + 5) 34 #[.int .i64 0]) := Lib.hid (by
    rw [hw6]
    have q := Blk.new (((((w.alloc (.cells #[.slice (some ⟨bs, fs, none⟩) a.length c1, .slice (some ⟨bd, fd, none⟩) da.length c2] 26)).alloc (.cells #[.slice (some ⟨bt, ft, none⟩) a.length c3, .slice (some ⟨be, fe, none⟩) db.length c4] 26)).alloc (.cells #[.slice oq zq cq, .slice os zs cs, .slice op zp cp, .slice ol zl cl] 28)).alloc (.cells #[.int .i64 (f : Nat)] 3)).alloc (.cells #[.slice none 0 0, .slice none 0 0] 26)) 34 #[.int .i64 0]
    try simp only [World.size_alloc] at q
    exact q)
  have HW6 := Lib.hid hw6
  have FK : Hid (∀ W, Below w6.heap.size w6 W → (Blk W w.heap.size 26 #[.slice (some ⟨bs, fs, none⟩) a.length c1, .slice (some ⟨bd, fd, none⟩) da.length c2] ∧ Blk W (w.heap.size + 1) 26 #[.slice (some ⟨bt, ft, none⟩) a.length c3, .slice (some ⟨be, fe, none⟩) db.length c4] ∧ Blk W (w.heap.size + 2) 28 #[.slice oq zq cq, .slice os zs cs, .slice op zp cp, .slice ol zl cl] ∧ Blk W (w.heap.size + 3) 3 #[.int .i64 (f : Nat)]) ∧ W.cell? ⟨bs, fs, none⟩ = some (.int .i64 (NX : Nat)) ∧ W.cell? ⟨bs, fs + 1, none⟩ = some (.int .i64 (CH : Nat)) ∧ W.cell? ⟨bt, ft, none⟩ = some (.int .i64 (NK : Nat)) ∧ W.cell? ⟨bt, ft + 1, none⟩ = some (.int .i64 (CH : Nat))) := Lib.hid (fun W hW => by
    have k := B6.out.trans (hW.mono B6.out.size)
    obtain ⟨z1, z2, z3, z4, z5, z6⟩ := HSL.out
    exact ⟨⟨Q0.out.below hW Q0.out.lt, Q1.out.below hW Q1.out.lt, Q2.out.below hW Q2.out.lt, Q3.out.below hW Q3.out.lt⟩, (k.cell (p := ⟨bs, fs, none⟩) z1).trans z3, (k.cell (p := ⟨bs, fs + 1, none⟩) z1).trans z4, (k.cell (p := ⟨bt, ft, none⟩) z2).trans z5, (k.cell (p := ⟨bt, ft + 1, none⟩) z2).trans z6⟩)
  have hal2 : ¬ a.length < 2 := by omega
  have CA6 := Lib.hid (CA.out w6 B6.out)
  obtain ⟨⟨k0, k1, k2, k3⟩, k4, k5, k6, k7⟩ := FK.out w6 (Below.refl _ _)
  obtain ⟨y0, y1, _⟩ := blk2 k0
  obtain ⟨y2, y3, _⟩ := blk2 k1
  obtain ⟨y4, y5, y6, y7⟩ := blk4c k2
  have y8 := k3.cell 0
  clear k0 k1 k2 k3 k4 k5 k6 k7
  clear hw6 hx hd hw he ta tb hf hcn hof hbl ga0 ga1 gb0 gb1 hs2 hda hdb hwa hwb hx1 hx2 hx3 hx4 hbs hbt xs0 xs1 xt0 xt1 ma mb pda pdb hc1 hc2 hc3 hc4 CA lda ldb hPl hS
  refine (callsIn_wide (n := 14)).1 ?_
  refine callsIn_of_wp_marks Try.func14 rfl trivial ?_
  simp only [Try.ntmps14, List.size_toArray, List.length_cons, List.length_nil, Nat.reduceAdd, Nat.reduceSub, Array.replicate_succ, Array.replicate_zero, List.push_toArray, List.append_toArray, List.nil_append, List.cons_append]
  refine wpIn_wide.2 ?_
  go_upto_region 1 with (fail)
  rw [← HW6.out]
  simp only [Nat.add_assoc, Nat.reduceAdd]
  go_upto_region 3 with (first
    | (go_at_call 51; (with_reducible refine CA6.out.mono ?_); rintro e wa ⟨rfl, hb⟩; have Fa := Lib.hid hb; obtain ⟨⟨k0, k1, k2, k3⟩, k4, k5, k6, k7⟩ := FK.out wa Fa.out; obtain ⟨y0, y1, _⟩ := blk2 k0; obtain ⟨y2, y3, _⟩ := blk2 k1; obtain ⟨y4, y5, y6, y7⟩ := blk4c k2; have y8 := k3.cell 0; clear k0 k1 k2 k3; clear hb)
    | (go_at_call 51; (with_reducible refine (CB.out _ (B6.out.trans (Fa.out.mono B6.out.size))).mono ?_); rintro e wb ⟨rfl, hb⟩; have Fb := Lib.hid (Fa.out.trans (hb.mono Fa.out.size)); obtain ⟨⟨k0, k1, k2, k3⟩, k4, k5, k6, k7⟩ := FK.out wb Fb.out; obtain ⟨y0, y1, _⟩ := blk2 k0; obtain ⟨y2, y3, _⟩ := blk2 k1; obtain ⟨y4, y5, y6, y7⟩ := blk4c k2; have y8 := k3.cell 0; clear k0 k1 k2 k3; clear hb)
    | (go_at_call 52; (with_reducible refine (CF.out _).mono ?_); rintro e w' ⟨rfl, rfl⟩)
    | (go_at_call 53; (with_reducible refine (CCN.out _ (B6.out.trans (Fb.out.mono B6.out.size))).mono ?_); rintro e w7 ⟨rfl, hb⟩; have F7 := Lib.hid (Fb.out.trans (hb.mono Fb.out.size)); obtain ⟨⟨k0, k1, k2, k3⟩, k4, k5, k6, k7⟩ := FK.out w7 F7.out; obtain ⟨y0, y1, _⟩ := blk2 k0; obtain ⟨y2, y3, _⟩ := blk2 k1; obtain ⟨y4, y5, y6, y7⟩ := blk4c k2; have y8 := k3.cell 0; clear k0 k1 k2 k3; clear hb))
  have g1 : (1 : Int) < (a.length : Int) := by omega
  have g2 : 1 < a.length := by omega
  have d1 : decide ((a.length : Int) < 2) = false := by rw [decide_eq_false_iff_not]; omega
  have d2 : decide (a.length < 2) = false := by rw [decide_eq_false_iff_not]; omega
  go_quiet (fail)
  clear d1 d2 g1 g2
  go_upto_region 5 with fail
  obtain ⟨w8, hw8⟩ : ∃ W, W = w7.drewN nq := ⟨_, rfl⟩
  rw [← hw8]
  have F8 : Hid (Below w6.heap.size w6 w8) := Lib.hid (by rw [hw8]; exact F7.out.trans ((below_drw (Below.refl w7.heap.size w7) nq).mono F7.out.size))
  clear hw8 F7 Fa Fb y0 y1 y2 y3 y4 y5 y6 y7 y8 k4 k5 k6 k7 CA6 CB CF CCN
  have hs2 := HS2.out
  have KS : Hid (∀ X : World, Below w8.heap.size w8 X → X.cell? ⟨w.heap.size, 0, none⟩ = some (.slice (some ⟨bs, fs, none⟩) a.length c1) ∧ X.cell? ⟨w.heap.size + 1, 0, none⟩ = some (.slice (some ⟨bt, ft, none⟩) a.length c3) ∧ X.cell? ⟨w.heap.size + 2, 0, none⟩ = some (.slice oq zq cq) ∧ X.cell? ⟨w.heap.size + 2, 1, none⟩ = some (.slice os zs cs) ∧ X.cell? ⟨w.heap.size + 2, 2, none⟩ = some (.slice op zp cp) ∧ X.cell? ⟨w.heap.size + 2, 3, none⟩ = some (.slice ol zl cl)) := Lib.hid (fun X hX => by
    obtain ⟨⟨k0, k1, k2, k3⟩, _⟩ := FK.out X (F8.out.trans (hX.mono F8.out.size))
    obtain ⟨y0, _⟩ := blk2 k0
    obtain ⟨y2, _⟩ := blk2 k1
    obtain ⟨y4, y5, y6, y7⟩ := blk4c k2
    exact ⟨y0, y2, y4, y5, y6, y7⟩)
  have B86 : Hid (∀ X : World, Below w8.heap.size w8 X → Below w.heap.size w X) := Lib.hid (fun X hX => (B6.out.trans (F8.out.mono B6.out.size)).trans (hX.mono (Nat.le_trans B6.out.size F8.out.size)))
  go_cut [10, 11] from 65 to 74 (fun s10 s11 wx => ∃ (P10 : Nat) (oP : Option Addr) (qP : Nat), s10 = .pointer (some ⟨P10, 0, none⟩) ∧ s11 = .int .i64 0 ∧ Hid (w8.heap.size ≤ P10) ∧ Hid (Blk wx P10 86 #[.slice oP Pl.length qP, .int .i64 (Ct : Nat), .int .i64 (Tp : Nat), .int .i64 (Wd : Nat), .int .i64 l0, .int .i64 n0, .int .i64 (K0 : Nat), .int .i64 s0, .int .i64 p0, .int .i64 d0, .int .i64 l1, .int .i64 n1, .int .i64 (K1 : Nat), .int .i64 s1, .int .i64 p1, .int .i64 d1]) ∧ Hid (wx.ownsRow w8.heap.size 3 1 (.slice oP Pl.length qP) Pl.length (ints Pl)) ∧ Hid (Below w8.heap.size w8 wx))
  case first =>
    have B0 : Hid (Below w8.heap.size w8 w8.drew) := Lib.hid (below_drw (Below.refl _ _) 1)
    refine wp_region_noPanic ?_
    refine wp_region_held_drew (S := fun X => X.cell? ⟨w.heap.size, 0, none⟩ = some (.slice (some ⟨bs, fs, none⟩) a.length c1) ∧ X.cell? ⟨w.heap.size + 1, 0, none⟩ = some (.slice (some ⟨bt, ft, none⟩) a.length c3) ∧ X.cell? ⟨w.heap.size + 2, 0, none⟩ = some (.slice oq zq cq) ∧ X.cell? ⟨w.heap.size + 2, 1, none⟩ = some (.slice os zs cs) ∧ X.cell? ⟨w.heap.size + 2, 2, none⟩ = some (.slice op zp cp) ∧ X.cell? ⟨w.heap.size + 2, 3, none⟩ = some (.slice ol zl cl)) (by kernel_rfl) ?_ (fun hHeld => ?_)
    · exact KS.out _ B0.out
    have hHd := hHeld
    generalize w8.drew = wd at *
    (refine wpAnyH_take (i := 0) (oi := ⟨some 66, _, _, _, _, _⟩) (v := ?v0_o1) rfl (by kernel_rfl) (by kernel_rfl) (by kernel_rfl) (fun _ _ _ h => h) (Or.inl ⟨by rfl, ?hy0_o1⟩) (by assumption) ?rest0_o1; (case hy0_o1 => ((intro w hSw); (try dsimp only at hSw); go_simp; first | done | (with_reducible rfl))))
    (try simp only [Act.put, List.setIfInBounds_toArray, List.set_cons_zero, List.set_cons_succ])
    (refine wpAnyH_take (i := 1) (oi := ⟨some 67, _, _, _, _, _⟩) (v := ?v1_o2) rfl (by kernel_rfl) (by kernel_rfl) (by kernel_rfl) (fun _ _ _ h => h) (Or.inl ⟨by rfl, ?hy1_o2⟩) (by assumption) ?rest1_o2; (case hy1_o2 => ((intro w hSw); (try dsimp only at hSw); go_simp; first | done | (with_reducible rfl))))
    (try simp only [Act.put, List.setIfInBounds_toArray, List.set_cons_zero, List.set_cons_succ])
    (refine wpAnyH_take (i := 2) (oi := ⟨some 68, _, _, _, _, _⟩) (v := ?v2_o3) rfl (by kernel_rfl) (by kernel_rfl) (by kernel_rfl) (fun _ _ _ h => h) (Or.inl ⟨by rfl, ?hy2_o3⟩) (by assumption) ?rest2_o3; (case hy2_o3 => ((intro w hSw); (try dsimp only at hSw); go_simp; first | done | (with_reducible rfl))))
    (try simp only [Act.put, List.setIfInBounds_toArray, List.set_cons_zero, List.set_cons_succ])
    (refine wpAnyH_take (i := 3) (oi := ⟨some 69, _, _, _, _, _⟩) (v := ?v3_o4) rfl (by kernel_rfl) (by kernel_rfl) (by kernel_rfl) (fun _ _ _ h => h) (Or.inl ⟨by rfl, ?hy3_o4⟩) (by assumption) ?rest3_o4; (case hy3_o4 => ((intro w hSw); (try dsimp only at hSw); go_simp; first | done | (with_reducible rfl))))
    (try simp only [Act.put, List.setIfInBounds_toArray, List.set_cons_zero, List.set_cons_succ])
    (refine wpAnyH_take (i := 4) (oi := ⟨some 70, _, _, _, _, _⟩) (v := ?v4_o5) rfl (by kernel_rfl) (by kernel_rfl) (by kernel_rfl) (fun _ _ _ h => h) (Or.inl ⟨by rfl, ?hy4_o5⟩) (by assumption) ?rest4_o5; (case hy4_o5 => ((intro w hSw); (try dsimp only at hSw); go_simp; first | done | (with_reducible rfl))))
    (try simp only [Act.put, List.setIfInBounds_toArray, List.set_cons_zero, List.set_cons_succ])
    (refine wpAnyH_take (i := 5) (oi := ⟨some 71, _, _, _, _, _⟩) (v := ?v5_o6) rfl (by kernel_rfl) (by kernel_rfl) (by kernel_rfl) (fun _ _ _ h => h) (Or.inl ⟨by rfl, ?hy5_o6⟩) (by assumption) ?rest5_o6; (case hy5_o6 => ((intro w hSw); (try dsimp only at hSw); go_simp; first | done | (with_reducible rfl))))
    (try simp only [Act.put, List.setIfInBounds_toArray, List.set_cons_zero, List.set_cons_succ])
    refine wpAnyH_ready (rs := [6, 10]) (by kernel_rfl) (by simp) ?_
    refine AllReadyH.cons (o := ⟨some 72, _, _, _, _, _⟩) rfl (fun K hK => ?_) (AllReadyH.cons (o := ⟨some 10, _, _, _, _, _⟩) rfl (fun K hK => ?_) (AllReadyH.nil))
    · go_simp
      (go_at_call 54; (with_reducible refine (COF.out _ _ (B86.out _ B0.out) (hld2.out.below (B86.out _ B0.out))).mono ?_); rintro e w9 ⟨oP, qP, rfl, hown, hb⟩)
      have b9 := Lib.hid (B0.out.trans (hb.mono B0.out.size))
      have O9 := Lib.hid (own_base hown B0.out.size)
      clear hb hown
      simp only [Wnv]
      refine hK.out _ _ ?_ (fun hHeld => ?_)
      · (try dsimp only)
        exact KS.out _ b9.out
      clear hK K
      (try simp only [Act.put, List.setIfInBounds_toArray, List.set_cons_zero, List.set_cons_succ])
      (refine wpAnyH_take (i := 7) (oi := ⟨some 65, _, _, _, _, _⟩) (v := ?v7_o7) rfl (by kernel_rfl) (by kernel_rfl) (by kernel_rfl) (fun _ _ _ h => h) (Or.inl ⟨by rfl, ?hy7_o7⟩) (by assumption) ?rest7_o7; (case hy7_o7 => ((intro w hSw); (try dsimp only at hSw); go_simp; first | done | (with_reducible rfl))))
      (try simp only [Act.put, List.setIfInBounds_toArray, List.set_cons_zero, List.set_cons_succ])
      (refine wpAnyH_take (i := 8) (oi := ⟨some 73, _, _, _, _, _⟩) (v := ?v8_o8) rfl (by kernel_rfl) (by kernel_rfl) (by kernel_rfl) (fun _ _ _ h => h) (Or.inl ⟨by rfl, ?hy8_o8⟩) (by assumption) ?rest8_o8; (case hy8_o8 => ((intro w hSw); (try dsimp only at hSw); go_simp; first | done | (with_reducible rfl))))
      (try simp only [Act.put, List.setIfInBounds_toArray, List.set_cons_zero, List.set_cons_succ])
      (refine wpAnyH_take (i := 9) (oi := ⟨some 74, _, _, _, _, _⟩) (v := ?v9_o9) rfl (by kernel_rfl) (by kernel_rfl) (by kernel_rfl) (fun _ _ _ h => h) (Or.inl ⟨by rfl, ?hy9_o9⟩) (by assumption) ?rest9_o9; (case hy9_o9 => ((intro w hSw); (try dsimp only at hSw); go_simp; first | done | (with_reducible rfl))))
      (try simp only [Act.put, List.setIfInBounds_toArray, List.set_cons_zero, List.set_cons_succ])
      refine wpAnyH_ready (rs := [10]) (by kernel_rfl) (by simp) ?_
      refine AllReadyH.cons (o := ⟨some 10, _, _, _, _, _⟩) rfl (fun K hK => ?_) (AllReadyH.nil)
      go_simp
      have bA := Lib.hid (b9.out.alloc b9.out.size (.cells #[.slice none 0 0, .int .i64 0, .int .i64 0, .int .i64 0, .int .i64 0, .int .i64 0, .int .i64 0, .int .i64 0, .int .i64 0, .int .i64 0, .int .i64 0, .int .i64 0, .int .i64 0, .int .i64 0, .int .i64 0, .int .i64 0] 86))
      have TA := Lib.hid (Blk.new w9 86 #[.slice none 0 0, .int .i64 0, .int .i64 0, .int .i64 0, .int .i64 0, .int .i64 0, .int .i64 0, .int .i64 0, .int .i64 0, .int .i64 0, .int .i64 0, .int .i64 0, .int .i64 0, .int .i64 0, .int .i64 0, .int .i64 0])
      obtain ⟨g9, hg9⟩ : ∃ g, g = w9.heap.size := ⟨_, rfl⟩
      rw [← hg9] at TA
      have G9 : Hid (w8.heap.size ≤ g9) := Lib.hid (by rw [hg9]; exact b9.out.size)
      have OA := Lib.hid (O9.out.alloc (.cells #[.slice none 0 0, .int .i64 0, .int .i64 0, .int .i64 0, .int .i64 0, .int .i64 0, .int .i64 0, .int .i64 0, .int .i64 0, .int .i64 0, .int .i64 0, .int .i64 0, .int .i64 0, .int .i64 0, .int .i64 0, .int .i64 0] 86))
      try rw [← hg9]
      clear hg9
      refine hK.out _ _ ?_ (fun hHeld => ?_)
      · (try dsimp only)
        exact KS.out _ bA.out
      clear hK K
      generalize w9.alloc (.cells #[.slice none 0 0, .int .i64 0, .int .i64 0, .int .i64 0, .int .i64 0, .int .i64 0, .int .i64 0, .int .i64 0, .int .i64 0, .int .i64 0, .int .i64 0, .int .i64 0, .int .i64 0, .int .i64 0, .int .i64 0, .int .i64 0] 86) = wA at *
      (try simp only [Act.put, List.setIfInBounds_toArray, List.set_cons_zero, List.set_cons_succ])
      refine wpAnyH_ready (rs := [11]) (by kernel_rfl) (by simp) ?_
      refine AllReadyH.cons (o := ⟨none, _, _, _, _, _⟩) rfl (fun K hK => ?_) (AllReadyH.nil)
      rw [if_pos (by rfl)]
      refine wp_store_row 86 (.tmp 10) (.tmp 73) (by rfl) g9 #[.slice oP Pl.length qP, .int .i64 (Ct : Nat), .int .i64 (Tp : Nat), .int .i64 (Wd : Nat), .int .i64 l0, .int .i64 n0, .int .i64 (K0 : Nat), .int .i64 s0, .int .i64 p0, .int .i64 d0, .int .i64 l1, .int .i64 n1, .int .i64 (K1 : Nat), .int .i64 s1, .int .i64 p1, .int .i64 d1] (by rfl) (by rfl) 86 _ TA.out (by kernel_rfl) rfl (by simp [Value.oneCell']) ?_
      refine hK.out _ _ ?_ (fun hHeld => ?_)
      · (try dsimp only)
        exact KS.out _ (setrow_below bA.out G9.out (Nat.le_refl _) _)
      clear hK K
      (try simp only [Act.put])
      (refine wpAnyH_take (i := 12) (oi := ⟨some 11, _, _, _, _, _⟩) (v := .int .i64 0) rfl (by kernel_rfl) (by kernel_rfl) (by kernel_rfl) (fun _ _ _ h => h) (Or.inl ⟨by rfl, ?hy12_o10⟩) (by assumption) ?rest12_o10; (case hy12_o10 => ((intro w hSw); (try dsimp only at hSw); go_simp; first | done | (with_reducible rfl))))
      (try simp only [Act.put, List.setIfInBounds_toArray, List.set_cons_zero, List.set_cons_succ])
      refine wpAnyH_done (by kernel_rfl) ?_ _
      have TT := Lib.hid (setrow_blk TA.out #[.slice oP Pl.length qP, .int .i64 (Ct : Nat), .int .i64 (Tp : Nat), .int .i64 (Wd : Nat), .int .i64 l0, .int .i64 n0, .int .i64 (K0 : Nat), .int .i64 s0, .int .i64 p0, .int .i64 d0, .int .i64 l1, .int .i64 n1, .int .i64 (K1 : Nat), .int .i64 s1, .int .i64 p1, .int .i64 d1])
      have OT := Lib.hid (OA.out.kept (setrow_grown _ g9 #[.slice oP Pl.length qP, .int .i64 (Ct : Nat), .int .i64 (Tp : Nat), .int .i64 (Wd : Nat), .int .i64 l0, .int .i64 n0, .int .i64 (K0 : Nat), .int .i64 s0, .int .i64 p0, .int .i64 d0, .int .i64 l1, .int .i64 n1, .int .i64 (K1 : Nat), .int .i64 s1, .int .i64 p1, .int .i64 d1]) (.inr (tens_not_row OA.out TA.out (by decide))))
      have BT := Lib.hid (setrow_below bA.out G9.out (Nat.le_refl _) #[.slice oP Pl.length qP, .int .i64 (Ct : Nat), .int .i64 (Tp : Nat), .int .i64 (Wd : Nat), .int .i64 l0, .int .i64 n0, .int .i64 (K0 : Nat), .int .i64 s0, .int .i64 p0, .int .i64 d0, .int .i64 l1, .int .i64 n1, .int .i64 (K1 : Nat), .int .i64 s1, .int .i64 p1, .int .i64 d1])
      refine NoPanic.normal ?_
      go_wp2
      go_meet
      exact ⟨g9, oP, qP, rfl, rfl, G9, TT, OT, BT⟩
    · go_simp
      have bA := Lib.hid (B0.out.alloc B0.out.size (.cells #[.slice none 0 0, .int .i64 0, .int .i64 0, .int .i64 0, .int .i64 0, .int .i64 0, .int .i64 0, .int .i64 0, .int .i64 0, .int .i64 0, .int .i64 0, .int .i64 0, .int .i64 0, .int .i64 0, .int .i64 0, .int .i64 0] 86))
      have TA := Lib.hid (Blk.new wd 86 #[.slice none 0 0, .int .i64 0, .int .i64 0, .int .i64 0, .int .i64 0, .int .i64 0, .int .i64 0, .int .i64 0, .int .i64 0, .int .i64 0, .int .i64 0, .int .i64 0, .int .i64 0, .int .i64 0, .int .i64 0, .int .i64 0])
      obtain ⟨g9, hg9⟩ : ∃ g, g = wd.heap.size := ⟨_, rfl⟩
      rw [← hg9] at TA
      have G9 : Hid (w8.heap.size ≤ g9) := Lib.hid (by rw [hg9]; exact B0.out.size)
      try rw [← hg9]
      clear hg9
      refine hK.out _ _ ?_ (fun hHeld => ?_)
      · (try dsimp only)
        exact KS.out _ bA.out
      clear hK K
      generalize wd.alloc (.cells #[.slice none 0 0, .int .i64 0, .int .i64 0, .int .i64 0, .int .i64 0, .int .i64 0, .int .i64 0, .int .i64 0, .int .i64 0, .int .i64 0, .int .i64 0, .int .i64 0, .int .i64 0, .int .i64 0, .int .i64 0, .int .i64 0] 86) = wA at *
      (try simp only [Act.put, List.setIfInBounds_toArray, List.set_cons_zero, List.set_cons_succ])
      refine wpAnyH_ready (rs := [6]) (by kernel_rfl) (by simp) ?_
      refine AllReadyH.cons (o := ⟨some 72, _, _, _, _, _⟩) rfl (fun K hK => ?_) (AllReadyH.nil)
      go_simp
      (go_at_call 54; (with_reducible refine (COF.out _ _ (B86.out _ bA.out) (hld2.out.below (B86.out _ bA.out))).mono ?_); rintro e w9 ⟨oP, qP, rfl, hown, hb⟩)
      have b9 := Lib.hid (bA.out.trans (hb.mono bA.out.size))
      have O9 := Lib.hid (own_base hown bA.out.size)
      have T9 := Lib.hid (TA.out.below hb TA.out.lt)
      clear hb hown
      simp only [Wnv]
      refine hK.out _ _ ?_ (fun hHeld => ?_)
      · (try dsimp only)
        exact KS.out _ b9.out
      clear hK K
      (try simp only [Act.put, List.setIfInBounds_toArray, List.set_cons_zero, List.set_cons_succ])
      (refine wpAnyH_take (i := 7) (oi := ⟨some 65, _, _, _, _, _⟩) (v := ?v7_o11) rfl (by kernel_rfl) (by kernel_rfl) (by kernel_rfl) (fun _ _ _ h => h) (Or.inl ⟨by rfl, ?hy7_o11⟩) (by assumption) ?rest7_o11; (case hy7_o11 => ((intro w hSw); (try dsimp only at hSw); go_simp; first | done | (with_reducible rfl))))
      (try simp only [Act.put, List.setIfInBounds_toArray, List.set_cons_zero, List.set_cons_succ])
      (refine wpAnyH_take (i := 8) (oi := ⟨some 73, _, _, _, _, _⟩) (v := ?v8_o12) rfl (by kernel_rfl) (by kernel_rfl) (by kernel_rfl) (fun _ _ _ h => h) (Or.inl ⟨by rfl, ?hy8_o12⟩) (by assumption) ?rest8_o12; (case hy8_o12 => ((intro w hSw); (try dsimp only at hSw); go_simp; first | done | (with_reducible rfl))))
      (try simp only [Act.put, List.setIfInBounds_toArray, List.set_cons_zero, List.set_cons_succ])
      (refine wpAnyH_take (i := 9) (oi := ⟨some 74, _, _, _, _, _⟩) (v := ?v9_o13) rfl (by kernel_rfl) (by kernel_rfl) (by kernel_rfl) (fun _ _ _ h => h) (Or.inl ⟨by rfl, ?hy9_o13⟩) (by assumption) ?rest9_o13; (case hy9_o13 => ((intro w hSw); (try dsimp only at hSw); go_simp; first | done | (with_reducible rfl))))
      (try simp only [Act.put, List.setIfInBounds_toArray, List.set_cons_zero, List.set_cons_succ])
      refine wpAnyH_ready (rs := [11]) (by kernel_rfl) (by simp) ?_
      refine AllReadyH.cons (o := ⟨none, _, _, _, _, _⟩) rfl (fun K hK => ?_) (AllReadyH.nil)
      rw [if_pos (by rfl)]
      refine wp_store_row 86 (.tmp 10) (.tmp 73) (by rfl) g9 #[.slice oP Pl.length qP, .int .i64 (Ct : Nat), .int .i64 (Tp : Nat), .int .i64 (Wd : Nat), .int .i64 l0, .int .i64 n0, .int .i64 (K0 : Nat), .int .i64 s0, .int .i64 p0, .int .i64 d0, .int .i64 l1, .int .i64 n1, .int .i64 (K1 : Nat), .int .i64 s1, .int .i64 p1, .int .i64 d1] (by rfl) (by rfl) 86 _ T9.out (by kernel_rfl) rfl (by simp [Value.oneCell']) ?_
      refine hK.out _ _ ?_ (fun hHeld => ?_)
      · (try dsimp only)
        exact KS.out _ (setrow_below b9.out G9.out (Nat.le_refl _) _)
      clear hK K
      (try simp only [Act.put])
      (refine wpAnyH_take (i := 12) (oi := ⟨some 11, _, _, _, _, _⟩) (v := .int .i64 0) rfl (by kernel_rfl) (by kernel_rfl) (by kernel_rfl) (fun _ _ _ h => h) (Or.inl ⟨by rfl, ?hy12_o14⟩) (by assumption) ?rest12_o14; (case hy12_o14 => ((intro w hSw); (try dsimp only at hSw); go_simp; first | done | (with_reducible rfl))))
      (try simp only [Act.put, List.setIfInBounds_toArray, List.set_cons_zero, List.set_cons_succ])
      refine wpAnyH_done (by kernel_rfl) ?_ _
      have TT := Lib.hid (setrow_blk T9.out #[.slice oP Pl.length qP, .int .i64 (Ct : Nat), .int .i64 (Tp : Nat), .int .i64 (Wd : Nat), .int .i64 l0, .int .i64 n0, .int .i64 (K0 : Nat), .int .i64 s0, .int .i64 p0, .int .i64 d0, .int .i64 l1, .int .i64 n1, .int .i64 (K1 : Nat), .int .i64 s1, .int .i64 p1, .int .i64 d1])
      have OT := Lib.hid (O9.out.kept (setrow_grown _ g9 #[.slice oP Pl.length qP, .int .i64 (Ct : Nat), .int .i64 (Tp : Nat), .int .i64 (Wd : Nat), .int .i64 l0, .int .i64 n0, .int .i64 (K0 : Nat), .int .i64 s0, .int .i64 p0, .int .i64 d0, .int .i64 l1, .int .i64 n1, .int .i64 (K1 : Nat), .int .i64 s1, .int .i64 p1, .int .i64 d1]) (.inr (tens_not_row O9.out T9.out (by decide))))
      have BT := Lib.hid (setrow_below b9.out G9.out (Nat.le_refl _) #[.slice oP Pl.length qP, .int .i64 (Ct : Nat), .int .i64 (Tp : Nat), .int .i64 (Wd : Nat), .int .i64 l0, .int .i64 n0, .int .i64 (K0 : Nat), .int .i64 s0, .int .i64 p0, .int .i64 d0, .int .i64 l1, .int .i64 n1, .int .i64 (K1 : Nat), .int .i64 s1, .int .i64 p1, .int .i64 d1])
      refine NoPanic.normal ?_
      go_wp2
      go_meet
      exact ⟨g9, oP, qP, rfl, rfl, G9, TT, OT, BT⟩
  case rest =>
    obtain ⟨P10, oP, qP, rfl, rfl, H10, X10, O10, F10⟩ := hcut
    obtain ⟨wE, hwE⟩ : ∃ x, x = wc := ⟨_, rfl⟩
    subst hwE
    obtain ⟨gP, qP2, eP⟩ := own_slice1 O10.out (by have := HS.out.2.1; omega)
    simp only [Value.slice.injEq] at eP
    obtain ⟨rfl, _, rfl⟩ := eP
    obtain ⟨SH, hSH⟩ : ∃ l : List Int, l = [(NX : Int), (NK : Int)] ++ Pl := ⟨_, rfl⟩
    have HSH : Hid (SH = [(NX : Int), (NK : Int)] ++ Pl ∧ SH.length = 2 + Pl.length ∧ ints SH = ints [(NX : Int), (NK : Int)] ++ ints Pl) := Lib.hid ⟨hSH, by rw [hSH, List.length_append]; rfl, by rw [hSH]; exact List.map_append⟩
    clear hSH
    have KE : Hid (∀ X : World, Below wE.heap.size wE X → X.cell? ⟨w.heap.size, 0, none⟩ = some (.slice (some ⟨bs, fs, none⟩) a.length c1) ∧ X.cell? ⟨bs, fs, none⟩ = some (.int .i64 (NX : Nat)) ∧ X.cell? ⟨w.heap.size + 1, 0, none⟩ = some (.slice (some ⟨bt, ft, none⟩) a.length c3) ∧ X.cell? ⟨bt, ft, none⟩ = some (.int .i64 (NK : Nat)) ∧ X.cell? ⟨P10, 0, none⟩ = some (.slice (some ⟨gP, 0, none⟩) Pl.length qP)) := Lib.hid (fun X hX => by
      have z := F10.out.trans (hX.mono F10.out.size)
      obtain ⟨⟨k0, k1, k2, k3⟩, k4, k5, k6, k7⟩ := FK.out X (F8.out.trans (z.mono F8.out.size))
      obtain ⟨y0, _⟩ := blk2 k0
      obtain ⟨y2, _⟩ := blk2 k1
      exact ⟨y0, k4, y2, k6, (X10.out.below hX X10.out.lt).cell 0⟩)
    have B86E : Hid (∀ X : World, Below wE.heap.size wE X → Below w.heap.size w X) := Lib.hid (fun X hX => B86.out X (F10.out.trans (hX.mono F10.out.size)))
    have g1 : (0 : Int) < (a.length : Int) := by omega
    have g2 : 0 < a.length := by omega
    have g3 : Pl.length ≤ 2 := HS.out.2.2
    go_upto_region 8 with fail
    go_cut [11, 12] from 79 to 94 (fun s11 s12 wx => ∃ (P12 : Nat), s12 = .pointer (some ⟨P12, 0, none⟩) ∧ s11 = .int .i64 5 ∧ Hid (Below wE.heap.size wE wx))
    case first =>
      have B0 : Hid (Below wE.heap.size wE wE.drew) := Lib.hid (below_drw (Below.refl _ _) 1)
      refine wp_region_noPanic ?_
      refine wp_region_held_drew (S := fun X => X.cell? ⟨w.heap.size, 0, none⟩ = some (.slice (some ⟨bs, fs, none⟩) a.length c1) ∧ X.cell? ⟨bs, fs, none⟩ = some (.int .i64 (NX : Nat)) ∧ X.cell? ⟨w.heap.size + 1, 0, none⟩ = some (.slice (some ⟨bt, ft, none⟩) a.length c3) ∧ X.cell? ⟨bt, ft, none⟩ = some (.int .i64 (NK : Nat)) ∧ X.cell? ⟨P10, 0, none⟩ = some (.slice (some ⟨gP, 0, none⟩) Pl.length qP)) (by kernel_rfl) ?_ (fun hHeld => ?_)
      · exact KE.out _ B0.out
      have hHd := hHeld
      generalize wE.drew = wd at *
      (refine wpAnyH_take (i := 0) (oi := ⟨some 80, _, _, _, _, _⟩) (v := ?v0_q1) rfl (by kernel_rfl) (by kernel_rfl) (by kernel_rfl) (fun _ _ _ h => h) (Or.inl ⟨by rfl, ?hy0_q1⟩) (by assumption) ?rest0_q1; (case hy0_q1 => ((intro w hSw); (try dsimp only at hSw); go_simp; first | done | (with_reducible rfl))))
      (try simp only [Act.put, List.setIfInBounds_toArray, List.set_cons_zero, List.set_cons_succ])
      (refine wpAnyH_take (i := 1) (oi := ⟨some 81, _, _, _, _, _⟩) (v := ?v1_q2) rfl (by kernel_rfl) (by kernel_rfl) (by kernel_rfl) (fun _ _ _ h => h) (Or.inl ⟨by rfl, ?hy1_q2⟩) (by assumption) ?rest1_q2; (case hy1_q2 => ((intro w hSw); (try dsimp only at hSw); go_simp; first | done | (with_reducible rfl))))
      (try simp only [Act.put, List.setIfInBounds_toArray, List.set_cons_zero, List.set_cons_succ])
      (refine wpAnyH_take (i := 2) (oi := ⟨some 82, _, _, _, _, _⟩) (v := ?v2_q3) rfl (by kernel_rfl) (by kernel_rfl) (by kernel_rfl) (fun _ _ _ h => h) (Or.inl ⟨by rfl, ?hy2_q3⟩) (by assumption) ?rest2_q3; (case hy2_q3 => ((intro w hSw); (try dsimp only at hSw); go_simp; first | done | (with_reducible rfl))))
      (try simp only [Act.put, List.setIfInBounds_toArray, List.set_cons_zero, List.set_cons_succ])
      (refine wpAnyH_take (i := 3) (oi := ⟨some 83, _, _, _, _, _⟩) (v := ?v3_q4) rfl (by kernel_rfl) (by kernel_rfl) (by kernel_rfl) (fun _ _ _ h => h) (Or.inl ⟨by rfl, ?hy3_q4⟩) (by assumption) ?rest3_q4; (case hy3_q4 => ((intro w hSw); (try dsimp only at hSw); go_simp; first | done | (with_reducible rfl))))
      (try simp only [Act.put, List.setIfInBounds_toArray, List.set_cons_zero, List.set_cons_succ])
      (refine wpAnyH_take (i := 4) (oi := ⟨some 84, _, _, _, _, _⟩) (v := ?v4_q5) rfl (by kernel_rfl) (by kernel_rfl) (by kernel_rfl) (fun _ _ _ h => h) (Or.inl ⟨by rfl, ?hy4_q5⟩) (by assumption) ?rest4_q5; (case hy4_q5 => ((intro w hSw); (try dsimp only at hSw); go_simp; first | done | (with_reducible rfl))))
      (try simp only [Act.put, List.setIfInBounds_toArray, List.set_cons_zero, List.set_cons_succ])
      (refine wpAnyH_take (i := 5) (oi := ⟨some 85, _, _, _, _, _⟩) (v := ?v5_q6) rfl (by kernel_rfl) (by kernel_rfl) (by kernel_rfl) (fun _ _ _ h => h) (Or.inl ⟨by rfl, ?hy5_q6⟩) (by assumption) ?rest5_q6; (case hy5_q6 => ((intro w hSw); (try dsimp only at hSw); go_simp; first | done | (with_reducible rfl))))
      (try simp only [Act.put, List.setIfInBounds_toArray, List.set_cons_zero, List.set_cons_succ])
      (refine wpAnyH_take (i := 6) (oi := ⟨some 86, _, _, _, _, _⟩) (v := ?v6_q7) rfl (by kernel_rfl) (by kernel_rfl) (by kernel_rfl) (fun _ _ _ h => h) (Or.inl ⟨by rfl, ?hy6_q7⟩) (by assumption) ?rest6_q7; (case hy6_q7 => ((intro w hSw); (try dsimp only at hSw); go_simp; first | done | (with_reducible rfl))))
      (try simp only [Act.put, List.setIfInBounds_toArray, List.set_cons_zero, List.set_cons_succ])
      (refine wpAnyH_take (i := 7) (oi := ⟨some 87, _, _, _, _, _⟩) (v := ?v7_q8) rfl (by kernel_rfl) (by kernel_rfl) (by kernel_rfl) (fun _ _ _ h => h) (Or.inl ⟨by rfl, ?hy7_q8⟩) (by assumption) ?rest7_q8; (case hy7_q8 => ((intro w hSw); (try dsimp only at hSw); go_simp; first | done | (with_reducible rfl))))
      (try simp only [Act.put, List.setIfInBounds_toArray, List.set_cons_zero, List.set_cons_succ])
      (refine wpAnyH_take (i := 9) (oi := ⟨some 89, _, _, _, _, _⟩) (v := ?v9_q9) rfl (by kernel_rfl) (by kernel_rfl) (by kernel_rfl) (fun _ _ _ h => h) (Or.inl ⟨by rfl, ?hy9_q9⟩) (by assumption) ?rest9_q9; (case hy9_q9 => ((intro w hSw); (try dsimp only at hSw); go_simp; first | done | (with_reducible rfl))))
      (try simp only [Act.put, List.setIfInBounds_toArray, List.set_cons_zero, List.set_cons_succ])
      (refine wpAnyH_take (i := 10) (oi := ⟨some 90, _, _, _, _, _⟩) (v := ?v10_q10) rfl (by kernel_rfl) (by kernel_rfl) (by kernel_rfl) (fun _ _ _ h => h) (Or.inl ⟨by rfl, ?hy10_q10⟩) (by assumption) ?rest10_q10; (case hy10_q10 => ((intro w hSw); (try dsimp only at hSw); go_simp; first | done | (with_reducible rfl))))
      (try simp only [Act.put, List.setIfInBounds_toArray, List.set_cons_zero, List.set_cons_succ])
      refine wpAnyH_ready (rs := [8, 16]) (by kernel_rfl) (by simp) ?_
      refine AllReadyH.cons (o := ⟨some 88, _, _, _, _, _⟩) rfl (fun K hK => ?_) (AllReadyH.cons (o := ⟨some 12, _, _, _, _, _⟩) rfl (fun K hK => ?_) (AllReadyH.nil))
      · go_simp
        have bB := Lib.hid (B0.out.alloc B0.out.size (.cells #[.int .i64 (NX : Nat), .int .i64 (NK : Nat)] 3))
        have O8 := Lib.hid (own_built2 wd (NX : Nat) (NK : Nat) wE.heap.size B0.out.size)
        obtain ⟨g8, hg8⟩ : ∃ g, g = wd.heap.size := ⟨_, rfl⟩
        rw [← hg8] at O8
        have G8 : Hid (wE.heap.size ≤ g8) := Lib.hid (by rw [hg8]; exact B0.out.size)
        try rw [← hg8]
        clear hg8
        refine hK.out _ _ ?_ (fun hHeld => ?_)
        · (try dsimp only)
          exact KE.out _ bB.out
        clear hK K
        generalize wd.alloc (.cells #[.int .i64 (NX : Nat), .int .i64 (NK : Nat)] 3) = wB at *
        (try simp only [Act.put, List.setIfInBounds_toArray, List.set_cons_zero, List.set_cons_succ])
        refine wpAnyH_ready (rs := [11, 16]) (by kernel_rfl) (by simp) ?_
        refine AllReadyH.cons (o := ⟨some 91, _, _, _, _, _⟩) rfl (fun K hK => ?_) (AllReadyH.cons (o := ⟨some 12, _, _, _, _, _⟩) rfl (fun K hK => ?_) (AllReadyH.nil))
        · rw [if_pos (by rfl)]
          refine wp_append_own _ _ _ 23 (by rfl) wE.heap.size 3 i0 (.int .i64 0) 1 8 Try.underlying23 hi0 hz0 hz1 hz2 rfl (by decide) (.slice (some ⟨g8, 0, none⟩) 2 2) 2 (ints [(NX : Int), (NK : Int)]) (by rfl) O8.out ⟨gP, 0, none⟩ Pl.length qP (ints Pl) (by rfl) (by simp [ints]) ((Below.keepOwn O10.out bB.out (Nat.le_refl _)).cells rfl) (fun u hu => by obtain ⟨y, _, rfl⟩ := List.mem_map.1 hu; rfl) (by unfold maxLen; omega) (by omega) bB.out.size ?_
          intro v9 w9 hown hgrow _
          rw [← HSH.out.2.1, ← HSH.out.2.2] at hown
          obtain ⟨o9, q9, rfl, hld⟩ := Ld.of_owns hown
          have b9 := Lib.hid (bB.out.grown hgrow bB.out.size (fun k e => by cases e; exact G8.out))
          have L9 := Lib.hid hld
          clear hown hgrow hld
          refine hK.out _ _ ?_ (fun hHeld => ?_)
          · (try dsimp only)
            exact KE.out _ b9.out
          clear hK K
          (try simp only [Act.put, List.setIfInBounds_toArray, List.set_cons_zero, List.set_cons_succ])
          refine wpAnyH_ready (rs := [12, 16]) (by kernel_rfl) (by simp) ?_
          refine AllReadyH.cons (o := ⟨some 92, _, _, _, _, _⟩) rfl (fun K hK => ?_) (AllReadyH.cons (o := ⟨some 12, _, _, _, _, _⟩) rfl (fun K hK => ?_) (AllReadyH.nil))
          · go_simp
            (go_at_call 55; (with_reducible refine (noughts_no _ _ _ L9.out (by rw [HSH.out.1]; exact HS.out.1)).mono ?_); rintro e w11 ⟨rfl, hb⟩)
            have b11 := Lib.hid (b9.out.trans (hb.mono b9.out.size))
            clear hb
            refine hK.out _ _ ?_ (fun hHeld => ?_)
            · (try dsimp only)
              exact KE.out _ b11.out
            clear hK K
            (try simp only [Act.put, List.setIfInBounds_toArray, List.set_cons_zero, List.set_cons_succ])
            (refine wpAnyH_take (i := 13) (oi := ⟨some 79, _, _, _, _, _⟩) (v := ?v13_q11) rfl (by kernel_rfl) (by kernel_rfl) (by kernel_rfl) (fun _ _ _ h => h) (Or.inl ⟨by rfl, ?hy13_q11⟩) (by assumption) ?rest13_q11; (case hy13_q11 => ((intro w hSw); (try dsimp only at hSw); go_simp; first | done | (with_reducible rfl))))
            (try simp only [Act.put, List.setIfInBounds_toArray, List.set_cons_zero, List.set_cons_succ])
            (refine wpAnyH_take (i := 14) (oi := ⟨some 93, _, _, _, _, _⟩) (v := ?v14_q12) rfl (by kernel_rfl) (by kernel_rfl) (by kernel_rfl) (fun _ _ _ h => h) (Or.inl ⟨by rfl, ?hy14_q12⟩) (by assumption) ?rest14_q12; (case hy14_q12 => ((intro w hSw); (try dsimp only at hSw); go_simp; first | done | (with_reducible rfl))))
            (try simp only [Act.put, List.setIfInBounds_toArray, List.set_cons_zero, List.set_cons_succ])
            (refine wpAnyH_take (i := 15) (oi := ⟨some 94, _, _, _, _, _⟩) (v := ?v15_q13) rfl (by kernel_rfl) (by kernel_rfl) (by kernel_rfl) (fun _ _ _ h => h) (Or.inl ⟨by rfl, ?hy15_q13⟩) (by assumption) ?rest15_q13; (case hy15_q13 => ((intro w hSw); (try dsimp only at hSw); go_simp; first | done | (with_reducible rfl))))
            (try simp only [Act.put, List.setIfInBounds_toArray, List.set_cons_zero, List.set_cons_succ])
            refine wpAnyH_ready (rs := [16]) (by kernel_rfl) (by simp) ?_
            refine AllReadyH.cons (o := ⟨some 12, _, _, _, _, _⟩) rfl (fun K hK => ?_) (AllReadyH.nil)
            go_simp
            have bC := Lib.hid (b11.out.alloc b11.out.size (.cells #[.slice none 0 0, .slice none 0 0] 26))
            have TC := Lib.hid (Blk.new w11 26 #[.slice none 0 0, .slice none 0 0])
            obtain ⟨g12, hg12⟩ : ∃ g, g = w11.heap.size := ⟨_, rfl⟩
            rw [← hg12] at TC
            have G12 : Hid (wE.heap.size ≤ g12) := Lib.hid (by rw [hg12]; exact b11.out.size)
            try rw [← hg12]
            clear hg12
            refine hK.out _ _ ?_ (fun hHeld => ?_)
            · (try dsimp only)
              exact KE.out _ bC.out
            clear hK K
            generalize w11.alloc (.cells #[.slice none 0 0, .slice none 0 0] 26) = wC at *
            (try simp only [Act.put, List.setIfInBounds_toArray, List.set_cons_zero, List.set_cons_succ])
            refine wpAnyH_ready (rs := [17]) (by kernel_rfl) (by simp) ?_
            refine AllReadyH.cons (o := ⟨none, _, _, _, _, _⟩) rfl (fun K hK => ?_) (AllReadyH.nil)
            rw [if_pos (by rfl)]
            refine wp_store_row 26 (.tmp 12) (.tmp 93) (by rfl) g12 #[.slice none 0 0, .slice none 0 0] (by rfl) (by rfl) 26 _ TC.out (by kernel_rfl) rfl (by simp [Value.oneCell']) ?_
            refine hK.out _ _ ?_ (fun hHeld => ?_)
            · (try dsimp only)
              exact KE.out _ (setrow_below bC.out G12.out (Nat.le_refl _) _)
            clear hK K
            (try simp only [Act.put])
            (refine wpAnyH_take (i := 18) (oi := ⟨some 11, _, _, _, _, _⟩) (v := .int .i64 5) rfl (by kernel_rfl) (by kernel_rfl) (by kernel_rfl) (fun _ _ _ h => h) (Or.inl ⟨by rfl, ?hy18_q14⟩) (by assumption) ?rest18_q14; (case hy18_q14 => ((intro w hSw); (try dsimp only at hSw); go_simp; first | done | (with_reducible rfl))))
            (try simp only [Act.put, List.setIfInBounds_toArray, List.set_cons_zero, List.set_cons_succ])
            refine wpAnyH_done (by kernel_rfl) ?_ _
            have BT := Lib.hid (setrow_below bC.out G12.out (Nat.le_refl _) #[.slice none 0 0, .slice none 0 0])
            refine NoPanic.normal ?_
            go_wp2
            go_meet
            exact ⟨g12, rfl, rfl, BT⟩
          · go_simp
            have bC := Lib.hid (b9.out.alloc b9.out.size (.cells #[.slice none 0 0, .slice none 0 0] 26))
            have TC := Lib.hid (Blk.new w9 26 #[.slice none 0 0, .slice none 0 0])
            obtain ⟨g12, hg12⟩ : ∃ g, g = w9.heap.size := ⟨_, rfl⟩
            rw [← hg12] at TC
            have G12 : Hid (wE.heap.size ≤ g12) := Lib.hid (by rw [hg12]; exact b9.out.size)
            have Lc := Lib.hid (L9.out.below ((Below.refl _ w9).alloc (Nat.le_refl _) (.cells #[.slice none 0 0, .slice none 0 0] 26)))
            try rw [← hg12]
            clear hg12
            refine hK.out _ _ ?_ (fun hHeld => ?_)
            · (try dsimp only)
              exact KE.out _ bC.out
            clear hK K
            generalize w9.alloc (.cells #[.slice none 0 0, .slice none 0 0] 26) = wC at *
            (try simp only [Act.put, List.setIfInBounds_toArray, List.set_cons_zero, List.set_cons_succ])
            refine wpAnyH_ready (rs := [12]) (by kernel_rfl) (by simp) ?_
            refine AllReadyH.cons (o := ⟨some 92, _, _, _, _, _⟩) rfl (fun K hK => ?_) (AllReadyH.nil)
            go_simp
            (go_at_call 55; (with_reducible refine (noughts_no _ _ _ Lc.out (by rw [HSH.out.1]; exact HS.out.1)).mono ?_); rintro e w11 ⟨rfl, hb⟩)
            have b11 := Lib.hid (bC.out.trans (hb.mono bC.out.size))
            have T11 := Lib.hid (TC.out.below hb TC.out.lt)
            clear hb
            refine hK.out _ _ ?_ (fun hHeld => ?_)
            · (try dsimp only)
              exact KE.out _ b11.out
            clear hK K
            (try simp only [Act.put, List.setIfInBounds_toArray, List.set_cons_zero, List.set_cons_succ])
            (refine wpAnyH_take (i := 13) (oi := ⟨some 79, _, _, _, _, _⟩) (v := ?v13_q15) rfl (by kernel_rfl) (by kernel_rfl) (by kernel_rfl) (fun _ _ _ h => h) (Or.inl ⟨by rfl, ?hy13_q15⟩) (by assumption) ?rest13_q15; (case hy13_q15 => ((intro w hSw); (try dsimp only at hSw); go_simp; first | done | (with_reducible rfl))))
            (try simp only [Act.put, List.setIfInBounds_toArray, List.set_cons_zero, List.set_cons_succ])
            (refine wpAnyH_take (i := 14) (oi := ⟨some 93, _, _, _, _, _⟩) (v := ?v14_q16) rfl (by kernel_rfl) (by kernel_rfl) (by kernel_rfl) (fun _ _ _ h => h) (Or.inl ⟨by rfl, ?hy14_q16⟩) (by assumption) ?rest14_q16; (case hy14_q16 => ((intro w hSw); (try dsimp only at hSw); go_simp; first | done | (with_reducible rfl))))
            (try simp only [Act.put, List.setIfInBounds_toArray, List.set_cons_zero, List.set_cons_succ])
            (refine wpAnyH_take (i := 15) (oi := ⟨some 94, _, _, _, _, _⟩) (v := ?v15_q17) rfl (by kernel_rfl) (by kernel_rfl) (by kernel_rfl) (fun _ _ _ h => h) (Or.inl ⟨by rfl, ?hy15_q17⟩) (by assumption) ?rest15_q17; (case hy15_q17 => ((intro w hSw); (try dsimp only at hSw); go_simp; first | done | (with_reducible rfl))))
            (try simp only [Act.put, List.setIfInBounds_toArray, List.set_cons_zero, List.set_cons_succ])
            refine wpAnyH_ready (rs := [17]) (by kernel_rfl) (by simp) ?_
            refine AllReadyH.cons (o := ⟨none, _, _, _, _, _⟩) rfl (fun K hK => ?_) (AllReadyH.nil)
            rw [if_pos (by rfl)]
            refine wp_store_row 26 (.tmp 12) (.tmp 93) (by rfl) g12 #[.slice none 0 0, .slice none 0 0] (by rfl) (by rfl) 26 _ T11.out (by kernel_rfl) rfl (by simp [Value.oneCell']) ?_
            refine hK.out _ _ ?_ (fun hHeld => ?_)
            · (try dsimp only)
              exact KE.out _ (setrow_below b11.out G12.out (Nat.le_refl _) _)
            clear hK K
            (try simp only [Act.put])
            (refine wpAnyH_take (i := 18) (oi := ⟨some 11, _, _, _, _, _⟩) (v := .int .i64 5) rfl (by kernel_rfl) (by kernel_rfl) (by kernel_rfl) (fun _ _ _ h => h) (Or.inl ⟨by rfl, ?hy18_q18⟩) (by assumption) ?rest18_q18; (case hy18_q18 => ((intro w hSw); (try dsimp only at hSw); go_simp; first | done | (with_reducible rfl))))
            (try simp only [Act.put, List.setIfInBounds_toArray, List.set_cons_zero, List.set_cons_succ])
            refine wpAnyH_done (by kernel_rfl) ?_ _
            have BT := Lib.hid (setrow_below b11.out G12.out (Nat.le_refl _) #[.slice none 0 0, .slice none 0 0])
            refine NoPanic.normal ?_
            go_wp2
            go_meet
            exact ⟨g12, rfl, rfl, BT⟩
        · go_simp
          have bC := Lib.hid (bB.out.alloc bB.out.size (.cells #[.slice none 0 0, .slice none 0 0] 26))
          have TC := Lib.hid (Blk.new wB 26 #[.slice none 0 0, .slice none 0 0])
          obtain ⟨g12, hg12⟩ : ∃ g, g = wB.heap.size := ⟨_, rfl⟩
          rw [← hg12] at TC
          have G12 : Hid (wE.heap.size ≤ g12) := Lib.hid (by rw [hg12]; exact bB.out.size)
          have O8c := Lib.hid (O8.out.alloc (.cells #[.slice none 0 0, .slice none 0 0] 26))
          try rw [← hg12]
          clear hg12
          refine hK.out _ _ ?_ (fun hHeld => ?_)
          · (try dsimp only)
            exact KE.out _ bC.out
          clear hK K
          generalize wB.alloc (.cells #[.slice none 0 0, .slice none 0 0] 26) = wC at *
          (try simp only [Act.put, List.setIfInBounds_toArray, List.set_cons_zero, List.set_cons_succ])
          refine wpAnyH_ready (rs := [11]) (by kernel_rfl) (by simp) ?_
          refine AllReadyH.cons (o := ⟨some 91, _, _, _, _, _⟩) rfl (fun K hK => ?_) (AllReadyH.nil)
          rw [if_pos (by rfl)]
          refine wp_append_own _ _ _ 23 (by rfl) wE.heap.size 3 i0 (.int .i64 0) 1 8 Try.underlying23 hi0 hz0 hz1 hz2 rfl (by decide) (.slice (some ⟨g8, 0, none⟩) 2 2) 2 (ints [(NX : Int), (NK : Int)]) (by rfl) O8c.out ⟨gP, 0, none⟩ Pl.length qP (ints Pl) (by rfl) (by simp [ints]) ((Below.keepOwn O10.out bC.out (Nat.le_refl _)).cells rfl) (fun u hu => by obtain ⟨y, _, rfl⟩ := List.mem_map.1 hu; rfl) (by unfold maxLen; omega) (by omega) bC.out.size ?_
          intro v9 w9 hown hgrow _
          rw [← HSH.out.2.1, ← HSH.out.2.2] at hown
          obtain ⟨o9, q9, rfl, hld⟩ := Ld.of_owns hown
          have b9 := Lib.hid (bC.out.grown hgrow bC.out.size (fun k e => by cases e; exact G8.out))
          have L9 := Lib.hid hld
          have T9 := Lib.hid (TC.out.kept hgrow (fun e => (tens_not_row O8c.out TC.out (by decide)) e.symm))
          clear hown hgrow hld
          refine hK.out _ _ ?_ (fun hHeld => ?_)
          · (try dsimp only)
            exact KE.out _ b9.out
          clear hK K
          (try simp only [Act.put, List.setIfInBounds_toArray, List.set_cons_zero, List.set_cons_succ])
          refine wpAnyH_ready (rs := [12]) (by kernel_rfl) (by simp) ?_
          refine AllReadyH.cons (o := ⟨some 92, _, _, _, _, _⟩) rfl (fun K hK => ?_) (AllReadyH.nil)
          go_simp
          (go_at_call 55; (with_reducible refine (noughts_no _ _ _ L9.out (by rw [HSH.out.1]; exact HS.out.1)).mono ?_); rintro e w11 ⟨rfl, hb⟩)
          have b11 := Lib.hid (b9.out.trans (hb.mono b9.out.size))
          have T11 := Lib.hid (T9.out.below hb T9.out.lt)
          clear hb
          refine hK.out _ _ ?_ (fun hHeld => ?_)
          · (try dsimp only)
            exact KE.out _ b11.out
          clear hK K
          (try simp only [Act.put, List.setIfInBounds_toArray, List.set_cons_zero, List.set_cons_succ])
          (refine wpAnyH_take (i := 13) (oi := ⟨some 79, _, _, _, _, _⟩) (v := ?v13_q19) rfl (by kernel_rfl) (by kernel_rfl) (by kernel_rfl) (fun _ _ _ h => h) (Or.inl ⟨by rfl, ?hy13_q19⟩) (by assumption) ?rest13_q19; (case hy13_q19 => ((intro w hSw); (try dsimp only at hSw); go_simp; first | done | (with_reducible rfl))))
          (try simp only [Act.put, List.setIfInBounds_toArray, List.set_cons_zero, List.set_cons_succ])
          (refine wpAnyH_take (i := 14) (oi := ⟨some 93, _, _, _, _, _⟩) (v := ?v14_q20) rfl (by kernel_rfl) (by kernel_rfl) (by kernel_rfl) (fun _ _ _ h => h) (Or.inl ⟨by rfl, ?hy14_q20⟩) (by assumption) ?rest14_q20; (case hy14_q20 => ((intro w hSw); (try dsimp only at hSw); go_simp; first | done | (with_reducible rfl))))
          (try simp only [Act.put, List.setIfInBounds_toArray, List.set_cons_zero, List.set_cons_succ])
          (refine wpAnyH_take (i := 15) (oi := ⟨some 94, _, _, _, _, _⟩) (v := ?v15_q21) rfl (by kernel_rfl) (by kernel_rfl) (by kernel_rfl) (fun _ _ _ h => h) (Or.inl ⟨by rfl, ?hy15_q21⟩) (by assumption) ?rest15_q21; (case hy15_q21 => ((intro w hSw); (try dsimp only at hSw); go_simp; first | done | (with_reducible rfl))))
          (try simp only [Act.put, List.setIfInBounds_toArray, List.set_cons_zero, List.set_cons_succ])
          refine wpAnyH_ready (rs := [17]) (by kernel_rfl) (by simp) ?_
          refine AllReadyH.cons (o := ⟨none, _, _, _, _, _⟩) rfl (fun K hK => ?_) (AllReadyH.nil)
          rw [if_pos (by rfl)]
          refine wp_store_row 26 (.tmp 12) (.tmp 93) (by rfl) g12 #[.slice none 0 0, .slice none 0 0] (by rfl) (by rfl) 26 _ T11.out (by kernel_rfl) rfl (by simp [Value.oneCell']) ?_
          refine hK.out _ _ ?_ (fun hHeld => ?_)
          · (try dsimp only)
            exact KE.out _ (setrow_below b11.out G12.out (Nat.le_refl _) _)
          clear hK K
          (try simp only [Act.put])
          (refine wpAnyH_take (i := 18) (oi := ⟨some 11, _, _, _, _, _⟩) (v := .int .i64 5) rfl (by kernel_rfl) (by kernel_rfl) (by kernel_rfl) (fun _ _ _ h => h) (Or.inl ⟨by rfl, ?hy18_q22⟩) (by assumption) ?rest18_q22; (case hy18_q22 => ((intro w hSw); (try dsimp only at hSw); go_simp; first | done | (with_reducible rfl))))
          (try simp only [Act.put, List.setIfInBounds_toArray, List.set_cons_zero, List.set_cons_succ])
          refine wpAnyH_done (by kernel_rfl) ?_ _
          have BT := Lib.hid (setrow_below b11.out G12.out (Nat.le_refl _) #[.slice none 0 0, .slice none 0 0])
          refine NoPanic.normal ?_
          go_wp2
          go_meet
          exact ⟨g12, rfl, rfl, BT⟩
      · go_simp
        have bC := Lib.hid (B0.out.alloc B0.out.size (.cells #[.slice none 0 0, .slice none 0 0] 26))
        have TC := Lib.hid (Blk.new wd 26 #[.slice none 0 0, .slice none 0 0])
        obtain ⟨g12, hg12⟩ : ∃ g, g = wd.heap.size := ⟨_, rfl⟩
        rw [← hg12] at TC
        have G12 : Hid (wE.heap.size ≤ g12) := Lib.hid (by rw [hg12]; exact B0.out.size)
        try rw [← hg12]
        clear hg12
        refine hK.out _ _ ?_ (fun hHeld => ?_)
        · (try dsimp only)
          exact KE.out _ bC.out
        clear hK K
        generalize wd.alloc (.cells #[.slice none 0 0, .slice none 0 0] 26) = wC at *
        (try simp only [Act.put, List.setIfInBounds_toArray, List.set_cons_zero, List.set_cons_succ])
        refine wpAnyH_ready (rs := [8]) (by kernel_rfl) (by simp) ?_
        refine AllReadyH.cons (o := ⟨some 88, _, _, _, _, _⟩) rfl (fun K hK => ?_) (AllReadyH.nil)
        go_simp
        have bB := Lib.hid (bC.out.alloc bC.out.size (.cells #[.int .i64 (NX : Nat), .int .i64 (NK : Nat)] 3))
        have O8 := Lib.hid (own_built2 wC (NX : Nat) (NK : Nat) wE.heap.size bC.out.size)
        obtain ⟨g8, hg8⟩ : ∃ g, g = wC.heap.size := ⟨_, rfl⟩
        rw [← hg8] at O8
        have G8 : Hid (wE.heap.size ≤ g8) := Lib.hid (by rw [hg8]; exact bC.out.size)
        have TB := Lib.hid (TC.out.alloc (.cells #[.int .i64 (NX : Nat), .int .i64 (NK : Nat)] 3))
        try rw [← hg8]
        clear hg8
        refine hK.out _ _ ?_ (fun hHeld => ?_)
        · (try dsimp only)
          exact KE.out _ bB.out
        clear hK K
        generalize wC.alloc (.cells #[.int .i64 (NX : Nat), .int .i64 (NK : Nat)] 3) = wB at *
        (try simp only [Act.put, List.setIfInBounds_toArray, List.set_cons_zero, List.set_cons_succ])
        refine wpAnyH_ready (rs := [11]) (by kernel_rfl) (by simp) ?_
        refine AllReadyH.cons (o := ⟨some 91, _, _, _, _, _⟩) rfl (fun K hK => ?_) (AllReadyH.nil)
        rw [if_pos (by rfl)]
        refine wp_append_own _ _ _ 23 (by rfl) wE.heap.size 3 i0 (.int .i64 0) 1 8 Try.underlying23 hi0 hz0 hz1 hz2 rfl (by decide) (.slice (some ⟨g8, 0, none⟩) 2 2) 2 (ints [(NX : Int), (NK : Int)]) (by rfl) O8.out ⟨gP, 0, none⟩ Pl.length qP (ints Pl) (by rfl) (by simp [ints]) ((Below.keepOwn O10.out bB.out (Nat.le_refl _)).cells rfl) (fun u hu => by obtain ⟨y, _, rfl⟩ := List.mem_map.1 hu; rfl) (by unfold maxLen; omega) (by omega) bB.out.size ?_
        intro v9 w9 hown hgrow _
        rw [← HSH.out.2.1, ← HSH.out.2.2] at hown
        obtain ⟨o9, q9, rfl, hld⟩ := Ld.of_owns hown
        have b9 := Lib.hid (bB.out.grown hgrow bB.out.size (fun k e => by cases e; exact G8.out))
        have L9 := Lib.hid hld
        have T9 := Lib.hid (TB.out.kept hgrow (fun e => (tens_not_row O8.out TB.out (by decide)) e.symm))
        clear hown hgrow hld
        refine hK.out _ _ ?_ (fun hHeld => ?_)
        · (try dsimp only)
          exact KE.out _ b9.out
        clear hK K
        (try simp only [Act.put, List.setIfInBounds_toArray, List.set_cons_zero, List.set_cons_succ])
        refine wpAnyH_ready (rs := [12]) (by kernel_rfl) (by simp) ?_
        refine AllReadyH.cons (o := ⟨some 92, _, _, _, _, _⟩) rfl (fun K hK => ?_) (AllReadyH.nil)
        go_simp
        (go_at_call 55; (with_reducible refine (noughts_no _ _ _ L9.out (by rw [HSH.out.1]; exact HS.out.1)).mono ?_); rintro e w11 ⟨rfl, hb⟩)
        have b11 := Lib.hid (b9.out.trans (hb.mono b9.out.size))
        have T11 := Lib.hid (T9.out.below hb T9.out.lt)
        clear hb
        refine hK.out _ _ ?_ (fun hHeld => ?_)
        · (try dsimp only)
          exact KE.out _ b11.out
        clear hK K
        (try simp only [Act.put, List.setIfInBounds_toArray, List.set_cons_zero, List.set_cons_succ])
        (refine wpAnyH_take (i := 13) (oi := ⟨some 79, _, _, _, _, _⟩) (v := ?v13_q23) rfl (by kernel_rfl) (by kernel_rfl) (by kernel_rfl) (fun _ _ _ h => h) (Or.inl ⟨by rfl, ?hy13_q23⟩) (by assumption) ?rest13_q23; (case hy13_q23 => ((intro w hSw); (try dsimp only at hSw); go_simp; first | done | (with_reducible rfl))))
        (try simp only [Act.put, List.setIfInBounds_toArray, List.set_cons_zero, List.set_cons_succ])
        (refine wpAnyH_take (i := 14) (oi := ⟨some 93, _, _, _, _, _⟩) (v := ?v14_q24) rfl (by kernel_rfl) (by kernel_rfl) (by kernel_rfl) (fun _ _ _ h => h) (Or.inl ⟨by rfl, ?hy14_q24⟩) (by assumption) ?rest14_q24; (case hy14_q24 => ((intro w hSw); (try dsimp only at hSw); go_simp; first | done | (with_reducible rfl))))
        (try simp only [Act.put, List.setIfInBounds_toArray, List.set_cons_zero, List.set_cons_succ])
        (refine wpAnyH_take (i := 15) (oi := ⟨some 94, _, _, _, _, _⟩) (v := ?v15_q25) rfl (by kernel_rfl) (by kernel_rfl) (by kernel_rfl) (fun _ _ _ h => h) (Or.inl ⟨by rfl, ?hy15_q25⟩) (by assumption) ?rest15_q25; (case hy15_q25 => ((intro w hSw); (try dsimp only at hSw); go_simp; first | done | (with_reducible rfl))))
        (try simp only [Act.put, List.setIfInBounds_toArray, List.set_cons_zero, List.set_cons_succ])
        refine wpAnyH_ready (rs := [17]) (by kernel_rfl) (by simp) ?_
        refine AllReadyH.cons (o := ⟨none, _, _, _, _, _⟩) rfl (fun K hK => ?_) (AllReadyH.nil)
        rw [if_pos (by rfl)]
        refine wp_store_row 26 (.tmp 12) (.tmp 93) (by rfl) g12 #[.slice none 0 0, .slice none 0 0] (by rfl) (by rfl) 26 _ T11.out (by kernel_rfl) rfl (by simp [Value.oneCell']) ?_
        refine hK.out _ _ ?_ (fun hHeld => ?_)
        · (try dsimp only)
          exact KE.out _ (setrow_below b11.out G12.out (Nat.le_refl _) _)
        clear hK K
        (try simp only [Act.put])
        (refine wpAnyH_take (i := 18) (oi := ⟨some 11, _, _, _, _, _⟩) (v := .int .i64 5) rfl (by kernel_rfl) (by kernel_rfl) (by kernel_rfl) (fun _ _ _ h => h) (Or.inl ⟨by rfl, ?hy18_q26⟩) (by assumption) ?rest18_q26; (case hy18_q26 => ((intro w hSw); (try dsimp only at hSw); go_simp; first | done | (with_reducible rfl))))
        (try simp only [Act.put, List.setIfInBounds_toArray, List.set_cons_zero, List.set_cons_succ])
        refine wpAnyH_done (by kernel_rfl) ?_ _
        have BT := Lib.hid (setrow_below b11.out G12.out (Nat.le_refl _) #[.slice none 0 0, .slice none 0 0])
        refine NoPanic.normal ?_
        go_wp2
        go_meet
        exact ⟨g12, rfl, rfl, BT⟩
    case rest =>
      obtain ⟨P12, rfl, rfl, F12⟩ := hcut
      obtain ⟨w9, hw9⟩ : ∃ X, X = wc := ⟨_, rfl⟩
      subst hw9
      have F9 : Hid (Below w6.heap.size w6 w9) := Lib.hid (F8.out.trans ((F10.out.trans (F12.out.mono F10.out.size)).mono F8.out.size))
      have k4 := Q4.out.below F9.out Q4.out.lt
      have k5 := Q5.out.below F9.out Q5.out.lt
      obtain ⟨v0, v1, f0, f1⟩ := blk2 k4
      have v2 := k5.cell 0
      have f2 := k5.frozen 0
      clear k4 k5
      go_wp2
      have n45 : w.heap.size + 4 ≠ w.heap.size + 5 := by omega
      have n54 : w.heap.size + 5 ≠ w.heap.size + 4 := by omega
      have k4 := Q4.out.below F9.out Q4.out.lt
      have k5 := Q5.out.below F9.out Q5.out.lt
      have r4 := ((k4.set_ 0 (.slice none 0 0)).set_ 1 (.slice none 0 0)).far (p := ⟨w.heap.size + 5, 0, none⟩) n45 (.int .i64 5)
      have r5 := ((k5.far (p := ⟨w.heap.size + 4, 0, none⟩) n54 (.slice none 0 0)).far (p := ⟨w.heap.size + 4, 1, none⟩) n54 (.slice none 0 0)).set_ 0 (.int .i64 5)
      have rB := (((B6.out.trans (F9.out.mono B6.out.size)).setCell (p := ⟨w.heap.size + 4, 0, none⟩) (by show w.heap.size ≤ w.heap.size + 4; omega) (.slice none 0 0)).setCell (p := ⟨w.heap.size + 4, 1, none⟩) (by show w.heap.size ≤ w.heap.size + 4; omega) (.slice none 0 0)).setCell (p := ⟨w.heap.size + 5, 0, none⟩) (by show w.heap.size ≤ w.heap.size + 5; omega) (.int .i64 5)
      obtain ⟨q0, q1, _⟩ := blk2 r4
      have q2 := r5.cell 0
      refine ⟨.tuple #[.agg #[.slice none 0 0, .slice none 0 0], .int .i64 5], by simp [results, Try.results14, go_sem, q0, q1, q2], ?_⟩
      exact ⟨none, 0, none, 0, rfl, World.ownsRow_nil _ _ _ _, World.ownsRow_nil _ _ _ _, rB⟩
end Go.Proofs.Ytnlfljekbknaaaa
