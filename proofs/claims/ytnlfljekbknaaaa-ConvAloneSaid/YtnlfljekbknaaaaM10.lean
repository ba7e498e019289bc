/-
  package conv: Conv, where all goes together, up to its loop.
-/
import Derived.Test.YtnlfljekbknaaaaM05
import Derived.Test.YtnlfljekbknaaaaM06
import Derived.Test.YtnlfljekbknaaaaM09
namespace Go.Proofs.Ytnlfljekbknaaaa
open Go Go.RowKit Go.Shelf
attribute [local go_sem] Oper.semAt_some
theorem own_built2 (W : World) (x y : Int) (base : Nat) (hb : base ≤ W.heap.size) : (W.alloc (.cells #[.int .i64 x, .int .i64 y] 3)).ownsRow base 3 1 (.slice (some ⟨W.heap.size, 0, none⟩) 2 2) 2 (ints [x, y]) :=
  ⟨rfl, .inr ⟨W.heap.size, 2, _, rfl, hb, Blk.new W 3 #[.int .i64 x, .int .i64 y], Nat.le_refl _, by unfold maxLen; omega, rfl, rfl⟩⟩
theorem run_from2 {P : Program} {t e : TypeId} {i : TypeInfo} (hu : P.underlying t = some (.slice e)) (hi : P.info? e = some i) (hs : i.size = 1) (g f L c : Nat) (h : 2 < L) (hc : L ≤ c) (wx : World) :
    (Instr.slice t (.slice (some ⟨g, f, none⟩) L c) (some (.int .i64 2)) none none).run P wx = .ok (.slice (some ⟨g, f + 2, none⟩) (L - 2) (c - 2)) wx := run_on hu hi hs g f L c 2 (by omega) (by omega) wx
theorem own_ne {W : World} {b1 b2 s1 s2 n1 n2 g : Nat} {e1 e2 : TypeId} {v : Value} {c : Nat} {xs ys : List Value} (h : W.ownsRow b1 e1 s1 v n1 xs) (k : W.ownsRow b2 e2 s2 (.slice (some ⟨g, 0, none⟩) n2 c) n2 ys) (ht : ¬ e1 = e2) : v.ownBlock ≠ some g := by
  rcases k.2 with ⟨e, _⟩ | ⟨g', cap, cur, e, _, hh, _⟩
  · simp at e
  · simp only [Value.slice.injEq, Option.some.injEq, Addr.mk.injEq, and_true] at e
    obtain ⟨rfl, _, rfl⟩ := e
    exact own_blk h (show Blk W g e2 cur from hh) ht
theorem blk_ne {W : World} {b c : Nat} {t u : TypeId} {cs ds : Array Value} (h : Blk W b t cs) (k : Blk W c u ds) (ht : ¬ t = u) : b ≠ c := by
  rintro rfl
  unfold Blk at h k
  rw [h] at k
  cases k
  exact ht rfl
set_option maxRecDepth 100000 in
set_option maxHeartbeats 8000000 in
theorem conv_ok (vs vd vt ve : Value) (oq os op ol : Option Addr) (zq zs zp zl cq cs cp cl : Nat) (a da b db Pl : List Int) (f NX NK CH Ct Tp Wd K0 K1 : Nat) (l0 n0 s0 p0 d0 l1 n1 s1 p1 d1 : Int) (w : World)
    (hx : Ld w vs a) (hd : Ld w vd da) (hw : Ld w vt b) (he : Ld w ve db) (ta : tnb a da = true) (tb : tnb b db = true) (hf : fb (f : Nat) = true)
    (hcn : ∀ W, Below w.heap.size w W → Calls Try.prog 53 #[.agg #[.slice oq zq cq, .slice os zs cs, .slice op zp cp, .slice ol zl cl]] W fun e w' => e = .returned (.bool true) ∧ Below W.heap.size W w')
    (hof : ∀ W v2, Below w.heap.size w W → Ld W v2 (b.drop 2) → Calls Try.prog 54 #[vs, v2, .agg #[.slice oq zq cq, .slice os zs cs, .slice op zp cp, .slice ol zl cl]] W (SomeWn W Pl (Ct : Nat) (Tp : Nat) (Wd : Nat) (l0, n0, (K0 : Nat), s0, p0, d0) (l1, n1, (K1 : Nat), s1, p1, d1)))
    (hal : 3 ≤ a.length) (hbl : b.length = a.length) (ga0 : a.getD 0 0 = (NX : Nat)) (ga1 : a.getD 1 0 = (CH : Nat)) (gb0 : b.getD 0 0 = (NK : Nat)) (gb1 : b.getD 1 0 = (CH : Nat)) (hPl : 1 ≤ Pl.length ∧ Pl.length ≤ 2) (hS : may ([(NX : Int), (NK : Int)] ++ Pl) = true) (hN : prod ([(NX : Int), (NK : Int)] ++ Pl) = ((NX * NK * Ct : Nat) : Int)) (hTp : 1 ≤ Tp ∧ Tp ≤ 65536) (b0 : (1 ≤ l0 ∧ l0 ≤ 4096) ∧ (1 ≤ K0 ∧ K0 ≤ 4096) ∧ (1 ≤ s0 ∧ s0 ≤ 4096) ∧ (0 ≤ p0 ∧ p0 ≤ 4096) ∧ (1 ≤ d0 ∧ d0 ≤ 4096)) (b1 : (1 ≤ l1 ∧ l1 ≤ 4096) ∧ (1 ≤ K1 ∧ K1 ≤ 4096) ∧ (1 ≤ s1 ∧ s1 ≤ 4096) ∧ (0 ≤ p1 ∧ p1 ≤ 4096) ∧ (1 ≤ d1 ∧ d1 ≤ 4096)) (hn : 1 ≤ n1 ∧ n1 ≤ 12288 ∧ 1 ≤ n0 ∧ n0 ≤ 12288) (hCt : (Ct : Int) = n0 * n1) (hWd : (Wd : Int) = l0 * l1) (hTK : Tp = K0 * K1) (hla : da.length = NX * (CH * Wd)) (hlb : db.length = NK * (CH * Tp)) (hp : 1 ≤ NX ∧ 1 ≤ NK ∧ 1 ≤ CH ∧ 1 ≤ Wd ∧ 1 ≤ Ct) :
    Calls Try.prog 14 #[.agg #[vs, vd], .agg #[vt, ve], .agg #[.slice oq zq cq, .slice os zs cs, .slice op zp cp, .slice ol zl cl], .int .i64 (f : Nat)] w (CvPost w ([(NX : Int), (NK : Int)] ++ Pl) (cvV da db (l0, n0, (K0 : Nat), s0, p0, d0) (l1, n1, (K1 : Nat), s1, p1, d1) n1 K0 K1 Wd Tp CH f) NX NK Ct) := by
  obtain ⟨i0, hi0, hz0, hz1, hz2⟩ := info_parts infoI
  obtain ⟨iM, hiM, hzM0, hzM1, hzM2⟩ := info_parts infoM
  obtain ⟨ma, hda, hwa⟩ := tnb_parts ta
  obtain ⟨mb, hdb, hwb⟩ := tnb_parts tb
  have la := may_len ma
  have lb := may_len mb
  have lda := may_prod ma
  have ldb := may_prod mb
  have CA := Lib.hid (fun (W : World) (hW : Below w.heap.size w W) => echeck_any vs vd a da W (hx.below hW) (hd.below hW) (by omega) (by omega))
  have CB := Lib.hid (fun (W : World) (hW : Below w.heap.size w W) => echeck_any vt ve b db W (hw.below hW) (he.below hW) (by omega) (by omega))
  have CF := Lib.hid (fun (W : World) => checkf_any (f : Nat) W)
  rw [ta, if_pos rfl] at CA
  rw [tb, if_pos rfl] at CB
  rw [hf, if_pos rfl] at CF
  obtain ⟨o1, c1, rfl, hc1, hx1⟩ := id hx
  obtain ⟨o2, c2, rfl, hc2, hx2⟩ := id hd
  obtain ⟨o3, c3, rfl, hc3, hx3⟩ := id hw
  obtain ⟨o4, c4, rfl, hc4, hx4⟩ := id he
  obtain ⟨bs, fs, rfl, hbs, xs0⟩ := hx1 0 (by omega)
  obtain ⟨bt, ft, rfl, hbt, xt0⟩ := hx3 0 (by omega)
  obtain ⟨bs', fs', e1, _, xs1⟩ := hx1 1 (by omega)
  obtain ⟨bt', ft', e2, _, xt1⟩ := hx3 1 (by omega)
  simp only [Option.some.injEq, Addr.mk.injEq, and_true] at e1 e2
  obtain ⟨rfl, rfl⟩ := e1
  obtain ⟨rfl, rfl⟩ := e2
  have pda : 0 < da.length := by have := prod_pos (may_pos ma); omega
  have pdb : 0 < db.length := by have := prod_pos (may_pos mb); omega
  obtain ⟨bd, fd, rfl, _, _⟩ := hx2 0 pda
  obtain ⟨be, fe, rfl, _, _⟩ := hx4 0 pdb
  rw [ga0] at xs0
  rw [ga1] at xs1
  rw [gb0] at xt0
  rw [gb1] at xt1
  simp only [Nat.add_zero] at xs0 xt0
  have HSL := Lib.hid (And.intro hbs (And.intro hbt (And.intro xs0 (And.intro xs1 (And.intro xt0 xt1)))))
  have HLD := Lib.hid (And.intro hx (And.intro hd (And.intro hw he)))
  have COF := Lib.hid hof
  have CCN := Lib.hid hcn
  have HS := Lib.hid (And.intro hS (And.intro hN (And.intro hPl hTp)))
  have hs2 := fun wx : World => run_from2 (P := Try.prog) (t := 23) Try.underlying23 hi0 hz1 bt ft b.length c3 (by omega) hc3 wx
  have HS2 := Lib.hid hs2
  have hld2 : Hid (Ld w (.slice (some ⟨bt, ft + 2, none⟩) (b.length - 2) (c3 - 2)) (b.drop 2)) := Lib.hid (by
    have q := ld_part (lo := 2) (N := b.length - 2) hw (by omega)
    rwa [List.take_of_length_le (by simp)] at q)
  rw [hbl] at HS2 hld2 HLD CB ⊢
  obtain ⟨w6, hw6⟩ : ∃ W, W = ((((((w.alloc (.cells #[.slice (some ⟨bs, fs, none⟩) a.length c1, .slice (some ⟨bd, fd, none⟩) da.length c2] 26)).alloc (.cells #[.slice (some ⟨bt, ft, none⟩) a.length c3, .slice (some ⟨be, fe, none⟩) db.length c4] 26)).alloc (.cells #[.slice oq zq cq, .slice os zs cs, .slice op zp cp, .slice ol zl cl] 28)).alloc (.cells #[.int .i64 (f : Nat)] 3)).alloc (.cells #[.slice none 0 0, .slice none 0 0] 26)).alloc (.cells #[.int .i64 0] 34)) := ⟨_, rfl⟩
  have B6 : Hid (Below w.heap.size w w6) := Lib.hid (by rw [hw6]; exact ((((((Below.refl _ _).alloc (Nat.le_refl _) _).alloc (by simp) _).alloc (by simp; omega) _).alloc (by simp; omega) _).alloc (by simp; omega) _).alloc (by simp; omega) _)
  have S6 : Hid (w6.heap.size = w.heap.size + 6) := Lib.hid (by rw [hw6]; simp)
  have Q0 : Hid (Blk w6 (w.heap.size) 26 #[.slice (some ⟨bs, fs, none⟩) a.length c1, .slice (some ⟨bd, fd, none⟩) da.length c2]) := Lib.hid (by
    rw [hw6]
    have q := Blk.new w 26 #[.slice (some ⟨bs, fs, none⟩) a.length c1, .slice (some ⟨bd, fd, none⟩) da.length c2]
    try simp only [World.size_alloc] at q
    exact (((((q.alloc _).alloc _).alloc _).alloc _).alloc _))
  have Q1 : Hid (Blk w6 (w.heap.size + 1) 26 #[.slice (some ⟨bt, ft, none⟩) a.length c3, .slice (some ⟨be, fe, none⟩) db.length c4]) := Lib.hid (by
    rw [hw6]
    have q := Blk.new (w.alloc (.cells #[.slice (some ⟨bs, fs, none⟩) a.length c1, .slice (some ⟨bd, fd, none⟩) da.length c2] 26)) 26 #[.slice (some ⟨bt, ft, none⟩) a.length c3, .slice (some ⟨be, fe, none⟩) db.length c4]
    try simp only [World.size_alloc] at q
    exact ((((q.alloc _).alloc _).alloc _).alloc _))
  have Q2 : Hid (Blk w6 (w.heap.size + 2) 28 #[.slice oq zq cq, .slice os zs cs, .slice op zp cp, .slice ol zl cl]) := Lib.hid (by
    rw [hw6]
    have q := Blk.new ((w.alloc (.cells #[.slice (some ⟨bs, fs, none⟩) a.length c1, .slice (some ⟨bd, fd, none⟩) da.length c2] 26)).alloc (.cells #[.slice (some ⟨bt, ft, none⟩) a.length c3, .slice (some ⟨be, fe, none⟩) db.length c4] 26)) 28 #[.slice oq zq cq, .slice os zs cs, .slice op zp cp, .slice ol zl cl]
    try simp only [World.size_alloc] at q
    exact (((q.alloc _).alloc _).alloc _))
  have Q3 : Hid (Blk w6 (w.heap.size + 3) 3 #[.int .i64 (f : Nat)]) := Lib.hid (by
    rw [hw6]
    have q := Blk.new (((w.alloc (.cells #[.slice (some ⟨bs, fs, none⟩) a.length c1, .slice (some ⟨bd, fd, none⟩) da.length c2] 26)).alloc (.cells #[.slice (some ⟨bt, ft, none⟩) a.length c3, .slice (some ⟨be, fe, none⟩) db.length c4] 26)).alloc (.cells #[.slice oq zq cq, .slice os zs cs, .slice op zp cp, .slice ol zl cl] 28)) 3 #[.int .i64 (f : Nat)]
    try simp only [World.size_alloc] at q
    exact ((q.alloc _).alloc _))
  have Q4 : Hid (Blk w6 (w.heap.size + 4) 26 #[.slice none 0 0, .slice none 0 0]) := Lib.hid (by
    rw [hw6]
    have q := Blk.new ((((w.alloc (.cells #[.slice (some ⟨bs, fs, none⟩) a.length c1, .slice (some ⟨bd, fd, none⟩) da.length c2] 26)).alloc (.cells #[.slice (some ⟨bt, ft, none⟩) a.length c3, .slice (some ⟨be, fe, none⟩) db.length c4] 26)).alloc (.cells #[.slice oq zq cq, .slice os zs cs, .slice op zp cp, .slice ol zl cl] 28)).alloc (.cells #[.int .i64 (f : Nat)] 3)) 26 #[.slice none 0 0, .slice none 0 0]
    try simp only [World.size_alloc] at q
    exact (q.alloc _))
  have Q5 : Hid (Blk w6 (w.heap.size + 5) 34 #[.int .i64 0]) := Lib.hid (by
    rw [hw6]
    have q := Blk.new (((((w.alloc (.cells #[.slice (some ⟨bs, fs, none⟩) a.length c1, .slice (some ⟨bd, fd, none⟩) da.length c2] 26)).alloc (.cells #[.slice (some ⟨bt, ft, none⟩) a.length c3, .slice (some ⟨be, fe, none⟩) db.length c4] 26)).alloc (.cells #[.slice oq zq cq, .slice os zs cs, .slice op zp cp, .slice ol zl cl] 28)).alloc (.cells #[.int .i64 (f : Nat)] 3)).alloc (.cells #[.slice none 0 0, .slice none 0 0] 26)) 34 #[.int .i64 0]
    try simp only [World.size_alloc] at q
    exact q)
  have HW6 := Lib.hid hw6
  have FK : Hid (∀ W, Below w6.heap.size w6 W → (Blk W w.heap.size 26 #[.slice (some ⟨bs, fs, none⟩) a.length c1, .slice (some ⟨bd, fd, none⟩) da.length c2] ∧ Blk W (w.heap.size + 1) 26 #[.slice (some ⟨bt, ft, none⟩) a.length c3, .slice (some ⟨be, fe, none⟩) db.length c4] ∧ Blk W (w.heap.size + 2) 28 #[.slice oq zq cq, .slice os zs cs, .slice op zp cp, .slice ol zl cl] ∧ Blk W (w.heap.size + 3) 3 #[.int .i64 (f : Nat)]) ∧ W.cell? ⟨bs, fs, none⟩ = some (.int .i64 (NX : Nat)) ∧ W.cell? ⟨bs, fs + 1, none⟩ = some (.int .i64 (CH : Nat)) ∧ W.cell? ⟨bt, ft, none⟩ = some (.int .i64 (NK : Nat)) ∧ W.cell? ⟨bt, ft + 1, none⟩ = some (.int .i64 (CH : Nat))) := Lib.hid (fun W hW => by
    have k := B6.out.trans (hW.mono B6.out.size)
    obtain ⟨z1, z2, z3, z4, z5, z6⟩ := HSL.out
    exact ⟨⟨Q0.out.below hW Q0.out.lt, Q1.out.below hW Q1.out.lt, Q2.out.below hW Q2.out.lt, Q3.out.below hW Q3.out.lt⟩, (k.cell (p := ⟨bs, fs, none⟩) z1).trans z3, (k.cell (p := ⟨bs, fs + 1, none⟩) z1).trans z4, (k.cell (p := ⟨bt, ft, none⟩) z2).trans z5, (k.cell (p := ⟨bt, ft + 1, none⟩) z2).trans z6⟩)
  have hal2 : ¬ a.length < 2 := by omega
  have CA6 := Lib.hid (CA.out w6 B6.out)
  obtain ⟨⟨k0, k1, k2, k3⟩, k4, k5, k6, k7⟩ := FK.out w6 (Below.refl _ _)
  obtain ⟨y0, y1, _⟩ := blk2 k0
  obtain ⟨y2, y3, _⟩ := blk2 k1
  obtain ⟨y4, y5, y6, y7⟩ := blk4c k2
  have y8 := k3.cell 0
  clear k0 k1 k2 k3 k4 k5 k6 k7
  have HAL := Lib.hid (And.intro hal (And.intro ga0 (And.intro ga1 (And.intro gb0 (And.intro gb1 hbl)))))
  have HDD := Lib.hid (And.intro hda (And.intro hdb (And.intro hwa hwb)))
  have HB0 := Lib.hid b0
  have HF126 : Hid (f ≤ 126) := Lib.hid (by have := fb_bd hf; omega)
  have HCAP : Hid (da.length ≤ c2 ∧ db.length ≤ c4) := Lib.hid ⟨hc2, hc4⟩
  have HDD6 : Hid (da.length ≤ 65536 ∧ db.length ≤ 65536) := Lib.hid ⟨by omega, by omega⟩
  have HB1 := Lib.hid b1
  have HNN := Lib.hid (And.intro hn (And.intro hCt (And.intro hWd (And.intro hTK (And.intro hla (And.intro hlb hp))))))
  obtain ⟨V, hV⟩ : ∃ V, V = cvV da db (l0, n0, (K0 : Nat), s0, p0, d0) (l1, n1, (K1 : Nat), s1, p1, d1) n1 K0 K1 Wd Tp CH f := ⟨_, rfl⟩
  rw [← hV]
  have HV := Lib.hid hV
  have HN6 : Hid (NX * NK * Ct ≤ 65536) := Lib.hid (by have := (may_prod hS).2; rw [hN] at this; omega)
  clear b0 b1 hn hCt hWd hTK hla hlb hp hV
  clear hw6 hx hd hw he ta tb hf hcn hof hbl ga0 ga1 gb0 gb1 hS hN hs2 hda hdb hwa hwb hx1 hx2 hx3 hx4 hbs hbt xs0 xs1 xt0 xt1 ma mb pda pdb hc1 hc2 hc3 hc4 CA lda ldb hPl
  refine (callsIn_wide (n := 14)).1 ?_
  refine callsIn_of_wp_marks Try.func14 rfl trivial ?_
  simp only [Try.ntmps14, List.size_toArray, List.length_cons, List.length_nil, Nat.reduceAdd, Nat.reduceSub, Array.replicate_succ, Array.replicate_zero, List.push_toArray, List.append_toArray, List.nil_append, List.cons_append]
  refine wpIn_wide.2 ?_
  go_upto_region 1 with (fail)
  rw [← HW6.out]
  simp only [Nat.add_assoc, Nat.reduceAdd]
  go_upto_region 3 with (first
    | (go_at_call 51; (with_reducible refine CA6.out.mono ?_); rintro e wa ⟨rfl, hb⟩; have Fa := Lib.hid hb; obtain ⟨⟨k0, k1, k2, k3⟩, k4, k5, k6, k7⟩ := FK.out wa Fa.out; obtain ⟨y0, y1, _⟩ := blk2 k0; obtain ⟨y2, y3, _⟩ := blk2 k1; obtain ⟨y4, y5, y6, y7⟩ := blk4c k2; have y8 := k3.cell 0; clear k0 k1 k2 k3; clear hb)
    | (go_at_call 51; (with_reducible refine (CB.out _ (B6.out.trans (Fa.out.mono B6.out.size))).mono ?_); rintro e wb ⟨rfl, hb⟩; have Fb := Lib.hid (Fa.out.trans (hb.mono Fa.out.size)); obtain ⟨⟨k0, k1, k2, k3⟩, k4, k5, k6, k7⟩ := FK.out wb Fb.out; obtain ⟨y0, y1, _⟩ := blk2 k0; obtain ⟨y2, y3, _⟩ := blk2 k1; obtain ⟨y4, y5, y6, y7⟩ := blk4c k2; have y8 := k3.cell 0; clear k0 k1 k2 k3; clear hb)
    | (go_at_call 52; (with_reducible refine (CF.out _).mono ?_); rintro e w' ⟨rfl, rfl⟩)
    | (go_at_call 53; (with_reducible refine (CCN.out _ (B6.out.trans (Fb.out.mono B6.out.size))).mono ?_); rintro e w7 ⟨rfl, hb⟩; have F7 := Lib.hid (Fb.out.trans (hb.mono Fb.out.size)); obtain ⟨⟨k0, k1, k2, k3⟩, k4, k5, k6, k7⟩ := FK.out w7 F7.out; obtain ⟨y0, y1, _⟩ := blk2 k0; obtain ⟨y2, y3, _⟩ := blk2 k1; obtain ⟨y4, y5, y6, y7⟩ := blk4c k2; have y8 := k3.cell 0; clear k0 k1 k2 k3; clear hb))
  have g1 : (1 : Int) < (a.length : Int) := by omega
  have g2 : 1 < a.length := by omega
  have d1 : decide ((a.length : Int) < 2) = false := by rw [decide_eq_false_iff_not]; omega
  have d2 : decide (a.length < 2) = false := by rw [decide_eq_false_iff_not]; omega
  go_quiet (fail)
  clear d1 d2 g1 g2
  go_upto_region 5 with fail
  obtain ⟨w8, hw8⟩ : ∃ W, W = w7.drewN nq := ⟨_, rfl⟩
  rw [← hw8]
  have F8 : Hid (Below w6.heap.size w6 w8) := Lib.hid (by rw [hw8]; exact F7.out.trans ((below_drw (Below.refl w7.heap.size w7) nq).mono F7.out.size))
  clear hw8 F7 Fa Fb y0 y1 y2 y3 y4 y5 y6 y7 y8 k4 k5 k6 k7 CA6 CB CF CCN
  have hs2 := HS2.out
  have KS : Hid (∀ X : World, Below w8.heap.size w8 X → X.cell? ⟨w.heap.size, 0, none⟩ = some (.slice (some ⟨bs, fs, none⟩) a.length c1) ∧ X.cell? ⟨w.heap.size + 1, 0, none⟩ = some (.slice (some ⟨bt, ft, none⟩) a.length c3) ∧ X.cell? ⟨w.heap.size + 2, 0, none⟩ = some (.slice oq zq cq) ∧ X.cell? ⟨w.heap.size + 2, 1, none⟩ = some (.slice os zs cs) ∧ X.cell? ⟨w.heap.size + 2, 2, none⟩ = some (.slice op zp cp) ∧ X.cell? ⟨w.heap.size + 2, 3, none⟩ = some (.slice ol zl cl)) := Lib.hid (fun X hX => by
    obtain ⟨⟨k0, k1, k2, k3⟩, _⟩ := FK.out X (F8.out.trans (hX.mono F8.out.size))
    obtain ⟨y0, _⟩ := blk2 k0
    obtain ⟨y2, _⟩ := blk2 k1
    obtain ⟨y4, y5, y6, y7⟩ := blk4c k2
    exact ⟨y0, y2, y4, y5, y6, y7⟩)
  have B86 : Hid (∀ X : World, Below w8.heap.size w8 X → Below w.heap.size w X) := Lib.hid (fun X hX => (B6.out.trans (F8.out.mono B6.out.size)).trans (hX.mono (Nat.le_trans B6.out.size F8.out.size)))
  go_cut [10, 11] from 65 to 74 (fun s10 s11 wx => ∃ (P10 : Nat) (oP : Option Addr) (qP : Nat), s10 = .pointer (some ⟨P10, 0, none⟩) ∧ s11 = .int .i64 0 ∧ Hid (w8.heap.size ≤ P10) ∧ Hid (Blk wx P10 86 #[.slice oP Pl.length qP, .int .i64 (Ct : Nat), .int .i64 (Tp : Nat), .int .i64 (Wd : Nat), .int .i64 l0, .int .i64 n0, .int .i64 (K0 : Nat), .int .i64 s0, .int .i64 p0, .int .i64 d0, .int .i64 l1, .int .i64 n1, .int .i64 (K1 : Nat), .int .i64 s1, .int .i64 p1, .int .i64 d1]) ∧ Hid (wx.ownsRow w8.heap.size 3 1 (.slice oP Pl.length qP) Pl.length (ints Pl)) ∧ Hid (Below w8.heap.size w8 wx))
  case first =>
    have B0 : Hid (Below w8.heap.size w8 w8.drew) := Lib.hid (below_drw (Below.refl _ _) 1)
    refine wp_region_noPanic ?_
    refine wp_region_held_drew (S := fun X => X.cell? ⟨w.heap.size, 0, none⟩ = some (.slice (some ⟨bs, fs, none⟩) a.length c1) ∧ X.cell? ⟨w.heap.size + 1, 0, none⟩ = some (.slice (some ⟨bt, ft, none⟩) a.length c3) ∧ X.cell? ⟨w.heap.size + 2, 0, none⟩ = some (.slice oq zq cq) ∧ X.cell? ⟨w.heap.size + 2, 1, none⟩ = some (.slice os zs cs) ∧ X.cell? ⟨w.heap.size + 2, 2, none⟩ = some (.slice op zp cp) ∧ X.cell? ⟨w.heap.size + 2, 3, none⟩ = some (.slice ol zl cl)) (by kernel_rfl) ?_ (fun hHeld => ?_)
    · exact KS.out _ B0.out
    have hHd := hHeld
    generalize w8.drew = wd at *
    (refine wpAnyH_take (i := 0) (oi := ⟨some 66, _, _, _, _, _⟩) (v := ?v0_o1) rfl (by kernel_rfl) (by kernel_rfl) (by kernel_rfl) (fun _ _ _ h => h) (Or.inl ⟨by rfl, ?hy0_o1⟩) (by assumption) ?rest0_o1; (case hy0_o1 => ((intro w hSw); (try dsimp only at hSw); go_simp; first | done | (with_reducible rfl))))
    (try simp only [Act.put, List.setIfInBounds_toArray, List.set_cons_zero, List.set_cons_succ])
    (refine wpAnyH_take (i := 1) (oi := ⟨some 67, _, _, _, _, _⟩) (v := ?v1_o2) rfl (by kernel_rfl) (by kernel_rfl) (by kernel_rfl) (fun _ _ _ h => h) (Or.inl ⟨by rfl, ?hy1_o2⟩) (by assumption) ?rest1_o2; (case hy1_o2 => ((intro w hSw); (try dsimp only at hSw); go_simp; first | done | (with_reducible rfl))))
    (try simp only [Act.put, List.setIfInBounds_toArray, List.set_cons_zero, List.set_cons_succ])
    (refine wpAnyH_take (i := 2) (oi := ⟨some 68, _, _, _, _, _⟩) (v := ?v2_o3) rfl (by kernel_rfl) (by kernel_rfl) (by kernel_rfl) (fun _ _ _ h => h) (Or.inl ⟨by rfl, ?hy2_o3⟩) (by assumption) ?rest2_o3; (case hy2_o3 => ((intro w hSw); (try dsimp only at hSw); go_simp; first | done | (with_reducible rfl))))
    (try simp only [Act.put, List.setIfInBounds_toArray, List.set_cons_zero, List.set_cons_succ])
    (refine wpAnyH_take (i := 3) (oi := ⟨some 69, _, _, _, _, _⟩) (v := ?v3_o4) rfl (by kernel_rfl) (by kernel_rfl) (by kernel_rfl) (fun _ _ _ h => h) (Or.inl ⟨by rfl, ?hy3_o4⟩) (by assumption) ?rest3_o4; (case hy3_o4 => ((intro w hSw); (try dsimp only at hSw); go_simp; first | done | (with_reducible rfl))))
    (try simp only [Act.put, List.setIfInBounds_toArray, List.set_cons_zero, List.set_cons_succ])
    (refine wpAnyH_take (i := 4) (oi := ⟨some 70, _, _, _, _, _⟩) (v := ?v4_o5) rfl (by kernel_rfl) (by kernel_rfl) (by kernel_rfl) (fun _ _ _ h => h) (Or.inl ⟨by rfl, ?hy4_o5⟩) (by assumption) ?rest4_o5; (case hy4_o5 => ((intro w hSw); (try dsimp only at hSw); go_simp; first | done | (with_reducible rfl))))
    (try simp only [Act.put, List.setIfInBounds_toArray, List.set_cons_zero, List.set_cons_succ])
    (refine wpAnyH_take (i := 5) (oi := ⟨some 71, _, _, _, _, _⟩) (v := ?v5_o6) rfl (by kernel_rfl) (by kernel_rfl) (by kernel_rfl) (fun _ _ _ h => h) (Or.inl ⟨by rfl, ?hy5_o6⟩) (by assumption) ?rest5_o6; (case hy5_o6 => ((intro w hSw); (try dsimp only at hSw); go_simp; first | done | (with_reducible rfl))))
    (try simp only [Act.put, List.setIfInBounds_toArray, List.set_cons_zero, List.set_cons_succ])
    refine wpAnyH_ready (rs := [6, 10]) (by kernel_rfl) (by simp) ?_
    refine AllReadyH.cons (o := ⟨some 72, _, _, _, _, _⟩) rfl (fun K hK => ?_) (AllReadyH.cons (o := ⟨some 10, _, _, _, _, _⟩) rfl (fun K hK => ?_) (AllReadyH.nil))
    · go_simp
      (go_at_call 54; (with_reducible refine (COF.out _ _ (B86.out _ B0.out) (hld2.out.below (B86.out _ B0.out))).mono ?_); rintro e w9 ⟨oP, qP, rfl, hown, hb⟩)
      have b9 := Lib.hid (B0.out.trans (hb.mono B0.out.size))
      have O9 := Lib.hid (own_base hown B0.out.size)
      clear hb hown
      simp only [Wnv]
      refine hK.out _ _ ?_ (fun hHeld => ?_)
      · (try dsimp only)
        exact KS.out _ b9.out
      clear hK K
      (try simp only [Act.put, List.setIfInBounds_toArray, List.set_cons_zero, List.set_cons_succ])
      (refine wpAnyH_take (i := 7) (oi := ⟨some 65, _, _, _, _, _⟩) (v := ?v7_o7) rfl (by kernel_rfl) (by kernel_rfl) (by kernel_rfl) (fun _ _ _ h => h) (Or.inl ⟨by rfl, ?hy7_o7⟩) (by assumption) ?rest7_o7; (case hy7_o7 => ((intro w hSw); (try dsimp only at hSw); go_simp; first | done | (with_reducible rfl))))
      (try simp only [Act.put, List.setIfInBounds_toArray, List.set_cons_zero, List.set_cons_succ])
      (refine wpAnyH_take (i := 8) (oi := ⟨some 73, _, _, _, _, _⟩) (v := ?v8_o8) rfl (by kernel_rfl) (by kernel_rfl) (by kernel_rfl) (fun _ _ _ h => h) (Or.inl ⟨by rfl, ?hy8_o8⟩) (by assumption) ?rest8_o8; (case hy8_o8 => ((intro w hSw); (try dsimp only at hSw); go_simp; first | done | (with_reducible rfl))))
      (try simp only [Act.put, List.setIfInBounds_toArray, List.set_cons_zero, List.set_cons_succ])
      (refine wpAnyH_take (i := 9) (oi := ⟨some 74, _, _, _, _, _⟩) (v := ?v9_o9) rfl (by kernel_rfl) (by kernel_rfl) (by kernel_rfl) (fun _ _ _ h => h) (Or.inl ⟨by rfl, ?hy9_o9⟩) (by assumption) ?rest9_o9; (case hy9_o9 => ((intro w hSw); (try dsimp only at hSw); go_simp; first | done | (with_reducible rfl))))
      (try simp only [Act.put, List.setIfInBounds_toArray, List.set_cons_zero, List.set_cons_succ])
      refine wpAnyH_ready (rs := [10]) (by kernel_rfl) (by simp) ?_
      refine AllReadyH.cons (o := ⟨some 10, _, _, _, _, _⟩) rfl (fun K hK => ?_) (AllReadyH.nil)
      go_simp
      have bA := Lib.hid (b9.out.alloc b9.out.size (.cells #[.slice none 0 0, .int .i64 0, .int .i64 0, .int .i64 0, .int .i64 0, .int .i64 0, .int .i64 0, .int .i64 0, .int .i64 0, .int .i64 0, .int .i64 0, .int .i64 0, .int .i64 0, .int .i64 0, .int .i64 0, .int .i64 0] 86))
      have TA := Lib.hid (Blk.new w9 86 #[.slice none 0 0, .int .i64 0, .int .i64 0, .int .i64 0, .int .i64 0, .int .i64 0, .int .i64 0, .int .i64 0, .int .i64 0, .int .i64 0, .int .i64 0, .int .i64 0, .int .i64 0, .int .i64 0, .int .i64 0, .int .i64 0])
      obtain ⟨g9, hg9⟩ : ∃ g, g = w9.heap.size := ⟨_, rfl⟩
      rw [← hg9] at TA
      have G9 : Hid (w8.heap.size ≤ g9) := Lib.hid (by rw [hg9]; exact b9.out.size)
      have OA := Lib.hid (O9.out.alloc (.cells #[.slice none 0 0, .int .i64 0, .int .i64 0, .int .i64 0, .int .i64 0, .int .i64 0, .int .i64 0, .int .i64 0, .int .i64 0, .int .i64 0, .int .i64 0, .int .i64 0, .int .i64 0, .int .i64 0, .int .i64 0, .int .i64 0] 86))
      try rw [← hg9]
      clear hg9
      refine hK.out _ _ ?_ (fun hHeld => ?_)
      · (try dsimp only)
        exact KS.out _ bA.out
      clear hK K
      generalize w9.alloc (.cells #[.slice none 0 0, .int .i64 0, .int .i64 0, .int .i64 0, .int .i64 0, .int .i64 0, .int .i64 0, .int .i64 0, .int .i64 0, .int .i64 0, .int .i64 0, .int .i64 0, .int .i64 0, .int .i64 0, .int .i64 0, .int .i64 0] 86) = wA at *
      (try simp only [Act.put, List.setIfInBounds_toArray, List.set_cons_zero, List.set_cons_succ])
      refine wpAnyH_ready (rs := [11]) (by kernel_rfl) (by simp) ?_
      refine AllReadyH.cons (o := ⟨none, _, _, _, _, _⟩) rfl (fun K hK => ?_) (AllReadyH.nil)
      rw [if_pos (by rfl)]
      refine wp_store_row 86 (.tmp 10) (.tmp 73) (by rfl) g9 #[.slice oP Pl.length qP, .int .i64 (Ct : Nat), .int .i64 (Tp : Nat), .int .i64 (Wd : Nat), .int .i64 l0, .int .i64 n0, .int .i64 (K0 : Nat), .int .i64 s0, .int .i64 p0, .int .i64 d0, .int .i64 l1, .int .i64 n1, .int .i64 (K1 : Nat), .int .i64 s1, .int .i64 p1, .int .i64 d1] (by rfl) (by rfl) 86 _ TA.out (by kernel_rfl) rfl (by simp [Value.oneCell']) ?_
      refine hK.out _ _ ?_ (fun hHeld => ?_)
      · (try dsimp only)
        exact KS.out _ (setrow_below bA.out G9.out (Nat.le_refl _) _)
      clear hK K
      (try simp only [Act.put])
      (refine wpAnyH_take (i := 12) (oi := ⟨some 11, _, _, _, _, _⟩) (v := .int .i64 0) rfl (by kernel_rfl) (by kernel_rfl) (by kernel_rfl) (fun _ _ _ h => h) (Or.inl ⟨by rfl, ?hy12_o10⟩) (by assumption) ?rest12_o10; (case hy12_o10 => ((intro w hSw); (try dsimp only at hSw); go_simp; first | done | (with_reducible rfl))))
      (try simp only [Act.put, List.setIfInBounds_toArray, List.set_cons_zero, List.set_cons_succ])
      refine wpAnyH_done (by kernel_rfl) ?_ _
      have TT := Lib.hid (setrow_blk TA.out #[.slice oP Pl.length qP, .int .i64 (Ct : Nat), .int .i64 (Tp : Nat), .int .i64 (Wd : Nat), .int .i64 l0, .int .i64 n0, .int .i64 (K0 : Nat), .int .i64 s0, .int .i64 p0, .int .i64 d0, .int .i64 l1, .int .i64 n1, .int .i64 (K1 : Nat), .int .i64 s1, .int .i64 p1, .int .i64 d1])
      have OT := Lib.hid (OA.out.kept (setrow_grown _ g9 #[.slice oP Pl.length qP, .int .i64 (Ct : Nat), .int .i64 (Tp : Nat), .int .i64 (Wd : Nat), .int .i64 l0, .int .i64 n0, .int .i64 (K0 : Nat), .int .i64 s0, .int .i64 p0, .int .i64 d0, .int .i64 l1, .int .i64 n1, .int .i64 (K1 : Nat), .int .i64 s1, .int .i64 p1, .int .i64 d1]) (.inr (tens_not_row OA.out TA.out (by decide))))
      have BT := Lib.hid (setrow_below bA.out G9.out (Nat.le_refl _) #[.slice oP Pl.length qP, .int .i64 (Ct : Nat), .int .i64 (Tp : Nat), .int .i64 (Wd : Nat), .int .i64 l0, .int .i64 n0, .int .i64 (K0 : Nat), .int .i64 s0, .int .i64 p0, .int .i64 d0, .int .i64 l1, .int .i64 n1, .int .i64 (K1 : Nat), .int .i64 s1, .int .i64 p1, .int .i64 d1])
      refine NoPanic.normal ?_
      go_wp2
      go_meet
      exact ⟨g9, oP, qP, rfl, rfl, G9, TT, OT, BT⟩
    · go_simp
      have bA := Lib.hid (B0.out.alloc B0.out.size (.cells #[.slice none 0 0, .int .i64 0, .int .i64 0, .int .i64 0, .int .i64 0, .int .i64 0, .int .i64 0, .int .i64 0, .int .i64 0, .int .i64 0, .int .i64 0, .int .i64 0, .int .i64 0, .int .i64 0, .int .i64 0, .int .i64 0] 86))
      have TA := Lib.hid (Blk.new wd 86 #[.slice none 0 0, .int .i64 0, .int .i64 0, .int .i64 0, .int .i64 0, .int .i64 0, .int .i64 0, .int .i64 0, .int .i64 0, .int .i64 0, .int .i64 0, .int .i64 0, .int .i64 0, .int .i64 0, .int .i64 0, .int .i64 0])
      obtain ⟨g9, hg9⟩ : ∃ g, g = wd.heap.size := ⟨_, rfl⟩
      rw [← hg9] at TA
      have G9 : Hid (w8.heap.size ≤ g9) := Lib.hid (by rw [hg9]; exact B0.out.size)
      try rw [← hg9]
      clear hg9
      refine hK.out _ _ ?_ (fun hHeld => ?_)
      · (try dsimp only)
        exact KS.out _ bA.out
      clear hK K
      generalize wd.alloc (.cells #[.slice none 0 0, .int .i64 0, .int .i64 0, .int .i64 0, .int .i64 0, .int .i64 0, .int .i64 0, .int .i64 0, .int .i64 0, .int .i64 0, .int .i64 0, .int .i64 0, .int .i64 0, .int .i64 0, .int .i64 0, .int .i64 0] 86) = wA at *
      (try simp only [Act.put, List.setIfInBounds_toArray, List.set_cons_zero, List.set_cons_succ])
      refine wpAnyH_ready (rs := [6]) (by kernel_rfl) (by simp) ?_
      refine AllReadyH.cons (o := ⟨some 72, _, _, _, _, _⟩) rfl (fun K hK => ?_) (AllReadyH.nil)
      go_simp
      (go_at_call 54; (with_reducible refine (COF.out _ _ (B86.out _ bA.out) (hld2.out.below (B86.out _ bA.out))).mono ?_); rintro e w9 ⟨oP, qP, rfl, hown, hb⟩)
      have b9 := Lib.hid (bA.out.trans (hb.mono bA.out.size))
      have O9 := Lib.hid (own_base hown bA.out.size)
      have T9 := Lib.hid (TA.out.below hb TA.out.lt)
      clear hb hown
      simp only [Wnv]
      refine hK.out _ _ ?_ (fun hHeld => ?_)
      · (try dsimp only)
        exact KS.out _ b9.out
      clear hK K
      (try simp only [Act.put, List.setIfInBounds_toArray, List.set_cons_zero, List.set_cons_succ])
      (refine wpAnyH_take (i := 7) (oi := ⟨some 65, _, _, _, _, _⟩) (v := ?v7_o11) rfl (by kernel_rfl) (by kernel_rfl) (by kernel_rfl) (fun _ _ _ h => h) (Or.inl ⟨by rfl, ?hy7_o11⟩) (by assumption) ?rest7_o11; (case hy7_o11 => ((intro w hSw); (try dsimp only at hSw); go_simp; first | done | (with_reducible rfl))))
      (try simp only [Act.put, List.setIfInBounds_toArray, List.set_cons_zero, List.set_cons_succ])
      (refine wpAnyH_take (i := 8) (oi := ⟨some 73, _, _, _, _, _⟩) (v := ?v8_o12) rfl (by kernel_rfl) (by kernel_rfl) (by kernel_rfl) (fun _ _ _ h => h) (Or.inl ⟨by rfl, ?hy8_o12⟩) (by assumption) ?rest8_o12; (case hy8_o12 => ((intro w hSw); (try dsimp only at hSw); go_simp; first | done | (with_reducible rfl))))
      (try simp only [Act.put, List.setIfInBounds_toArray, List.set_cons_zero, List.set_cons_succ])
      (refine wpAnyH_take (i := 9) (oi := ⟨some 74, _, _, _, _, _⟩) (v := ?v9_o13) rfl (by kernel_rfl) (by kernel_rfl) (by kernel_rfl) (fun _ _ _ h => h) (Or.inl ⟨by rfl, ?hy9_o13⟩) (by assumption) ?rest9_o13; (case hy9_o13 => ((intro w hSw); (try dsimp only at hSw); go_simp; first | done | (with_reducible rfl))))
      (try simp only [Act.put, List.setIfInBounds_toArray, List.set_cons_zero, List.set_cons_succ])
      refine wpAnyH_ready (rs := [11]) (by kernel_rfl) (by simp) ?_
      refine AllReadyH.cons (o := ⟨none, _, _, _, _, _⟩) rfl (fun K hK => ?_) (AllReadyH.nil)
      rw [if_pos (by rfl)]
      refine wp_store_row 86 (.tmp 10) (.tmp 73) (by rfl) g9 #[.slice oP Pl.length qP, .int .i64 (Ct : Nat), .int .i64 (Tp : Nat), .int .i64 (Wd : Nat), .int .i64 l0, .int .i64 n0, .int .i64 (K0 : Nat), .int .i64 s0, .int .i64 p0, .int .i64 d0, .int .i64 l1, .int .i64 n1, .int .i64 (K1 : Nat), .int .i64 s1, .int .i64 p1, .int .i64 d1] (by rfl) (by rfl) 86 _ T9.out (by kernel_rfl) rfl (by simp [Value.oneCell']) ?_
      refine hK.out _ _ ?_ (fun hHeld => ?_)
      · (try dsimp only)
        exact KS.out _ (setrow_below b9.out G9.out (Nat.le_refl _) _)
      clear hK K
      (try simp only [Act.put])
      (refine wpAnyH_take (i := 12) (oi := ⟨some 11, _, _, _, _, _⟩) (v := .int .i64 0) rfl (by kernel_rfl) (by kernel_rfl) (by kernel_rfl) (fun _ _ _ h => h) (Or.inl ⟨by rfl, ?hy12_o14⟩) (by assumption) ?rest12_o14; (case hy12_o14 => ((intro w hSw); (try dsimp only at hSw); go_simp; first | done | (with_reducible rfl))))
      (try simp only [Act.put, List.setIfInBounds_toArray, List.set_cons_zero, List.set_cons_succ])
      refine wpAnyH_done (by kernel_rfl) ?_ _
      have TT := Lib.hid (setrow_blk T9.out #[.slice oP Pl.length qP, .int .i64 (Ct : Nat), .int .i64 (Tp : Nat), .int .i64 (Wd : Nat), .int .i64 l0, .int .i64 n0, .int .i64 (K0 : Nat), .int .i64 s0, .int .i64 p0, .int .i64 d0, .int .i64 l1, .int .i64 n1, .int .i64 (K1 : Nat), .int .i64 s1, .int .i64 p1, .int .i64 d1])
      have OT := Lib.hid (O9.out.kept (setrow_grown _ g9 #[.slice oP Pl.length qP, .int .i64 (Ct : Nat), .int .i64 (Tp : Nat), .int .i64 (Wd : Nat), .int .i64 l0, .int .i64 n0, .int .i64 (K0 : Nat), .int .i64 s0, .int .i64 p0, .int .i64 d0, .int .i64 l1, .int .i64 n1, .int .i64 (K1 : Nat), .int .i64 s1, .int .i64 p1, .int .i64 d1]) (.inr (tens_not_row O9.out T9.out (by decide))))
      have BT := Lib.hid (setrow_below b9.out G9.out (Nat.le_refl _) #[.slice oP Pl.length qP, .int .i64 (Ct : Nat), .int .i64 (Tp : Nat), .int .i64 (Wd : Nat), .int .i64 l0, .int .i64 n0, .int .i64 (K0 : Nat), .int .i64 s0, .int .i64 p0, .int .i64 d0, .int .i64 l1, .int .i64 n1, .int .i64 (K1 : Nat), .int .i64 s1, .int .i64 p1, .int .i64 d1])
      refine NoPanic.normal ?_
      go_wp2
      go_meet
      exact ⟨g9, oP, qP, rfl, rfl, G9, TT, OT, BT⟩
  case rest =>
    obtain ⟨P10, oP, qP, rfl, rfl, H10, X10, O10, F10⟩ := hcut
    obtain ⟨wE, hwE⟩ : ∃ x, x = wc := ⟨_, rfl⟩
    subst hwE
    obtain ⟨gP, qP2, eP⟩ := own_slice1 O10.out (by have := HS.out.2.2.1.1; omega)
    simp only [Value.slice.injEq] at eP
    obtain ⟨rfl, _, rfl⟩ := eP
    obtain ⟨SH, hSH⟩ : ∃ l : List Int, l = [(NX : Int), (NK : Int)] ++ Pl := ⟨_, rfl⟩
    have HSH : Hid (SH = [(NX : Int), (NK : Int)] ++ Pl ∧ SH.length = 2 + Pl.length ∧ ints SH = ints [(NX : Int), (NK : Int)] ++ ints Pl) := Lib.hid ⟨hSH, by rw [hSH, List.length_append]; rfl, by rw [hSH]; exact List.map_append⟩
    clear hSH
    have KE : Hid (∀ X : World, Below wE.heap.size wE X → X.cell? ⟨w.heap.size, 0, none⟩ = some (.slice (some ⟨bs, fs, none⟩) a.length c1) ∧ X.cell? ⟨bs, fs, none⟩ = some (.int .i64 (NX : Nat)) ∧ X.cell? ⟨w.heap.size + 1, 0, none⟩ = some (.slice (some ⟨bt, ft, none⟩) a.length c3) ∧ X.cell? ⟨bt, ft, none⟩ = some (.int .i64 (NK : Nat)) ∧ X.cell? ⟨P10, 0, none⟩ = some (.slice (some ⟨gP, 0, none⟩) Pl.length qP)) := Lib.hid (fun X hX => by
      have z := F10.out.trans (hX.mono F10.out.size)
      obtain ⟨⟨k0, k1, k2, k3⟩, k4, k5, k6, k7⟩ := FK.out X (F8.out.trans (z.mono F8.out.size))
      obtain ⟨y0, _⟩ := blk2 k0
      obtain ⟨y2, _⟩ := blk2 k1
      exact ⟨y0, k4, y2, k6, (X10.out.below hX X10.out.lt).cell 0⟩)
    have B86E : Hid (∀ X : World, Below wE.heap.size wE X → Below w.heap.size w X) := Lib.hid (fun X hX => B86.out X (F10.out.trans (hX.mono F10.out.size)))
    have g1 : (0 : Int) < (a.length : Int) := by omega
    have g2 : 0 < a.length := by omega
    have g3 : Pl.length ≤ 2 := HS.out.2.2.1.2
    go_upto_region 8 with fail
    go_cut [11, 12] from 79 to 94 (fun s11 s12 wx => ∃ (P12 : Nat) (oS : Option Addr) (qS gD qD : Nat), s11 = .int .i64 0 ∧ s12 = .pointer (some ⟨P12, 0, none⟩) ∧ Hid (wE.heap.size ≤ P12) ∧ Hid (Blk wx P12 26 #[.slice oS SH.length qS, .slice (some ⟨gD, 0, none⟩) (NX * NK * Ct) qD]) ∧ Hid (wx.ownsRow wE.heap.size 3 1 (.slice oS SH.length qS) SH.length (ints SH)) ∧ Hid (wx.ownsRow wE.heap.size 2 1 (.slice (some ⟨gD, 0, none⟩) (NX * NK * Ct) qD) (NX * NK * Ct) (ints (List.replicate (NX * NK * Ct) 0))) ∧ Hid (Below wE.heap.size wE wx))
    case first =>
      have HNZ : Hid (0 < NX * NK * Ct) := Lib.hid (by have := (may_prod HS.out.1).1; rw [HS.out.2.1] at this; omega)
      have B0 : Hid (Below wE.heap.size wE wE.drew) := Lib.hid (below_drw (Below.refl _ _) 1)
      refine wp_region_noPanic ?_
      refine wp_region_held_drew (S := fun X => X.cell? ⟨w.heap.size, 0, none⟩ = some (.slice (some ⟨bs, fs, none⟩) a.length c1) ∧ X.cell? ⟨bs, fs, none⟩ = some (.int .i64 (NX : Nat)) ∧ X.cell? ⟨w.heap.size + 1, 0, none⟩ = some (.slice (some ⟨bt, ft, none⟩) a.length c3) ∧ X.cell? ⟨bt, ft, none⟩ = some (.int .i64 (NK : Nat)) ∧ X.cell? ⟨P10, 0, none⟩ = some (.slice (some ⟨gP, 0, none⟩) Pl.length qP)) (by kernel_rfl) ?_ (fun hHeld => ?_)
      · exact KE.out _ B0.out
      have hHd := hHeld
      generalize wE.drew = wd at *
      (refine wpAnyH_take (i := 0) (oi := ⟨some 80, _, _, _, _, _⟩) (v := ?v0_q1) rfl (by kernel_rfl) (by kernel_rfl) (by kernel_rfl) (fun _ _ _ h => h) (Or.inl ⟨by rfl, ?hy0_q1⟩) (by assumption) ?rest0_q1; (case hy0_q1 => ((intro w hSw); (try dsimp only at hSw); go_simp; first | done | (with_reducible rfl))))
      (try simp only [Act.put, List.setIfInBounds_toArray, List.set_cons_zero, List.set_cons_succ])
      (refine wpAnyH_take (i := 1) (oi := ⟨some 81, _, _, _, _, _⟩) (v := ?v1_q2) rfl (by kernel_rfl) (by kernel_rfl) (by kernel_rfl) (fun _ _ _ h => h) (Or.inl ⟨by rfl, ?hy1_q2⟩) (by assumption) ?rest1_q2; (case hy1_q2 => ((intro w hSw); (try dsimp only at hSw); go_simp; first | done | (with_reducible rfl))))
      (try simp only [Act.put, List.setIfInBounds_toArray, List.set_cons_zero, List.set_cons_succ])
      (refine wpAnyH_take (i := 2) (oi := ⟨some 82, _, _, _, _, _⟩) (v := ?v2_q3) rfl (by kernel_rfl) (by kernel_rfl) (by kernel_rfl) (fun _ _ _ h => h) (Or.inl ⟨by rfl, ?hy2_q3⟩) (by assumption) ?rest2_q3; (case hy2_q3 => ((intro w hSw); (try dsimp only at hSw); go_simp; first | done | (with_reducible rfl))))
      (try simp only [Act.put, List.setIfInBounds_toArray, List.set_cons_zero, List.set_cons_succ])
      (refine wpAnyH_take (i := 3) (oi := ⟨some 83, _, _, _, _, _⟩) (v := ?v3_q4) rfl (by kernel_rfl) (by kernel_rfl) (by kernel_rfl) (fun _ _ _ h => h) (Or.inl ⟨by rfl, ?hy3_q4⟩) (by assumption) ?rest3_q4; (case hy3_q4 => ((intro w hSw); (try dsimp only at hSw); go_simp; first | done | (with_reducible rfl))))
      (try simp only [Act.put, List.setIfInBounds_toArray, List.set_cons_zero, List.set_cons_succ])
      (refine wpAnyH_take (i := 4) (oi := ⟨some 84, _, _, _, _, _⟩) (v := ?v4_q5) rfl (by kernel_rfl) (by kernel_rfl) (by kernel_rfl) (fun _ _ _ h => h) (Or.inl ⟨by rfl, ?hy4_q5⟩) (by assumption) ?rest4_q5; (case hy4_q5 => ((intro w hSw); (try dsimp only at hSw); go_simp; first | done | (with_reducible rfl))))
      (try simp only [Act.put, List.setIfInBounds_toArray, List.set_cons_zero, List.set_cons_succ])
      (refine wpAnyH_take (i := 5) (oi := ⟨some 85, _, _, _, _, _⟩) (v := ?v5_q6) rfl (by kernel_rfl) (by kernel_rfl) (by kernel_rfl) (fun _ _ _ h => h) (Or.inl ⟨by rfl, ?hy5_q6⟩) (by assumption) ?rest5_q6; (case hy5_q6 => ((intro w hSw); (try dsimp only at hSw); go_simp; first | done | (with_reducible rfl))))
      (try simp only [Act.put, List.setIfInBounds_toArray, List.set_cons_zero, List.set_cons_succ])
      (refine wpAnyH_take (i := 6) (oi := ⟨some 86, _, _, _, _, _⟩) (v := ?v6_q7) rfl (by kernel_rfl) (by kernel_rfl) (by kernel_rfl) (fun _ _ _ h => h) (Or.inl ⟨by rfl, ?hy6_q7⟩) (by assumption) ?rest6_q7; (case hy6_q7 => ((intro w hSw); (try dsimp only at hSw); go_simp; first | done | (with_reducible rfl))))
      (try simp only [Act.put, List.setIfInBounds_toArray, List.set_cons_zero, List.set_cons_succ])
      (refine wpAnyH_take (i := 7) (oi := ⟨some 87, _, _, _, _, _⟩) (v := ?v7_q8) rfl (by kernel_rfl) (by kernel_rfl) (by kernel_rfl) (fun _ _ _ h => h) (Or.inl ⟨by rfl, ?hy7_q8⟩) (by assumption) ?rest7_q8; (case hy7_q8 => ((intro w hSw); (try dsimp only at hSw); go_simp; first | done | (with_reducible rfl))))
      (try simp only [Act.put, List.setIfInBounds_toArray, List.set_cons_zero, List.set_cons_succ])
      (refine wpAnyH_take (i := 9) (oi := ⟨some 89, _, _, _, _, _⟩) (v := ?v9_q9) rfl (by kernel_rfl) (by kernel_rfl) (by kernel_rfl) (fun _ _ _ h => h) (Or.inl ⟨by rfl, ?hy9_q9⟩) (by assumption) ?rest9_q9; (case hy9_q9 => ((intro w hSw); (try dsimp only at hSw); go_simp; first | done | (with_reducible rfl))))
      (try simp only [Act.put, List.setIfInBounds_toArray, List.set_cons_zero, List.set_cons_succ])
      (refine wpAnyH_take (i := 10) (oi := ⟨some 90, _, _, _, _, _⟩) (v := ?v10_q10) rfl (by kernel_rfl) (by kernel_rfl) (by kernel_rfl) (fun _ _ _ h => h) (Or.inl ⟨by rfl, ?hy10_q10⟩) (by assumption) ?rest10_q10; (case hy10_q10 => ((intro w hSw); (try dsimp only at hSw); go_simp; first | done | (with_reducible rfl))))
      (try simp only [Act.put, List.setIfInBounds_toArray, List.set_cons_zero, List.set_cons_succ])
      refine wpAnyH_ready (rs := [8, 16]) (by kernel_rfl) (by simp) ?_
      refine AllReadyH.cons (o := ⟨some 88, _, _, _, _, _⟩) rfl (fun K hK => ?_) (AllReadyH.cons (o := ⟨some 12, _, _, _, _, _⟩) rfl (fun K hK => ?_) (AllReadyH.nil))
      · go_simp
        have bB := Lib.hid (B0.out.alloc B0.out.size (.cells #[.int .i64 (NX : Nat), .int .i64 (NK : Nat)] 3))
        have O8 := Lib.hid (own_built2 wd (NX : Nat) (NK : Nat) wE.heap.size B0.out.size)
        obtain ⟨g8, hg8⟩ : ∃ g, g = wd.heap.size := ⟨_, rfl⟩
        rw [← hg8] at O8
        have G8 : Hid (wE.heap.size ≤ g8) := Lib.hid (by rw [hg8]; exact B0.out.size)
        try rw [← hg8]
        clear hg8
        refine hK.out _ _ ?_ (fun hHeld => ?_)
        · (try dsimp only)
          exact KE.out _ bB.out
        clear hK K
        generalize wd.alloc (.cells #[.int .i64 (NX : Nat), .int .i64 (NK : Nat)] 3) = wB at *
        (try simp only [Act.put, List.setIfInBounds_toArray, List.set_cons_zero, List.set_cons_succ])
        refine wpAnyH_ready (rs := [11, 16]) (by kernel_rfl) (by simp) ?_
        refine AllReadyH.cons (o := ⟨some 91, _, _, _, _, _⟩) rfl (fun K hK => ?_) (AllReadyH.cons (o := ⟨some 12, _, _, _, _, _⟩) rfl (fun K hK => ?_) (AllReadyH.nil))
        · rw [if_pos (by rfl)]
          refine wp_append_own _ _ _ 23 (by rfl) wE.heap.size 3 i0 (.int .i64 0) 1 8 Try.underlying23 hi0 hz0 hz1 hz2 rfl (by decide) (.slice (some ⟨g8, 0, none⟩) 2 2) 2 (ints [(NX : Int), (NK : Int)]) (by rfl) O8.out ⟨gP, 0, none⟩ Pl.length qP (ints Pl) (by rfl) (by simp [ints]) ((Below.keepOwn O10.out bB.out (Nat.le_refl _)).cells rfl) (fun u hu => by obtain ⟨y, _, rfl⟩ := List.mem_map.1 hu; rfl) (by unfold maxLen; omega) (by omega) bB.out.size ?_
          intro v9 w9 hown hgrow _
          rw [← HSH.out.2.1, ← HSH.out.2.2] at hown
          obtain ⟨o9, q9, rfl, hld⟩ := Ld.of_owns hown
          have b9 := Lib.hid (bB.out.grown hgrow bB.out.size (fun k e => by cases e; exact G8.out))
          have L9 := Lib.hid hld
          clear hown hgrow hld
          refine hK.out _ _ ?_ (fun hHeld => ?_)
          · (try dsimp only)
            exact KE.out _ b9.out
          clear hK K
          (try simp only [Act.put, List.setIfInBounds_toArray, List.set_cons_zero, List.set_cons_succ])
          refine wpAnyH_ready (rs := [12, 16]) (by kernel_rfl) (by simp) ?_
          refine AllReadyH.cons (o := ⟨some 92, _, _, _, _, _⟩) rfl (fun K hK => ?_) (AllReadyH.cons (o := ⟨some 12, _, _, _, _, _⟩) rfl (fun K hK => ?_) (AllReadyH.nil))
          · go_simp
            (go_at_call 55; (with_reducible refine (noughts_ok _ _ (NX * NK * Ct) _ L9.out (by rw [HSH.out.1]; exact HS.out.1) (by rw [HSH.out.1]; exact HS.out.2.1)).mono ?_); rintro e w11 ⟨oS, qS, oD, qD, rfl, hs11, hd11, hb⟩)
            rw [List.length_replicate] at hd11
            have b11 := Lib.hid (b9.out.trans (hb.mono b9.out.size))
            have OS := Lib.hid (own_base hs11 b9.out.size)
            have OD := Lib.hid (own_base hd11 b9.out.size)
            clear hb hs11 hd11
            refine hK.out _ _ ?_ (fun hHeld => ?_)
            · (try dsimp only)
              exact KE.out _ b11.out
            clear hK K
            (try simp only [Act.put, List.setIfInBounds_toArray, List.set_cons_zero, List.set_cons_succ])
            (refine wpAnyH_take (i := 13) (oi := ⟨some 79, _, _, _, _, _⟩) (v := ?v13_q11) rfl (by kernel_rfl) (by kernel_rfl) (by kernel_rfl) (fun _ _ _ h => h) (Or.inl ⟨by rfl, ?hy13_q11⟩) (by assumption) ?rest13_q11; (case hy13_q11 => ((intro w hSw); (try dsimp only at hSw); go_simp; first | done | (with_reducible rfl))))
            (try simp only [Act.put, List.setIfInBounds_toArray, List.set_cons_zero, List.set_cons_succ])
            (refine wpAnyH_take (i := 14) (oi := ⟨some 93, _, _, _, _, _⟩) (v := ?v14_q12) rfl (by kernel_rfl) (by kernel_rfl) (by kernel_rfl) (fun _ _ _ h => h) (Or.inl ⟨by rfl, ?hy14_q12⟩) (by assumption) ?rest14_q12; (case hy14_q12 => ((intro w hSw); (try dsimp only at hSw); go_simp; first | done | (with_reducible rfl))))
            (try simp only [Act.put, List.setIfInBounds_toArray, List.set_cons_zero, List.set_cons_succ])
            (refine wpAnyH_take (i := 15) (oi := ⟨some 94, _, _, _, _, _⟩) (v := ?v15_q13) rfl (by kernel_rfl) (by kernel_rfl) (by kernel_rfl) (fun _ _ _ h => h) (Or.inl ⟨by rfl, ?hy15_q13⟩) (by assumption) ?rest15_q13; (case hy15_q13 => ((intro w hSw); (try dsimp only at hSw); go_simp; first | done | (with_reducible rfl))))
            (try simp only [Act.put, List.setIfInBounds_toArray, List.set_cons_zero, List.set_cons_succ])
            refine wpAnyH_ready (rs := [16]) (by kernel_rfl) (by simp) ?_
            refine AllReadyH.cons (o := ⟨some 12, _, _, _, _, _⟩) rfl (fun K hK => ?_) (AllReadyH.nil)
            go_simp
            have bC := Lib.hid (b11.out.alloc b11.out.size (.cells #[.slice none 0 0, .slice none 0 0] 26))
            have TC := Lib.hid (Blk.new w11 26 #[.slice none 0 0, .slice none 0 0])
            obtain ⟨g12, hg12⟩ : ∃ g, g = w11.heap.size := ⟨_, rfl⟩
            rw [← hg12] at TC
            have G12 : Hid (wE.heap.size ≤ g12) := Lib.hid (by rw [hg12]; exact b11.out.size)
            have OSc := Lib.hid (OS.out.alloc (.cells #[.slice none 0 0, .slice none 0 0] 26))
            have ODc := Lib.hid (OD.out.alloc (.cells #[.slice none 0 0, .slice none 0 0] 26))
            try rw [← hg12]
            clear hg12
            refine hK.out _ _ ?_ (fun hHeld => ?_)
            · (try dsimp only)
              exact KE.out _ bC.out
            clear hK K
            generalize w11.alloc (.cells #[.slice none 0 0, .slice none 0 0] 26) = wC at *
            (try simp only [Act.put, List.setIfInBounds_toArray, List.set_cons_zero, List.set_cons_succ])
            refine wpAnyH_ready (rs := [17]) (by kernel_rfl) (by simp) ?_
            refine AllReadyH.cons (o := ⟨none, _, _, _, _, _⟩) rfl (fun K hK => ?_) (AllReadyH.nil)
            rw [if_pos (by rfl)]
            refine wp_store_row 26 (.tmp 12) (.tmp 93) (by rfl) g12 #[.slice oS SH.length qS, .slice oD (NX * NK * Ct) qD] (by rfl) (by rfl) 26 _ TC.out (by kernel_rfl) rfl (by simp [Value.oneCell']) ?_
            refine hK.out _ _ ?_ (fun hHeld => ?_)
            · (try dsimp only)
              exact KE.out _ (setrow_below bC.out G12.out (Nat.le_refl _) _)
            clear hK K
            (try simp only [Act.put])
            (refine wpAnyH_take (i := 18) (oi := ⟨some 11, _, _, _, _, _⟩) (v := .int .i64 0) rfl (by kernel_rfl) (by kernel_rfl) (by kernel_rfl) (fun _ _ _ h => h) (Or.inl ⟨by rfl, ?hy18_q14⟩) (by assumption) ?rest18_q14; (case hy18_q14 => ((intro w hSw); (try dsimp only at hSw); go_simp; first | done | (with_reducible rfl))))
            (try simp only [Act.put, List.setIfInBounds_toArray, List.set_cons_zero, List.set_cons_succ])
            refine wpAnyH_done (by kernel_rfl) ?_ _
            have TT := Lib.hid (setrow_blk TC.out #[.slice oS SH.length qS, .slice oD (NX * NK * Ct) qD])
            have OS2 := Lib.hid (OSc.out.kept (setrow_grown _ g12 #[.slice oS SH.length qS, .slice oD (NX * NK * Ct) qD]) (.inr (tens_not_row OSc.out TC.out (by decide))))
            have OD2 := Lib.hid (ODc.out.kept (setrow_grown _ g12 #[.slice oS SH.length qS, .slice oD (NX * NK * Ct) qD]) (.inr (tens_not_row ODc.out TC.out (by decide))))
            have BT := Lib.hid (setrow_below bC.out G12.out (Nat.le_refl _) #[.slice oS SH.length qS, .slice oD (NX * NK * Ct) qD])
            obtain ⟨gD, qD2, eD⟩ := own_slice1 OD2.out HNZ.out
            simp only [Value.slice.injEq] at eD
            obtain ⟨rfl, _, rfl⟩ := eD
            refine NoPanic.normal ?_
            go_wp2
            go_meet
            exact ⟨g12, oS, qS, gD, qD, rfl, rfl, G12, TT, OS2, OD2, BT⟩
          · go_simp
            have bC := Lib.hid (b9.out.alloc b9.out.size (.cells #[.slice none 0 0, .slice none 0 0] 26))
            have TC := Lib.hid (Blk.new w9 26 #[.slice none 0 0, .slice none 0 0])
            obtain ⟨g12, hg12⟩ : ∃ g, g = w9.heap.size := ⟨_, rfl⟩
            rw [← hg12] at TC
            have G12 : Hid (wE.heap.size ≤ g12) := Lib.hid (by rw [hg12]; exact b9.out.size)
            have Lc := Lib.hid (L9.out.below ((Below.refl _ w9).alloc (Nat.le_refl _) (.cells #[.slice none 0 0, .slice none 0 0] 26)))
            try rw [← hg12]
            clear hg12
            refine hK.out _ _ ?_ (fun hHeld => ?_)
            · (try dsimp only)
              exact KE.out _ bC.out
            clear hK K
            generalize w9.alloc (.cells #[.slice none 0 0, .slice none 0 0] 26) = wC at *
            (try simp only [Act.put, List.setIfInBounds_toArray, List.set_cons_zero, List.set_cons_succ])
            refine wpAnyH_ready (rs := [12]) (by kernel_rfl) (by simp) ?_
            refine AllReadyH.cons (o := ⟨some 92, _, _, _, _, _⟩) rfl (fun K hK => ?_) (AllReadyH.nil)
            go_simp
            (go_at_call 55; (with_reducible refine (noughts_ok _ _ (NX * NK * Ct) _ Lc.out (by rw [HSH.out.1]; exact HS.out.1) (by rw [HSH.out.1]; exact HS.out.2.1)).mono ?_); rintro e w11 ⟨oS, qS, oD, qD, rfl, hs11, hd11, hb⟩)
            rw [List.length_replicate] at hd11
            have b11 := Lib.hid (bC.out.trans (hb.mono bC.out.size))
            have OS := Lib.hid (own_base hs11 bC.out.size)
            have OD := Lib.hid (own_base hd11 bC.out.size)
            have T11 := Lib.hid (TC.out.below hb TC.out.lt)
            clear hb hs11 hd11
            refine hK.out _ _ ?_ (fun hHeld => ?_)
            · (try dsimp only)
              exact KE.out _ b11.out
            clear hK K
            (try simp only [Act.put, List.setIfInBounds_toArray, List.set_cons_zero, List.set_cons_succ])
            (refine wpAnyH_take (i := 13) (oi := ⟨some 79, _, _, _, _, _⟩) (v := ?v13_q15) rfl (by kernel_rfl) (by kernel_rfl) (by kernel_rfl) (fun _ _ _ h => h) (Or.inl ⟨by rfl, ?hy13_q15⟩) (by assumption) ?rest13_q15; (case hy13_q15 => ((intro w hSw); (try dsimp only at hSw); go_simp; first | done | (with_reducible rfl))))
            (try simp only [Act.put, List.setIfInBounds_toArray, List.set_cons_zero, List.set_cons_succ])
            (refine wpAnyH_take (i := 14) (oi := ⟨some 93, _, _, _, _, _⟩) (v := ?v14_q16) rfl (by kernel_rfl) (by kernel_rfl) (by kernel_rfl) (fun _ _ _ h => h) (Or.inl ⟨by rfl, ?hy14_q16⟩) (by assumption) ?rest14_q16; (case hy14_q16 => ((intro w hSw); (try dsimp only at hSw); go_simp; first | done | (with_reducible rfl))))
            (try simp only [Act.put, List.setIfInBounds_toArray, List.set_cons_zero, List.set_cons_succ])
            (refine wpAnyH_take (i := 15) (oi := ⟨some 94, _, _, _, _, _⟩) (v := ?v15_q17) rfl (by kernel_rfl) (by kernel_rfl) (by kernel_rfl) (fun _ _ _ h => h) (Or.inl ⟨by rfl, ?hy15_q17⟩) (by assumption) ?rest15_q17; (case hy15_q17 => ((intro w hSw); (try dsimp only at hSw); go_simp; first | done | (with_reducible rfl))))
            (try simp only [Act.put, List.setIfInBounds_toArray, List.set_cons_zero, List.set_cons_succ])
            refine wpAnyH_ready (rs := [17]) (by kernel_rfl) (by simp) ?_
            refine AllReadyH.cons (o := ⟨none, _, _, _, _, _⟩) rfl (fun K hK => ?_) (AllReadyH.nil)
            rw [if_pos (by rfl)]
            refine wp_store_row 26 (.tmp 12) (.tmp 93) (by rfl) g12 #[.slice oS SH.length qS, .slice oD (NX * NK * Ct) qD] (by rfl) (by rfl) 26 _ T11.out (by kernel_rfl) rfl (by simp [Value.oneCell']) ?_
            refine hK.out _ _ ?_ (fun hHeld => ?_)
            · (try dsimp only)
              exact KE.out _ (setrow_below b11.out G12.out (Nat.le_refl _) _)
            clear hK K
            (try simp only [Act.put])
            (refine wpAnyH_take (i := 18) (oi := ⟨some 11, _, _, _, _, _⟩) (v := .int .i64 0) rfl (by kernel_rfl) (by kernel_rfl) (by kernel_rfl) (fun _ _ _ h => h) (Or.inl ⟨by rfl, ?hy18_q18⟩) (by assumption) ?rest18_q18; (case hy18_q18 => ((intro w hSw); (try dsimp only at hSw); go_simp; first | done | (with_reducible rfl))))
            (try simp only [Act.put, List.setIfInBounds_toArray, List.set_cons_zero, List.set_cons_succ])
            refine wpAnyH_done (by kernel_rfl) ?_ _
            have TT := Lib.hid (setrow_blk T11.out #[.slice oS SH.length qS, .slice oD (NX * NK * Ct) qD])
            have OS2 := Lib.hid (OS.out.kept (setrow_grown _ g12 #[.slice oS SH.length qS, .slice oD (NX * NK * Ct) qD]) (.inr (tens_not_row OS.out T11.out (by decide))))
            have OD2 := Lib.hid (OD.out.kept (setrow_grown _ g12 #[.slice oS SH.length qS, .slice oD (NX * NK * Ct) qD]) (.inr (tens_not_row OD.out T11.out (by decide))))
            have BT := Lib.hid (setrow_below b11.out G12.out (Nat.le_refl _) #[.slice oS SH.length qS, .slice oD (NX * NK * Ct) qD])
            obtain ⟨gD, qD2, eD⟩ := own_slice1 OD2.out HNZ.out
            simp only [Value.slice.injEq] at eD
            obtain ⟨rfl, _, rfl⟩ := eD
            refine NoPanic.normal ?_
            go_wp2
            go_meet
            exact ⟨g12, oS, qS, gD, qD, rfl, rfl, G12, TT, OS2, OD2, BT⟩
        · go_simp
          have bC := Lib.hid (bB.out.alloc bB.out.size (.cells #[.slice none 0 0, .slice none 0 0] 26))
          have TC := Lib.hid (Blk.new wB 26 #[.slice none 0 0, .slice none 0 0])
          obtain ⟨g12, hg12⟩ : ∃ g, g = wB.heap.size := ⟨_, rfl⟩
          rw [← hg12] at TC
          have G12 : Hid (wE.heap.size ≤ g12) := Lib.hid (by rw [hg12]; exact bB.out.size)
          have O8c := Lib.hid (O8.out.alloc (.cells #[.slice none 0 0, .slice none 0 0] 26))
          try rw [← hg12]
          clear hg12
          refine hK.out _ _ ?_ (fun hHeld => ?_)
          · (try dsimp only)
            exact KE.out _ bC.out
          clear hK K
          generalize wB.alloc (.cells #[.slice none 0 0, .slice none 0 0] 26) = wC at *
          (try simp only [Act.put, List.setIfInBounds_toArray, List.set_cons_zero, List.set_cons_succ])
          refine wpAnyH_ready (rs := [11]) (by kernel_rfl) (by simp) ?_
          refine AllReadyH.cons (o := ⟨some 91, _, _, _, _, _⟩) rfl (fun K hK => ?_) (AllReadyH.nil)
          rw [if_pos (by rfl)]
          refine wp_append_own _ _ _ 23 (by rfl) wE.heap.size 3 i0 (.int .i64 0) 1 8 Try.underlying23 hi0 hz0 hz1 hz2 rfl (by decide) (.slice (some ⟨g8, 0, none⟩) 2 2) 2 (ints [(NX : Int), (NK : Int)]) (by rfl) O8c.out ⟨gP, 0, none⟩ Pl.length qP (ints Pl) (by rfl) (by simp [ints]) ((Below.keepOwn O10.out bC.out (Nat.le_refl _)).cells rfl) (fun u hu => by obtain ⟨y, _, rfl⟩ := List.mem_map.1 hu; rfl) (by unfold maxLen; omega) (by omega) bC.out.size ?_
          intro v9 w9 hown hgrow _
          rw [← HSH.out.2.1, ← HSH.out.2.2] at hown
          obtain ⟨o9, q9, rfl, hld⟩ := Ld.of_owns hown
          have b9 := Lib.hid (bC.out.grown hgrow bC.out.size (fun k e => by cases e; exact G8.out))
          have L9 := Lib.hid hld
          have T9 := Lib.hid (TC.out.kept hgrow (fun e => (tens_not_row O8c.out TC.out (by decide)) e.symm))
          clear hown hgrow hld
          refine hK.out _ _ ?_ (fun hHeld => ?_)
          · (try dsimp only)
            exact KE.out _ b9.out
          clear hK K
          (try simp only [Act.put, List.setIfInBounds_toArray, List.set_cons_zero, List.set_cons_succ])
          refine wpAnyH_ready (rs := [12]) (by kernel_rfl) (by simp) ?_
          refine AllReadyH.cons (o := ⟨some 92, _, _, _, _, _⟩) rfl (fun K hK => ?_) (AllReadyH.nil)
          go_simp
          (go_at_call 55; (with_reducible refine (noughts_ok _ _ (NX * NK * Ct) _ L9.out (by rw [HSH.out.1]; exact HS.out.1) (by rw [HSH.out.1]; exact HS.out.2.1)).mono ?_); rintro e w11 ⟨oS, qS, oD, qD, rfl, hs11, hd11, hb⟩)
          rw [List.length_replicate] at hd11
          have b11 := Lib.hid (b9.out.trans (hb.mono b9.out.size))
          have OS := Lib.hid (own_base hs11 b9.out.size)
          have OD := Lib.hid (own_base hd11 b9.out.size)
          have T11 := Lib.hid (T9.out.below hb T9.out.lt)
          clear hb hs11 hd11
          refine hK.out _ _ ?_ (fun hHeld => ?_)
          · (try dsimp only)
            exact KE.out _ b11.out
          clear hK K
          (try simp only [Act.put, List.setIfInBounds_toArray, List.set_cons_zero, List.set_cons_succ])
          (refine wpAnyH_take (i := 13) (oi := ⟨some 79, _, _, _, _, _⟩) (v := ?v13_q19) rfl (by kernel_rfl) (by kernel_rfl) (by kernel_rfl) (fun _ _ _ h => h) (Or.inl ⟨by rfl, ?hy13_q19⟩) (by assumption) ?rest13_q19; (case hy13_q19 => ((intro w hSw); (try dsimp only at hSw); go_simp; first | done | (with_reducible rfl))))
          (try simp only [Act.put, List.setIfInBounds_toArray, List.set_cons_zero, List.set_cons_succ])
          (refine wpAnyH_take (i := 14) (oi := ⟨some 93, _, _, _, _, _⟩) (v := ?v14_q20) rfl (by kernel_rfl) (by kernel_rfl) (by kernel_rfl) (fun _ _ _ h => h) (Or.inl ⟨by rfl, ?hy14_q20⟩) (by assumption) ?rest14_q20; (case hy14_q20 => ((intro w hSw); (try dsimp only at hSw); go_simp; first | done | (with_reducible rfl))))
          (try simp only [Act.put, List.setIfInBounds_toArray, List.set_cons_zero, List.set_cons_succ])
          (refine wpAnyH_take (i := 15) (oi := ⟨some 94, _, _, _, _, _⟩) (v := ?v15_q21) rfl (by kernel_rfl) (by kernel_rfl) (by kernel_rfl) (fun _ _ _ h => h) (Or.inl ⟨by rfl, ?hy15_q21⟩) (by assumption) ?rest15_q21; (case hy15_q21 => ((intro w hSw); (try dsimp only at hSw); go_simp; first | done | (with_reducible rfl))))
          (try simp only [Act.put, List.setIfInBounds_toArray, List.set_cons_zero, List.set_cons_succ])
          refine wpAnyH_ready (rs := [17]) (by kernel_rfl) (by simp) ?_
          refine AllReadyH.cons (o := ⟨none, _, _, _, _, _⟩) rfl (fun K hK => ?_) (AllReadyH.nil)
          rw [if_pos (by rfl)]
          refine wp_store_row 26 (.tmp 12) (.tmp 93) (by rfl) g12 #[.slice oS SH.length qS, .slice oD (NX * NK * Ct) qD] (by rfl) (by rfl) 26 _ T11.out (by kernel_rfl) rfl (by simp [Value.oneCell']) ?_
          refine hK.out _ _ ?_ (fun hHeld => ?_)
          · (try dsimp only)
            exact KE.out _ (setrow_below b11.out G12.out (Nat.le_refl _) _)
          clear hK K
          (try simp only [Act.put])
          (refine wpAnyH_take (i := 18) (oi := ⟨some 11, _, _, _, _, _⟩) (v := .int .i64 0) rfl (by kernel_rfl) (by kernel_rfl) (by kernel_rfl) (fun _ _ _ h => h) (Or.inl ⟨by rfl, ?hy18_q22⟩) (by assumption) ?rest18_q22; (case hy18_q22 => ((intro w hSw); (try dsimp only at hSw); go_simp; first | done | (with_reducible rfl))))
          (try simp only [Act.put, List.setIfInBounds_toArray, List.set_cons_zero, List.set_cons_succ])
          refine wpAnyH_done (by kernel_rfl) ?_ _
          have TT := Lib.hid (setrow_blk T11.out #[.slice oS SH.length qS, .slice oD (NX * NK * Ct) qD])
          have OS2 := Lib.hid (OS.out.kept (setrow_grown _ g12 #[.slice oS SH.length qS, .slice oD (NX * NK * Ct) qD]) (.inr (tens_not_row OS.out T11.out (by decide))))
          have OD2 := Lib.hid (OD.out.kept (setrow_grown _ g12 #[.slice oS SH.length qS, .slice oD (NX * NK * Ct) qD]) (.inr (tens_not_row OD.out T11.out (by decide))))
          have BT := Lib.hid (setrow_below b11.out G12.out (Nat.le_refl _) #[.slice oS SH.length qS, .slice oD (NX * NK * Ct) qD])
          obtain ⟨gD, qD2, eD⟩ := own_slice1 OD2.out HNZ.out
          simp only [Value.slice.injEq] at eD
          obtain ⟨rfl, _, rfl⟩ := eD
          refine NoPanic.normal ?_
          go_wp2
          go_meet
          exact ⟨g12, oS, qS, gD, qD, rfl, rfl, G12, TT, OS2, OD2, BT⟩
      · go_simp
        have bC := Lib.hid (B0.out.alloc B0.out.size (.cells #[.slice none 0 0, .slice none 0 0] 26))
        have TC := Lib.hid (Blk.new wd 26 #[.slice none 0 0, .slice none 0 0])
        obtain ⟨g12, hg12⟩ : ∃ g, g = wd.heap.size := ⟨_, rfl⟩
        rw [← hg12] at TC
        have G12 : Hid (wE.heap.size ≤ g12) := Lib.hid (by rw [hg12]; exact B0.out.size)
        try rw [← hg12]
        clear hg12
        refine hK.out _ _ ?_ (fun hHeld => ?_)
        · (try dsimp only)
          exact KE.out _ bC.out
        clear hK K
        generalize wd.alloc (.cells #[.slice none 0 0, .slice none 0 0] 26) = wC at *
        (try simp only [Act.put, List.setIfInBounds_toArray, List.set_cons_zero, List.set_cons_succ])
        refine wpAnyH_ready (rs := [8]) (by kernel_rfl) (by simp) ?_
        refine AllReadyH.cons (o := ⟨some 88, _, _, _, _, _⟩) rfl (fun K hK => ?_) (AllReadyH.nil)
        go_simp
        have bB := Lib.hid (bC.out.alloc bC.out.size (.cells #[.int .i64 (NX : Nat), .int .i64 (NK : Nat)] 3))
        have O8 := Lib.hid (own_built2 wC (NX : Nat) (NK : Nat) wE.heap.size bC.out.size)
        obtain ⟨g8, hg8⟩ : ∃ g, g = wC.heap.size := ⟨_, rfl⟩
        rw [← hg8] at O8
        have G8 : Hid (wE.heap.size ≤ g8) := Lib.hid (by rw [hg8]; exact bC.out.size)
        have TB := Lib.hid (TC.out.alloc (.cells #[.int .i64 (NX : Nat), .int .i64 (NK : Nat)] 3))
        try rw [← hg8]
        clear hg8
        refine hK.out _ _ ?_ (fun hHeld => ?_)
        · (try dsimp only)
          exact KE.out _ bB.out
        clear hK K
        generalize wC.alloc (.cells #[.int .i64 (NX : Nat), .int .i64 (NK : Nat)] 3) = wB at *
        (try simp only [Act.put, List.setIfInBounds_toArray, List.set_cons_zero, List.set_cons_succ])
        refine wpAnyH_ready (rs := [11]) (by kernel_rfl) (by simp) ?_
        refine AllReadyH.cons (o := ⟨some 91, _, _, _, _, _⟩) rfl (fun K hK => ?_) (AllReadyH.nil)
        rw [if_pos (by rfl)]
        refine wp_append_own _ _ _ 23 (by rfl) wE.heap.size 3 i0 (.int .i64 0) 1 8 Try.underlying23 hi0 hz0 hz1 hz2 rfl (by decide) (.slice (some ⟨g8, 0, none⟩) 2 2) 2 (ints [(NX : Int), (NK : Int)]) (by rfl) O8.out ⟨gP, 0, none⟩ Pl.length qP (ints Pl) (by rfl) (by simp [ints]) ((Below.keepOwn O10.out bB.out (Nat.le_refl _)).cells rfl) (fun u hu => by obtain ⟨y, _, rfl⟩ := List.mem_map.1 hu; rfl) (by unfold maxLen; omega) (by omega) bB.out.size ?_
        intro v9 w9 hown hgrow _
        rw [← HSH.out.2.1, ← HSH.out.2.2] at hown
        obtain ⟨o9, q9, rfl, hld⟩ := Ld.of_owns hown
        have b9 := Lib.hid (bB.out.grown hgrow bB.out.size (fun k e => by cases e; exact G8.out))
        have L9 := Lib.hid hld
        have T9 := Lib.hid (TB.out.kept hgrow (fun e => (tens_not_row O8.out TB.out (by decide)) e.symm))
        clear hown hgrow hld
        refine hK.out _ _ ?_ (fun hHeld => ?_)
        · (try dsimp only)
          exact KE.out _ b9.out
        clear hK K
        (try simp only [Act.put, List.setIfInBounds_toArray, List.set_cons_zero, List.set_cons_succ])
        refine wpAnyH_ready (rs := [12]) (by kernel_rfl) (by simp) ?_
        refine AllReadyH.cons (o := ⟨some 92, _, _, _, _, _⟩) rfl (fun K hK => ?_) (AllReadyH.nil)
        go_simp
        (go_at_call 55; (with_reducible refine (noughts_ok _ _ (NX * NK * Ct) _ L9.out (by rw [HSH.out.1]; exact HS.out.1) (by rw [HSH.out.1]; exact HS.out.2.1)).mono ?_); rintro e w11 ⟨oS, qS, oD, qD, rfl, hs11, hd11, hb⟩)
        rw [List.length_replicate] at hd11
        have b11 := Lib.hid (b9.out.trans (hb.mono b9.out.size))
        have OS := Lib.hid (own_base hs11 b9.out.size)
        have OD := Lib.hid (own_base hd11 b9.out.size)
        have T11 := Lib.hid (T9.out.below hb T9.out.lt)
        clear hb hs11 hd11
        refine hK.out _ _ ?_ (fun hHeld => ?_)
        · (try dsimp only)
          exact KE.out _ b11.out
        clear hK K
        (try simp only [Act.put, List.setIfInBounds_toArray, List.set_cons_zero, List.set_cons_succ])
        (refine wpAnyH_take (i := 13) (oi := ⟨some 79, _, _, _, _, _⟩) (v := ?v13_q23) rfl (by kernel_rfl) (by kernel_rfl) (by kernel_rfl) (fun _ _ _ h => h) (Or.inl ⟨by rfl, ?hy13_q23⟩) (by assumption) ?rest13_q23; (case hy13_q23 => ((intro w hSw); (try dsimp only at hSw); go_simp; first | done | (with_reducible rfl))))
        (try simp only [Act.put, List.setIfInBounds_toArray, List.set_cons_zero, List.set_cons_succ])
        (refine wpAnyH_take (i := 14) (oi := ⟨some 93, _, _, _, _, _⟩) (v := ?v14_q24) rfl (by kernel_rfl) (by kernel_rfl) (by kernel_rfl) (fun _ _ _ h => h) (Or.inl ⟨by rfl, ?hy14_q24⟩) (by assumption) ?rest14_q24; (case hy14_q24 => ((intro w hSw); (try dsimp only at hSw); go_simp; first | done | (with_reducible rfl))))
        (try simp only [Act.put, List.setIfInBounds_toArray, List.set_cons_zero, List.set_cons_succ])
        (refine wpAnyH_take (i := 15) (oi := ⟨some 94, _, _, _, _, _⟩) (v := ?v15_q25) rfl (by kernel_rfl) (by kernel_rfl) (by kernel_rfl) (fun _ _ _ h => h) (Or.inl ⟨by rfl, ?hy15_q25⟩) (by assumption) ?rest15_q25; (case hy15_q25 => ((intro w hSw); (try dsimp only at hSw); go_simp; first | done | (with_reducible rfl))))
        (try simp only [Act.put, List.setIfInBounds_toArray, List.set_cons_zero, List.set_cons_succ])
        refine wpAnyH_ready (rs := [17]) (by kernel_rfl) (by simp) ?_
        refine AllReadyH.cons (o := ⟨none, _, _, _, _, _⟩) rfl (fun K hK => ?_) (AllReadyH.nil)
        rw [if_pos (by rfl)]
        refine wp_store_row 26 (.tmp 12) (.tmp 93) (by rfl) g12 #[.slice oS SH.length qS, .slice oD (NX * NK * Ct) qD] (by rfl) (by rfl) 26 _ T11.out (by kernel_rfl) rfl (by simp [Value.oneCell']) ?_
        refine hK.out _ _ ?_ (fun hHeld => ?_)
        · (try dsimp only)
          exact KE.out _ (setrow_below b11.out G12.out (Nat.le_refl _) _)
        clear hK K
        (try simp only [Act.put])
        (refine wpAnyH_take (i := 18) (oi := ⟨some 11, _, _, _, _, _⟩) (v := .int .i64 0) rfl (by kernel_rfl) (by kernel_rfl) (by kernel_rfl) (fun _ _ _ h => h) (Or.inl ⟨by rfl, ?hy18_q26⟩) (by assumption) ?rest18_q26; (case hy18_q26 => ((intro w hSw); (try dsimp only at hSw); go_simp; first | done | (with_reducible rfl))))
        (try simp only [Act.put, List.setIfInBounds_toArray, List.set_cons_zero, List.set_cons_succ])
        refine wpAnyH_done (by kernel_rfl) ?_ _
        have TT := Lib.hid (setrow_blk T11.out #[.slice oS SH.length qS, .slice oD (NX * NK * Ct) qD])
        have OS2 := Lib.hid (OS.out.kept (setrow_grown _ g12 #[.slice oS SH.length qS, .slice oD (NX * NK * Ct) qD]) (.inr (tens_not_row OS.out T11.out (by decide))))
        have OD2 := Lib.hid (OD.out.kept (setrow_grown _ g12 #[.slice oS SH.length qS, .slice oD (NX * NK * Ct) qD]) (.inr (tens_not_row OD.out T11.out (by decide))))
        have BT := Lib.hid (setrow_below b11.out G12.out (Nat.le_refl _) #[.slice oS SH.length qS, .slice oD (NX * NK * Ct) qD])
        obtain ⟨gD, qD2, eD⟩ := own_slice1 OD2.out HNZ.out
        simp only [Value.slice.injEq] at eD
        obtain ⟨rfl, _, rfl⟩ := eD
        refine NoPanic.normal ?_
        go_wp2
        go_meet
        exact ⟨g12, oS, qS, gD, qD, rfl, rfl, G12, TT, OS2, OD2, BT⟩
    case rest =>
      obtain ⟨P12, oS, qS, gD, qD, rfl, rfl, H12, X12, OS, OD, F12⟩ := hcut
      obtain ⟨wG, hwG⟩ : ∃ x, x = wc := ⟨_, rfl⟩
      subst hwG
      have KG : Hid (∀ X : World, Below wG.heap.size wG X → X.cell? ⟨w.heap.size, 0, none⟩ = some (.slice (some ⟨bs, fs, none⟩) a.length c1) ∧ X.cell? ⟨bs, fs + 1, none⟩ = some (.int .i64 (CH : Nat)) ∧ X.cell? ⟨P10, 2, none⟩ = some (.int .i64 (Tp : Nat))) := Lib.hid (fun X hX => by
        have z2 := F12.out.trans (hX.mono F12.out.size)
        have z := F10.out.trans (z2.mono F10.out.size)
        obtain ⟨⟨k0, k1, k2, k3⟩, k4, k5, k6, k7⟩ := FK.out X (F8.out.trans (z.mono F8.out.size))
        obtain ⟨y0, _⟩ := blk2 k0
        exact ⟨y0, k5, (X10.out.below z2 X10.out.lt).cell 2⟩)
      have g4 : (1 : Int) < (a.length : Int) := by omega
      have g5 : 1 < a.length := by omega
      obtain ⟨MC, hMC, mk⟩ : ∃ MC : Array Value, MC.size = Tp * 2 ∧ ∀ W : World, (Instr.makeSlice 90 (.int .i64 0) (.int .i64 (Tp : Int))).run Try.prog W = .ok (.slice (some ⟨W.heap.size, 0, none⟩) 0 Tp) (W.alloc (.cells MC 150)) := by
        refine ⟨madeCells (Value.agg #[.int .i64 0, .int .i64 0]).cells (Tp * 2), size_madeCells _ _, fun W => ?_⟩
        have := run_make (w := W) 90 150 iM (.agg #[.int .i64 0, .int .i64 0]) Try.underlying90 hiM hzM0 .i64 .i64 0 (Tp : Int) (by omega) (by omega) (by rw [hzM2]; omega) (by omega)
        rw [this, hzM1]
        simp
      have HMC := Lib.hid hMC
      clear hMC
      go_upto_region 11 with fail
      go_cut [13, 14] from 99 to 105 (fun s13 s14 wx => ∃ (P13 P14 : Nat) (oM : Option Addr) (qM : Nat), s13 = .pointer (some ⟨P13, 0, none⟩) ∧ s14 = .pointer (some ⟨P14, 0, none⟩) ∧ Hid (wG.heap.size ≤ P13 ∧ wG.heap.size ≤ P14) ∧ Hid (Blk wx P13 3 #[.int .i64 (CH : Nat)]) ∧ Hid (Blk wx P14 90 #[.slice oM 0 qM]) ∧ Hid (wx.ownsRow wG.heap.size 150 2 (.slice oM 0 qM) 0 []) ∧ Hid (Below wG.heap.size wG wx))
      case first =>
        have B0 : Hid (Below wG.heap.size wG wG.drew) := Lib.hid (below_drw (Below.refl _ _) 1)
        refine wp_region_noPanic ?_
        refine wp_region_held_drew (S := fun X => X.cell? ⟨w.heap.size, 0, none⟩ = some (.slice (some ⟨bs, fs, none⟩) a.length c1) ∧ X.cell? ⟨bs, fs + 1, none⟩ = some (.int .i64 (CH : Nat)) ∧ X.cell? ⟨P10, 2, none⟩ = some (.int .i64 (Tp : Nat))) (by kernel_rfl) ?_ (fun hHeld => ?_)
        · exact KG.out _ B0.out
        have hHd := hHeld
        generalize wG.drew = wd at *
        (refine wpAnyH_take (i := 0) (oi := ⟨some 99, _, _, _, _, _⟩) (v := ?v0_m1) rfl (by kernel_rfl) (by kernel_rfl) (by kernel_rfl) (fun _ _ _ h => h) (Or.inl ⟨by rfl, ?hy0_m1⟩) (by assumption) ?rest0_m1; (case hy0_m1 => ((intro w hSw); (try dsimp only at hSw); go_simp; first | done | (with_reducible rfl))))
        (try simp only [Act.put, List.setIfInBounds_toArray, List.set_cons_zero, List.set_cons_succ])
        (refine wpAnyH_take (i := 1) (oi := ⟨some 100, _, _, _, _, _⟩) (v := ?v1_m2) rfl (by kernel_rfl) (by kernel_rfl) (by kernel_rfl) (fun _ _ _ h => h) (Or.inl ⟨by rfl, ?hy1_m2⟩) (by assumption) ?rest1_m2; (case hy1_m2 => ((intro w hSw); (try dsimp only at hSw); go_simp; first | done | (with_reducible rfl))))
        (try simp only [Act.put, List.setIfInBounds_toArray, List.set_cons_zero, List.set_cons_succ])
        (refine wpAnyH_take (i := 2) (oi := ⟨some 101, _, _, _, _, _⟩) (v := ?v2_m3) rfl (by kernel_rfl) (by kernel_rfl) (by kernel_rfl) (fun _ _ _ h => h) (Or.inl ⟨by rfl, ?hy2_m3⟩) (by assumption) ?rest2_m3; (case hy2_m3 => ((intro w hSw); (try dsimp only at hSw); go_simp; first | done | (with_reducible rfl))))
        (try simp only [Act.put, List.setIfInBounds_toArray, List.set_cons_zero, List.set_cons_succ])
        (refine wpAnyH_take (i := 3) (oi := ⟨some 102, _, _, _, _, _⟩) (v := ?v3_m4) rfl (by kernel_rfl) (by kernel_rfl) (by kernel_rfl) (fun _ _ _ h => h) (Or.inl ⟨by rfl, ?hy3_m4⟩) (by assumption) ?rest3_m4; (case hy3_m4 => ((intro w hSw); (try dsimp only at hSw); go_simp; first | done | (with_reducible rfl))))
        (try simp only [Act.put, List.setIfInBounds_toArray, List.set_cons_zero, List.set_cons_succ])
        (refine wpAnyH_take (i := 4) (oi := ⟨some 103, _, _, _, _, _⟩) (v := ?v4_m5) rfl (by kernel_rfl) (by kernel_rfl) (by kernel_rfl) (fun _ _ _ h => h) (Or.inl ⟨by rfl, ?hy4_m5⟩) (by assumption) ?rest4_m5; (case hy4_m5 => ((intro w hSw); (try dsimp only at hSw); go_simp; first | done | (with_reducible rfl))))
        (try simp only [Act.put, List.setIfInBounds_toArray, List.set_cons_zero, List.set_cons_succ])
        (refine wpAnyH_take (i := 5) (oi := ⟨some 104, _, _, _, _, _⟩) (v := ?v5_m6) rfl (by kernel_rfl) (by kernel_rfl) (by kernel_rfl) (fun _ _ _ h => h) (Or.inl ⟨by rfl, ?hy5_m6⟩) (by assumption) ?rest5_m6; (case hy5_m6 => ((intro w hSw); (try dsimp only at hSw); go_simp; first | done | (with_reducible rfl))))
        (try simp only [Act.put, List.setIfInBounds_toArray, List.set_cons_zero, List.set_cons_succ])
        refine wpAnyH_ready (rs := [6, 7, 8]) (by kernel_rfl) (by simp) ?_
        refine AllReadyH.cons (o := ⟨some 105, _, _, _, _, _⟩) rfl (fun K hK => ?_) (AllReadyH.cons (o := ⟨some 13, _, _, _, _, _⟩) rfl (fun K hK => ?_) (AllReadyH.cons (o := ⟨some 14, _, _, _, _, _⟩) rfl (fun K hK => ?_) (AllReadyH.nil)))
        · go_simp
          have bM := Lib.hid (B0.out.alloc B0.out.size (.cells MC 150))
          have OM := Lib.hid (World.ownsRow_made (base := wG.heap.size) (e := 150) (size := 2) wd MC Tp B0.out.size (by unfold maxLen; omega) HMC.out)
          obtain ⟨gM, hgM⟩ : ∃ g, g = wd.heap.size := ⟨_, rfl⟩
          rw [← hgM] at OM
          try rw [← hgM]
          clear hgM
          refine hK.out _ _ ?_ (fun hHeld => ?_)
          · (try dsimp only)
            exact KG.out _ bM.out
          clear hK K
          generalize wd.alloc (.cells MC 150) = wM at *
          (try simp only [Act.put, List.setIfInBounds_toArray, List.set_cons_zero, List.set_cons_succ])
          refine wpAnyH_ready (rs := [7, 8]) (by kernel_rfl) (by simp) ?_
          refine AllReadyH.cons (o := ⟨some 13, _, _, _, _, _⟩) rfl (fun K hK => ?_) (AllReadyH.cons (o := ⟨some 14, _, _, _, _, _⟩) rfl (fun K hK => ?_) (AllReadyH.nil))
          · go_simp
            have bT3 := Lib.hid (bM.out.alloc bM.out.size (.cells #[.int .i64 0] 3))
            have T3 := Lib.hid (Blk.new wM 3 #[.int .i64 0])
            obtain ⟨gT3, hgT3⟩ : ∃ g, g = wM.heap.size := ⟨_, rfl⟩
            rw [← hgT3] at T3
            have GT3 : Hid (wG.heap.size ≤ gT3) := Lib.hid (by rw [hgT3]; exact bM.out.size)
            have OM' := Lib.hid (OM.out.alloc (.cells #[.int .i64 0] 3))
            try rw [← hgT3]
            clear hgT3
            refine hK.out _ _ ?_ (fun hHeld => ?_)
            · (try dsimp only)
              exact KG.out _ bT3.out
            clear hK K
            generalize wM.alloc (.cells #[.int .i64 0] 3) = wT3 at *
            (try simp only [Act.put, List.setIfInBounds_toArray, List.set_cons_zero, List.set_cons_succ])
            refine wpAnyH_ready (rs := [8]) (by kernel_rfl) (by simp) ?_
            refine AllReadyH.cons (o := ⟨some 14, _, _, _, _, _⟩) rfl (fun K hK => ?_) (AllReadyH.nil)
            go_simp
            have bT4 := Lib.hid (bT3.out.alloc bT3.out.size (.cells #[.slice none 0 0] 90))
            have T4 := Lib.hid (Blk.new wT3 90 #[.slice none 0 0])
            obtain ⟨gT4, hgT4⟩ : ∃ g, g = wT3.heap.size := ⟨_, rfl⟩
            rw [← hgT4] at T4
            have GT4 : Hid (wG.heap.size ≤ gT4) := Lib.hid (by rw [hgT4]; exact bT3.out.size)
            have T3' := Lib.hid (T3.out.alloc (.cells #[.slice none 0 0] 90))
            have OM'' := Lib.hid (OM'.out.alloc (.cells #[.slice none 0 0] 90))
            try rw [← hgT4]
            clear hgT4
            refine hK.out _ _ ?_ (fun hHeld => ?_)
            · (try dsimp only)
              exact KG.out _ bT4.out
            clear hK K
            generalize wT3.alloc (.cells #[.slice none 0 0] 90) = wT4 at *
            (try simp only [Act.put, List.setIfInBounds_toArray, List.set_cons_zero, List.set_cons_succ])
            refine wpAnyH_ready (rs := [9]) (by kernel_rfl) (by simp) ?_
            refine AllReadyH.cons (o := ⟨none, _, _, _, _, _⟩) rfl (fun K hK => ?_) (AllReadyH.nil)
            have p0 := T3'.out.cell 0
            have f0 := T3'.out.frozen 0
            go_simp
            have cT3 := Lib.hid (bT4.out.setCell (p := ⟨gT3, 0, none⟩) GT3.out (.int .i64 (CH : Nat)))
            have sT3 := Lib.hid (T3'.out.set_ 0 (.int .i64 (CH : Nat)))
            have rT4 := Lib.hid (T4.out.far (p := ⟨gT3, 0, none⟩) (blk_ne T4.out T3'.out (by decide)) (.int .i64 (CH : Nat)))
            have qT3 := Lib.hid (own_set2 (i := 0) (z := .int .i64 (CH : Nat)) OM''.out T3'.out (by decide))
            clear p0 f0
            refine hK.out _ _ ?_ (fun hHeld => ?_)
            · (try dsimp only)
              exact KG.out _ cT3.out
            clear hK K
            generalize wT4.setCell ⟨gT3, 0, none⟩ (.int .i64 (CH : Nat)) = vT3 at *
            (try simp only [Act.put, List.setIfInBounds_toArray, List.set_cons_zero, List.set_cons_succ])
            refine wpAnyH_ready (rs := [10]) (by kernel_rfl) (by simp) ?_
            refine AllReadyH.cons (o := ⟨none, _, _, _, _, _⟩) rfl (fun K hK => ?_) (AllReadyH.nil)
            have p0 := rT4.out.cell 0
            have f0 := rT4.out.frozen 0
            go_simp
            have cT4 := Lib.hid (cT3.out.setCell (p := ⟨gT4, 0, none⟩) GT4.out (.slice (some ⟨gM, 0, none⟩) 0 Tp))
            have sT4 := Lib.hid (rT4.out.set_ 0 (.slice (some ⟨gM, 0, none⟩) 0 Tp))
            have rT3 := Lib.hid (sT3.out.far (p := ⟨gT4, 0, none⟩) (blk_ne sT3.out rT4.out (by decide)) (.slice (some ⟨gM, 0, none⟩) 0 Tp))
            have qT4 := Lib.hid (own_set2 (i := 0) (z := .slice (some ⟨gM, 0, none⟩) 0 Tp) qT3.out rT4.out (by decide))
            clear p0 f0
            refine hK.out _ _ ?_ (fun hHeld => ?_)
            · (try dsimp only)
              exact KG.out _ cT4.out
            clear hK K
            generalize vT3.setCell ⟨gT4, 0, none⟩ (.slice (some ⟨gM, 0, none⟩) 0 Tp) = vT4 at *
            (try simp only [Act.put, List.setIfInBounds_toArray, List.set_cons_zero, List.set_cons_succ])
            refine wpAnyH_done (by kernel_rfl) ?_ _
            refine NoPanic.normal ?_
            go_wp2
            go_meet
            exact ⟨gT3, gT4, _, _, rfl, rfl, Lib.hid ⟨GT3.out, GT4.out⟩, rT3, sT4, qT4, cT4⟩
          · go_simp
            have bT4 := Lib.hid (bM.out.alloc bM.out.size (.cells #[.slice none 0 0] 90))
            have T4 := Lib.hid (Blk.new wM 90 #[.slice none 0 0])
            obtain ⟨gT4, hgT4⟩ : ∃ g, g = wM.heap.size := ⟨_, rfl⟩
            rw [← hgT4] at T4
            have GT4 : Hid (wG.heap.size ≤ gT4) := Lib.hid (by rw [hgT4]; exact bM.out.size)
            have OM' := Lib.hid (OM.out.alloc (.cells #[.slice none 0 0] 90))
            try rw [← hgT4]
            clear hgT4
            refine hK.out _ _ ?_ (fun hHeld => ?_)
            · (try dsimp only)
              exact KG.out _ bT4.out
            clear hK K
            generalize wM.alloc (.cells #[.slice none 0 0] 90) = wT4 at *
            (try simp only [Act.put, List.setIfInBounds_toArray, List.set_cons_zero, List.set_cons_succ])
            refine wpAnyH_ready (rs := [7]) (by kernel_rfl) (by simp) ?_
            refine AllReadyH.cons (o := ⟨some 13, _, _, _, _, _⟩) rfl (fun K hK => ?_) (AllReadyH.nil)
            go_simp
            have bT3 := Lib.hid (bT4.out.alloc bT4.out.size (.cells #[.int .i64 0] 3))
            have T3 := Lib.hid (Blk.new wT4 3 #[.int .i64 0])
            obtain ⟨gT3, hgT3⟩ : ∃ g, g = wT4.heap.size := ⟨_, rfl⟩
            rw [← hgT3] at T3
            have GT3 : Hid (wG.heap.size ≤ gT3) := Lib.hid (by rw [hgT3]; exact bT4.out.size)
            have T4' := Lib.hid (T4.out.alloc (.cells #[.int .i64 0] 3))
            have OM'' := Lib.hid (OM'.out.alloc (.cells #[.int .i64 0] 3))
            try rw [← hgT3]
            clear hgT3
            refine hK.out _ _ ?_ (fun hHeld => ?_)
            · (try dsimp only)
              exact KG.out _ bT3.out
            clear hK K
            generalize wT4.alloc (.cells #[.int .i64 0] 3) = wT3 at *
            (try simp only [Act.put, List.setIfInBounds_toArray, List.set_cons_zero, List.set_cons_succ])
            refine wpAnyH_ready (rs := [9]) (by kernel_rfl) (by simp) ?_
            refine AllReadyH.cons (o := ⟨none, _, _, _, _, _⟩) rfl (fun K hK => ?_) (AllReadyH.nil)
            have p0 := T3.out.cell 0
            have f0 := T3.out.frozen 0
            go_simp
            have cT3 := Lib.hid (bT3.out.setCell (p := ⟨gT3, 0, none⟩) GT3.out (.int .i64 (CH : Nat)))
            have sT3 := Lib.hid (T3.out.set_ 0 (.int .i64 (CH : Nat)))
            have rT4 := Lib.hid (T4'.out.far (p := ⟨gT3, 0, none⟩) (blk_ne T4'.out T3.out (by decide)) (.int .i64 (CH : Nat)))
            have qT3 := Lib.hid (own_set2 (i := 0) (z := .int .i64 (CH : Nat)) OM''.out T3.out (by decide))
            clear p0 f0
            refine hK.out _ _ ?_ (fun hHeld => ?_)
            · (try dsimp only)
              exact KG.out _ cT3.out
            clear hK K
            generalize wT3.setCell ⟨gT3, 0, none⟩ (.int .i64 (CH : Nat)) = vT3 at *
            (try simp only [Act.put, List.setIfInBounds_toArray, List.set_cons_zero, List.set_cons_succ])
            refine wpAnyH_ready (rs := [10]) (by kernel_rfl) (by simp) ?_
            refine AllReadyH.cons (o := ⟨none, _, _, _, _, _⟩) rfl (fun K hK => ?_) (AllReadyH.nil)
            have p0 := rT4.out.cell 0
            have f0 := rT4.out.frozen 0
            go_simp
            have cT4 := Lib.hid (cT3.out.setCell (p := ⟨gT4, 0, none⟩) GT4.out (.slice (some ⟨gM, 0, none⟩) 0 Tp))
            have sT4 := Lib.hid (rT4.out.set_ 0 (.slice (some ⟨gM, 0, none⟩) 0 Tp))
            have rT3 := Lib.hid (sT3.out.far (p := ⟨gT4, 0, none⟩) (blk_ne sT3.out rT4.out (by decide)) (.slice (some ⟨gM, 0, none⟩) 0 Tp))
            have qT4 := Lib.hid (own_set2 (i := 0) (z := .slice (some ⟨gM, 0, none⟩) 0 Tp) qT3.out rT4.out (by decide))
            clear p0 f0
            refine hK.out _ _ ?_ (fun hHeld => ?_)
            · (try dsimp only)
              exact KG.out _ cT4.out
            clear hK K
            generalize vT3.setCell ⟨gT4, 0, none⟩ (.slice (some ⟨gM, 0, none⟩) 0 Tp) = vT4 at *
            (try simp only [Act.put, List.setIfInBounds_toArray, List.set_cons_zero, List.set_cons_succ])
            refine wpAnyH_done (by kernel_rfl) ?_ _
            refine NoPanic.normal ?_
            go_wp2
            go_meet
            exact ⟨gT3, gT4, _, _, rfl, rfl, Lib.hid ⟨GT3.out, GT4.out⟩, rT3, sT4, qT4, cT4⟩
        · go_simp
          have bT3 := Lib.hid (B0.out.alloc B0.out.size (.cells #[.int .i64 0] 3))
          have T3 := Lib.hid (Blk.new wd 3 #[.int .i64 0])
          obtain ⟨gT3, hgT3⟩ : ∃ g, g = wd.heap.size := ⟨_, rfl⟩
          rw [← hgT3] at T3
          have GT3 : Hid (wG.heap.size ≤ gT3) := Lib.hid (by rw [hgT3]; exact B0.out.size)
          try rw [← hgT3]
          clear hgT3
          refine hK.out _ _ ?_ (fun hHeld => ?_)
          · (try dsimp only)
            exact KG.out _ bT3.out
          clear hK K
          generalize wd.alloc (.cells #[.int .i64 0] 3) = wT3 at *
          (try simp only [Act.put, List.setIfInBounds_toArray, List.set_cons_zero, List.set_cons_succ])
          refine wpAnyH_ready (rs := [6, 8]) (by kernel_rfl) (by simp) ?_
          refine AllReadyH.cons (o := ⟨some 105, _, _, _, _, _⟩) rfl (fun K hK => ?_) (AllReadyH.cons (o := ⟨some 14, _, _, _, _, _⟩) rfl (fun K hK => ?_) (AllReadyH.nil))
          · go_simp
            have bM := Lib.hid (bT3.out.alloc bT3.out.size (.cells MC 150))
            have OM := Lib.hid (World.ownsRow_made (base := wG.heap.size) (e := 150) (size := 2) wT3 MC Tp bT3.out.size (by unfold maxLen; omega) HMC.out)
            obtain ⟨gM, hgM⟩ : ∃ g, g = wT3.heap.size := ⟨_, rfl⟩
            rw [← hgM] at OM
            have T3' := Lib.hid (T3.out.alloc (.cells MC 150))
            try rw [← hgM]
            clear hgM
            refine hK.out _ _ ?_ (fun hHeld => ?_)
            · (try dsimp only)
              exact KG.out _ bM.out
            clear hK K
            generalize wT3.alloc (.cells MC 150) = wM at *
            (try simp only [Act.put, List.setIfInBounds_toArray, List.set_cons_zero, List.set_cons_succ])
            refine wpAnyH_ready (rs := [8]) (by kernel_rfl) (by simp) ?_
            refine AllReadyH.cons (o := ⟨some 14, _, _, _, _, _⟩) rfl (fun K hK => ?_) (AllReadyH.nil)
            go_simp
            have bT4 := Lib.hid (bM.out.alloc bM.out.size (.cells #[.slice none 0 0] 90))
            have T4 := Lib.hid (Blk.new wM 90 #[.slice none 0 0])
            obtain ⟨gT4, hgT4⟩ : ∃ g, g = wM.heap.size := ⟨_, rfl⟩
            rw [← hgT4] at T4
            have GT4 : Hid (wG.heap.size ≤ gT4) := Lib.hid (by rw [hgT4]; exact bM.out.size)
            have T3'' := Lib.hid (T3'.out.alloc (.cells #[.slice none 0 0] 90))
            have OM' := Lib.hid (OM.out.alloc (.cells #[.slice none 0 0] 90))
            try rw [← hgT4]
            clear hgT4
            refine hK.out _ _ ?_ (fun hHeld => ?_)
            · (try dsimp only)
              exact KG.out _ bT4.out
            clear hK K
            generalize wM.alloc (.cells #[.slice none 0 0] 90) = wT4 at *
            (try simp only [Act.put, List.setIfInBounds_toArray, List.set_cons_zero, List.set_cons_succ])
            refine wpAnyH_ready (rs := [9]) (by kernel_rfl) (by simp) ?_
            refine AllReadyH.cons (o := ⟨none, _, _, _, _, _⟩) rfl (fun K hK => ?_) (AllReadyH.nil)
            have p0 := T3''.out.cell 0
            have f0 := T3''.out.frozen 0
            go_simp
            have cT3 := Lib.hid (bT4.out.setCell (p := ⟨gT3, 0, none⟩) GT3.out (.int .i64 (CH : Nat)))
            have sT3 := Lib.hid (T3''.out.set_ 0 (.int .i64 (CH : Nat)))
            have rT4 := Lib.hid (T4.out.far (p := ⟨gT3, 0, none⟩) (blk_ne T4.out T3''.out (by decide)) (.int .i64 (CH : Nat)))
            have qT3 := Lib.hid (own_set2 (i := 0) (z := .int .i64 (CH : Nat)) OM'.out T3''.out (by decide))
            clear p0 f0
            refine hK.out _ _ ?_ (fun hHeld => ?_)
            · (try dsimp only)
              exact KG.out _ cT3.out
            clear hK K
            generalize wT4.setCell ⟨gT3, 0, none⟩ (.int .i64 (CH : Nat)) = vT3 at *
            (try simp only [Act.put, List.setIfInBounds_toArray, List.set_cons_zero, List.set_cons_succ])
            refine wpAnyH_ready (rs := [10]) (by kernel_rfl) (by simp) ?_
            refine AllReadyH.cons (o := ⟨none, _, _, _, _, _⟩) rfl (fun K hK => ?_) (AllReadyH.nil)
            have p0 := rT4.out.cell 0
            have f0 := rT4.out.frozen 0
            go_simp
            have cT4 := Lib.hid (cT3.out.setCell (p := ⟨gT4, 0, none⟩) GT4.out (.slice (some ⟨gM, 0, none⟩) 0 Tp))
            have sT4 := Lib.hid (rT4.out.set_ 0 (.slice (some ⟨gM, 0, none⟩) 0 Tp))
            have rT3 := Lib.hid (sT3.out.far (p := ⟨gT4, 0, none⟩) (blk_ne sT3.out rT4.out (by decide)) (.slice (some ⟨gM, 0, none⟩) 0 Tp))
            have qT4 := Lib.hid (own_set2 (i := 0) (z := .slice (some ⟨gM, 0, none⟩) 0 Tp) qT3.out rT4.out (by decide))
            clear p0 f0
            refine hK.out _ _ ?_ (fun hHeld => ?_)
            · (try dsimp only)
              exact KG.out _ cT4.out
            clear hK K
            generalize vT3.setCell ⟨gT4, 0, none⟩ (.slice (some ⟨gM, 0, none⟩) 0 Tp) = vT4 at *
            (try simp only [Act.put, List.setIfInBounds_toArray, List.set_cons_zero, List.set_cons_succ])
            refine wpAnyH_done (by kernel_rfl) ?_ _
            refine NoPanic.normal ?_
            go_wp2
            go_meet
            exact ⟨gT3, gT4, _, _, rfl, rfl, Lib.hid ⟨GT3.out, GT4.out⟩, rT3, sT4, qT4, cT4⟩
          · go_simp
            have bT4 := Lib.hid (bT3.out.alloc bT3.out.size (.cells #[.slice none 0 0] 90))
            have T4 := Lib.hid (Blk.new wT3 90 #[.slice none 0 0])
            obtain ⟨gT4, hgT4⟩ : ∃ g, g = wT3.heap.size := ⟨_, rfl⟩
            rw [← hgT4] at T4
            have GT4 : Hid (wG.heap.size ≤ gT4) := Lib.hid (by rw [hgT4]; exact bT3.out.size)
            have T3' := Lib.hid (T3.out.alloc (.cells #[.slice none 0 0] 90))
            try rw [← hgT4]
            clear hgT4
            refine hK.out _ _ ?_ (fun hHeld => ?_)
            · (try dsimp only)
              exact KG.out _ bT4.out
            clear hK K
            generalize wT3.alloc (.cells #[.slice none 0 0] 90) = wT4 at *
            (try simp only [Act.put, List.setIfInBounds_toArray, List.set_cons_zero, List.set_cons_succ])
            refine wpAnyH_ready (rs := [6, 9]) (by kernel_rfl) (by simp) ?_
            refine AllReadyH.cons (o := ⟨some 105, _, _, _, _, _⟩) rfl (fun K hK => ?_) (AllReadyH.cons (o := ⟨none, _, _, _, _, _⟩) rfl (fun K hK => ?_) (AllReadyH.nil))
            · go_simp
              have bM := Lib.hid (bT4.out.alloc bT4.out.size (.cells MC 150))
              have OM := Lib.hid (World.ownsRow_made (base := wG.heap.size) (e := 150) (size := 2) wT4 MC Tp bT4.out.size (by unfold maxLen; omega) HMC.out)
              obtain ⟨gM, hgM⟩ : ∃ g, g = wT4.heap.size := ⟨_, rfl⟩
              rw [← hgM] at OM
              have T3'' := Lib.hid (T3'.out.alloc (.cells MC 150))
              have T4' := Lib.hid (T4.out.alloc (.cells MC 150))
              try rw [← hgM]
              clear hgM
              refine hK.out _ _ ?_ (fun hHeld => ?_)
              · (try dsimp only)
                exact KG.out _ bM.out
              clear hK K
              generalize wT4.alloc (.cells MC 150) = wM at *
              (try simp only [Act.put, List.setIfInBounds_toArray, List.set_cons_zero, List.set_cons_succ])
              refine wpAnyH_ready (rs := [9]) (by kernel_rfl) (by simp) ?_
              refine AllReadyH.cons (o := ⟨none, _, _, _, _, _⟩) rfl (fun K hK => ?_) (AllReadyH.nil)
              have p0 := T3''.out.cell 0
              have f0 := T3''.out.frozen 0
              go_simp
              have cT3 := Lib.hid (bM.out.setCell (p := ⟨gT3, 0, none⟩) GT3.out (.int .i64 (CH : Nat)))
              have sT3 := Lib.hid (T3''.out.set_ 0 (.int .i64 (CH : Nat)))
              have rT4 := Lib.hid (T4'.out.far (p := ⟨gT3, 0, none⟩) (blk_ne T4'.out T3''.out (by decide)) (.int .i64 (CH : Nat)))
              have qT3 := Lib.hid (own_set2 (i := 0) (z := .int .i64 (CH : Nat)) OM.out T3''.out (by decide))
              clear p0 f0
              refine hK.out _ _ ?_ (fun hHeld => ?_)
              · (try dsimp only)
                exact KG.out _ cT3.out
              clear hK K
              generalize wM.setCell ⟨gT3, 0, none⟩ (.int .i64 (CH : Nat)) = vT3 at *
              (try simp only [Act.put, List.setIfInBounds_toArray, List.set_cons_zero, List.set_cons_succ])
              refine wpAnyH_ready (rs := [10]) (by kernel_rfl) (by simp) ?_
              refine AllReadyH.cons (o := ⟨none, _, _, _, _, _⟩) rfl (fun K hK => ?_) (AllReadyH.nil)
              have p0 := rT4.out.cell 0
              have f0 := rT4.out.frozen 0
              go_simp
              have cT4 := Lib.hid (cT3.out.setCell (p := ⟨gT4, 0, none⟩) GT4.out (.slice (some ⟨gM, 0, none⟩) 0 Tp))
              have sT4 := Lib.hid (rT4.out.set_ 0 (.slice (some ⟨gM, 0, none⟩) 0 Tp))
              have rT3 := Lib.hid (sT3.out.far (p := ⟨gT4, 0, none⟩) (blk_ne sT3.out rT4.out (by decide)) (.slice (some ⟨gM, 0, none⟩) 0 Tp))
              have qT4 := Lib.hid (own_set2 (i := 0) (z := .slice (some ⟨gM, 0, none⟩) 0 Tp) qT3.out rT4.out (by decide))
              clear p0 f0
              refine hK.out _ _ ?_ (fun hHeld => ?_)
              · (try dsimp only)
                exact KG.out _ cT4.out
              clear hK K
              generalize vT3.setCell ⟨gT4, 0, none⟩ (.slice (some ⟨gM, 0, none⟩) 0 Tp) = vT4 at *
              (try simp only [Act.put, List.setIfInBounds_toArray, List.set_cons_zero, List.set_cons_succ])
              refine wpAnyH_done (by kernel_rfl) ?_ _
              refine NoPanic.normal ?_
              go_wp2
              go_meet
              exact ⟨gT3, gT4, _, _, rfl, rfl, Lib.hid ⟨GT3.out, GT4.out⟩, rT3, sT4, qT4, cT4⟩
            · have p0 := T3'.out.cell 0
              have f0 := T3'.out.frozen 0
              go_simp
              have cT3 := Lib.hid (bT4.out.setCell (p := ⟨gT3, 0, none⟩) GT3.out (.int .i64 (CH : Nat)))
              have sT3 := Lib.hid (T3'.out.set_ 0 (.int .i64 (CH : Nat)))
              have rT4 := Lib.hid (T4.out.far (p := ⟨gT3, 0, none⟩) (blk_ne T4.out T3'.out (by decide)) (.int .i64 (CH : Nat)))
              clear p0 f0
              refine hK.out _ _ ?_ (fun hHeld => ?_)
              · (try dsimp only)
                exact KG.out _ cT3.out
              clear hK K
              generalize wT4.setCell ⟨gT3, 0, none⟩ (.int .i64 (CH : Nat)) = vT3 at *
              (try simp only [Act.put, List.setIfInBounds_toArray, List.set_cons_zero, List.set_cons_succ])
              refine wpAnyH_ready (rs := [6]) (by kernel_rfl) (by simp) ?_
              refine AllReadyH.cons (o := ⟨some 105, _, _, _, _, _⟩) rfl (fun K hK => ?_) (AllReadyH.nil)
              go_simp
              have bM := Lib.hid (cT3.out.alloc cT3.out.size (.cells MC 150))
              have OM := Lib.hid (World.ownsRow_made (base := wG.heap.size) (e := 150) (size := 2) vT3 MC Tp cT3.out.size (by unfold maxLen; omega) HMC.out)
              obtain ⟨gM, hgM⟩ : ∃ g, g = vT3.heap.size := ⟨_, rfl⟩
              rw [← hgM] at OM
              have sT3' := Lib.hid (sT3.out.alloc (.cells MC 150))
              have rT4' := Lib.hid (rT4.out.alloc (.cells MC 150))
              try rw [← hgM]
              clear hgM
              refine hK.out _ _ ?_ (fun hHeld => ?_)
              · (try dsimp only)
                exact KG.out _ bM.out
              clear hK K
              generalize vT3.alloc (.cells MC 150) = wM at *
              (try simp only [Act.put, List.setIfInBounds_toArray, List.set_cons_zero, List.set_cons_succ])
              refine wpAnyH_ready (rs := [10]) (by kernel_rfl) (by simp) ?_
              refine AllReadyH.cons (o := ⟨none, _, _, _, _, _⟩) rfl (fun K hK => ?_) (AllReadyH.nil)
              have p0 := rT4'.out.cell 0
              have f0 := rT4'.out.frozen 0
              go_simp
              have cT4 := Lib.hid (bM.out.setCell (p := ⟨gT4, 0, none⟩) GT4.out (.slice (some ⟨gM, 0, none⟩) 0 Tp))
              have sT4 := Lib.hid (rT4'.out.set_ 0 (.slice (some ⟨gM, 0, none⟩) 0 Tp))
              have rT3 := Lib.hid (sT3'.out.far (p := ⟨gT4, 0, none⟩) (blk_ne sT3'.out rT4'.out (by decide)) (.slice (some ⟨gM, 0, none⟩) 0 Tp))
              have qT4 := Lib.hid (own_set2 (i := 0) (z := .slice (some ⟨gM, 0, none⟩) 0 Tp) OM.out rT4'.out (by decide))
              clear p0 f0
              refine hK.out _ _ ?_ (fun hHeld => ?_)
              · (try dsimp only)
                exact KG.out _ cT4.out
              clear hK K
              generalize wM.setCell ⟨gT4, 0, none⟩ (.slice (some ⟨gM, 0, none⟩) 0 Tp) = vT4 at *
              (try simp only [Act.put, List.setIfInBounds_toArray, List.set_cons_zero, List.set_cons_succ])
              refine wpAnyH_done (by kernel_rfl) ?_ _
              refine NoPanic.normal ?_
              go_wp2
              go_meet
              exact ⟨gT3, gT4, _, _, rfl, rfl, Lib.hid ⟨GT3.out, GT4.out⟩, rT3, sT4, qT4, cT4⟩
        · go_simp
          have bT4 := Lib.hid (B0.out.alloc B0.out.size (.cells #[.slice none 0 0] 90))
          have T4 := Lib.hid (Blk.new wd 90 #[.slice none 0 0])
          obtain ⟨gT4, hgT4⟩ : ∃ g, g = wd.heap.size := ⟨_, rfl⟩
          rw [← hgT4] at T4
          have GT4 : Hid (wG.heap.size ≤ gT4) := Lib.hid (by rw [hgT4]; exact B0.out.size)
          try rw [← hgT4]
          clear hgT4
          refine hK.out _ _ ?_ (fun hHeld => ?_)
          · (try dsimp only)
            exact KG.out _ bT4.out
          clear hK K
          generalize wd.alloc (.cells #[.slice none 0 0] 90) = wT4 at *
          (try simp only [Act.put, List.setIfInBounds_toArray, List.set_cons_zero, List.set_cons_succ])
          refine wpAnyH_ready (rs := [6, 7]) (by kernel_rfl) (by simp) ?_
          refine AllReadyH.cons (o := ⟨some 105, _, _, _, _, _⟩) rfl (fun K hK => ?_) (AllReadyH.cons (o := ⟨some 13, _, _, _, _, _⟩) rfl (fun K hK => ?_) (AllReadyH.nil))
          · go_simp
            have bM := Lib.hid (bT4.out.alloc bT4.out.size (.cells MC 150))
            have OM := Lib.hid (World.ownsRow_made (base := wG.heap.size) (e := 150) (size := 2) wT4 MC Tp bT4.out.size (by unfold maxLen; omega) HMC.out)
            obtain ⟨gM, hgM⟩ : ∃ g, g = wT4.heap.size := ⟨_, rfl⟩
            rw [← hgM] at OM
            have T4' := Lib.hid (T4.out.alloc (.cells MC 150))
            try rw [← hgM]
            clear hgM
            refine hK.out _ _ ?_ (fun hHeld => ?_)
            · (try dsimp only)
              exact KG.out _ bM.out
            clear hK K
            generalize wT4.alloc (.cells MC 150) = wM at *
            (try simp only [Act.put, List.setIfInBounds_toArray, List.set_cons_zero, List.set_cons_succ])
            refine wpAnyH_ready (rs := [7]) (by kernel_rfl) (by simp) ?_
            refine AllReadyH.cons (o := ⟨some 13, _, _, _, _, _⟩) rfl (fun K hK => ?_) (AllReadyH.nil)
            go_simp
            have bT3 := Lib.hid (bM.out.alloc bM.out.size (.cells #[.int .i64 0] 3))
            have T3 := Lib.hid (Blk.new wM 3 #[.int .i64 0])
            obtain ⟨gT3, hgT3⟩ : ∃ g, g = wM.heap.size := ⟨_, rfl⟩
            rw [← hgT3] at T3
            have GT3 : Hid (wG.heap.size ≤ gT3) := Lib.hid (by rw [hgT3]; exact bM.out.size)
            have T4'' := Lib.hid (T4'.out.alloc (.cells #[.int .i64 0] 3))
            have OM' := Lib.hid (OM.out.alloc (.cells #[.int .i64 0] 3))
            try rw [← hgT3]
            clear hgT3
            refine hK.out _ _ ?_ (fun hHeld => ?_)
            · (try dsimp only)
              exact KG.out _ bT3.out
            clear hK K
            generalize wM.alloc (.cells #[.int .i64 0] 3) = wT3 at *
            (try simp only [Act.put, List.setIfInBounds_toArray, List.set_cons_zero, List.set_cons_succ])
            refine wpAnyH_ready (rs := [9]) (by kernel_rfl) (by simp) ?_
            refine AllReadyH.cons (o := ⟨none, _, _, _, _, _⟩) rfl (fun K hK => ?_) (AllReadyH.nil)
            have p0 := T3.out.cell 0
            have f0 := T3.out.frozen 0
            go_simp
            have cT3 := Lib.hid (bT3.out.setCell (p := ⟨gT3, 0, none⟩) GT3.out (.int .i64 (CH : Nat)))
            have sT3 := Lib.hid (T3.out.set_ 0 (.int .i64 (CH : Nat)))
            have rT4 := Lib.hid (T4''.out.far (p := ⟨gT3, 0, none⟩) (blk_ne T4''.out T3.out (by decide)) (.int .i64 (CH : Nat)))
            have qT3 := Lib.hid (own_set2 (i := 0) (z := .int .i64 (CH : Nat)) OM'.out T3.out (by decide))
            clear p0 f0
            refine hK.out _ _ ?_ (fun hHeld => ?_)
            · (try dsimp only)
              exact KG.out _ cT3.out
            clear hK K
            generalize wT3.setCell ⟨gT3, 0, none⟩ (.int .i64 (CH : Nat)) = vT3 at *
            (try simp only [Act.put, List.setIfInBounds_toArray, List.set_cons_zero, List.set_cons_succ])
            refine wpAnyH_ready (rs := [10]) (by kernel_rfl) (by simp) ?_
            refine AllReadyH.cons (o := ⟨none, _, _, _, _, _⟩) rfl (fun K hK => ?_) (AllReadyH.nil)
            have p0 := rT4.out.cell 0
            have f0 := rT4.out.frozen 0
            go_simp
            have cT4 := Lib.hid (cT3.out.setCell (p := ⟨gT4, 0, none⟩) GT4.out (.slice (some ⟨gM, 0, none⟩) 0 Tp))
            have sT4 := Lib.hid (rT4.out.set_ 0 (.slice (some ⟨gM, 0, none⟩) 0 Tp))
            have rT3 := Lib.hid (sT3.out.far (p := ⟨gT4, 0, none⟩) (blk_ne sT3.out rT4.out (by decide)) (.slice (some ⟨gM, 0, none⟩) 0 Tp))
            have qT4 := Lib.hid (own_set2 (i := 0) (z := .slice (some ⟨gM, 0, none⟩) 0 Tp) qT3.out rT4.out (by decide))
            clear p0 f0
            refine hK.out _ _ ?_ (fun hHeld => ?_)
            · (try dsimp only)
              exact KG.out _ cT4.out
            clear hK K
            generalize vT3.setCell ⟨gT4, 0, none⟩ (.slice (some ⟨gM, 0, none⟩) 0 Tp) = vT4 at *
            (try simp only [Act.put, List.setIfInBounds_toArray, List.set_cons_zero, List.set_cons_succ])
            refine wpAnyH_done (by kernel_rfl) ?_ _
            refine NoPanic.normal ?_
            go_wp2
            go_meet
            exact ⟨gT3, gT4, _, _, rfl, rfl, Lib.hid ⟨GT3.out, GT4.out⟩, rT3, sT4, qT4, cT4⟩
          · go_simp
            have bT3 := Lib.hid (bT4.out.alloc bT4.out.size (.cells #[.int .i64 0] 3))
            have T3 := Lib.hid (Blk.new wT4 3 #[.int .i64 0])
            obtain ⟨gT3, hgT3⟩ : ∃ g, g = wT4.heap.size := ⟨_, rfl⟩
            rw [← hgT3] at T3
            have GT3 : Hid (wG.heap.size ≤ gT3) := Lib.hid (by rw [hgT3]; exact bT4.out.size)
            have T4' := Lib.hid (T4.out.alloc (.cells #[.int .i64 0] 3))
            try rw [← hgT3]
            clear hgT3
            refine hK.out _ _ ?_ (fun hHeld => ?_)
            · (try dsimp only)
              exact KG.out _ bT3.out
            clear hK K
            generalize wT4.alloc (.cells #[.int .i64 0] 3) = wT3 at *
            (try simp only [Act.put, List.setIfInBounds_toArray, List.set_cons_zero, List.set_cons_succ])
            refine wpAnyH_ready (rs := [6, 9]) (by kernel_rfl) (by simp) ?_
            refine AllReadyH.cons (o := ⟨some 105, _, _, _, _, _⟩) rfl (fun K hK => ?_) (AllReadyH.cons (o := ⟨none, _, _, _, _, _⟩) rfl (fun K hK => ?_) (AllReadyH.nil))
            · go_simp
              have bM := Lib.hid (bT3.out.alloc bT3.out.size (.cells MC 150))
              have OM := Lib.hid (World.ownsRow_made (base := wG.heap.size) (e := 150) (size := 2) wT3 MC Tp bT3.out.size (by unfold maxLen; omega) HMC.out)
              obtain ⟨gM, hgM⟩ : ∃ g, g = wT3.heap.size := ⟨_, rfl⟩
              rw [← hgM] at OM
              have T3' := Lib.hid (T3.out.alloc (.cells MC 150))
              have T4'' := Lib.hid (T4'.out.alloc (.cells MC 150))
              try rw [← hgM]
              clear hgM
              refine hK.out _ _ ?_ (fun hHeld => ?_)
              · (try dsimp only)
                exact KG.out _ bM.out
              clear hK K
              generalize wT3.alloc (.cells MC 150) = wM at *
              (try simp only [Act.put, List.setIfInBounds_toArray, List.set_cons_zero, List.set_cons_succ])
              refine wpAnyH_ready (rs := [9]) (by kernel_rfl) (by simp) ?_
              refine AllReadyH.cons (o := ⟨none, _, _, _, _, _⟩) rfl (fun K hK => ?_) (AllReadyH.nil)
              have p0 := T3'.out.cell 0
              have f0 := T3'.out.frozen 0
              go_simp
              have cT3 := Lib.hid (bM.out.setCell (p := ⟨gT3, 0, none⟩) GT3.out (.int .i64 (CH : Nat)))
              have sT3 := Lib.hid (T3'.out.set_ 0 (.int .i64 (CH : Nat)))
              have rT4 := Lib.hid (T4''.out.far (p := ⟨gT3, 0, none⟩) (blk_ne T4''.out T3'.out (by decide)) (.int .i64 (CH : Nat)))
              have qT3 := Lib.hid (own_set2 (i := 0) (z := .int .i64 (CH : Nat)) OM.out T3'.out (by decide))
              clear p0 f0
              refine hK.out _ _ ?_ (fun hHeld => ?_)
              · (try dsimp only)
                exact KG.out _ cT3.out
              clear hK K
              generalize wM.setCell ⟨gT3, 0, none⟩ (.int .i64 (CH : Nat)) = vT3 at *
              (try simp only [Act.put, List.setIfInBounds_toArray, List.set_cons_zero, List.set_cons_succ])
              refine wpAnyH_ready (rs := [10]) (by kernel_rfl) (by simp) ?_
              refine AllReadyH.cons (o := ⟨none, _, _, _, _, _⟩) rfl (fun K hK => ?_) (AllReadyH.nil)
              have p0 := rT4.out.cell 0
              have f0 := rT4.out.frozen 0
              go_simp
              have cT4 := Lib.hid (cT3.out.setCell (p := ⟨gT4, 0, none⟩) GT4.out (.slice (some ⟨gM, 0, none⟩) 0 Tp))
              have sT4 := Lib.hid (rT4.out.set_ 0 (.slice (some ⟨gM, 0, none⟩) 0 Tp))
              have rT3 := Lib.hid (sT3.out.far (p := ⟨gT4, 0, none⟩) (blk_ne sT3.out rT4.out (by decide)) (.slice (some ⟨gM, 0, none⟩) 0 Tp))
              have qT4 := Lib.hid (own_set2 (i := 0) (z := .slice (some ⟨gM, 0, none⟩) 0 Tp) qT3.out rT4.out (by decide))
              clear p0 f0
              refine hK.out _ _ ?_ (fun hHeld => ?_)
              · (try dsimp only)
                exact KG.out _ cT4.out
              clear hK K
              generalize vT3.setCell ⟨gT4, 0, none⟩ (.slice (some ⟨gM, 0, none⟩) 0 Tp) = vT4 at *
              (try simp only [Act.put, List.setIfInBounds_toArray, List.set_cons_zero, List.set_cons_succ])
              refine wpAnyH_done (by kernel_rfl) ?_ _
              refine NoPanic.normal ?_
              go_wp2
              go_meet
              exact ⟨gT3, gT4, _, _, rfl, rfl, Lib.hid ⟨GT3.out, GT4.out⟩, rT3, sT4, qT4, cT4⟩
            · have p0 := T3.out.cell 0
              have f0 := T3.out.frozen 0
              go_simp
              have cT3 := Lib.hid (bT3.out.setCell (p := ⟨gT3, 0, none⟩) GT3.out (.int .i64 (CH : Nat)))
              have sT3 := Lib.hid (T3.out.set_ 0 (.int .i64 (CH : Nat)))
              have rT4 := Lib.hid (T4'.out.far (p := ⟨gT3, 0, none⟩) (blk_ne T4'.out T3.out (by decide)) (.int .i64 (CH : Nat)))
              clear p0 f0
              refine hK.out _ _ ?_ (fun hHeld => ?_)
              · (try dsimp only)
                exact KG.out _ cT3.out
              clear hK K
              generalize wT3.setCell ⟨gT3, 0, none⟩ (.int .i64 (CH : Nat)) = vT3 at *
              (try simp only [Act.put, List.setIfInBounds_toArray, List.set_cons_zero, List.set_cons_succ])
              refine wpAnyH_ready (rs := [6]) (by kernel_rfl) (by simp) ?_
              refine AllReadyH.cons (o := ⟨some 105, _, _, _, _, _⟩) rfl (fun K hK => ?_) (AllReadyH.nil)
              go_simp
              have bM := Lib.hid (cT3.out.alloc cT3.out.size (.cells MC 150))
              have OM := Lib.hid (World.ownsRow_made (base := wG.heap.size) (e := 150) (size := 2) vT3 MC Tp cT3.out.size (by unfold maxLen; omega) HMC.out)
              obtain ⟨gM, hgM⟩ : ∃ g, g = vT3.heap.size := ⟨_, rfl⟩
              rw [← hgM] at OM
              have sT3' := Lib.hid (sT3.out.alloc (.cells MC 150))
              have rT4' := Lib.hid (rT4.out.alloc (.cells MC 150))
              try rw [← hgM]
              clear hgM
              refine hK.out _ _ ?_ (fun hHeld => ?_)
              · (try dsimp only)
                exact KG.out _ bM.out
              clear hK K
              generalize vT3.alloc (.cells MC 150) = wM at *
              (try simp only [Act.put, List.setIfInBounds_toArray, List.set_cons_zero, List.set_cons_succ])
              refine wpAnyH_ready (rs := [10]) (by kernel_rfl) (by simp) ?_
              refine AllReadyH.cons (o := ⟨none, _, _, _, _, _⟩) rfl (fun K hK => ?_) (AllReadyH.nil)
              have p0 := rT4'.out.cell 0
              have f0 := rT4'.out.frozen 0
              go_simp
              have cT4 := Lib.hid (bM.out.setCell (p := ⟨gT4, 0, none⟩) GT4.out (.slice (some ⟨gM, 0, none⟩) 0 Tp))
              have sT4 := Lib.hid (rT4'.out.set_ 0 (.slice (some ⟨gM, 0, none⟩) 0 Tp))
              have rT3 := Lib.hid (sT3'.out.far (p := ⟨gT4, 0, none⟩) (blk_ne sT3'.out rT4'.out (by decide)) (.slice (some ⟨gM, 0, none⟩) 0 Tp))
              have qT4 := Lib.hid (own_set2 (i := 0) (z := .slice (some ⟨gM, 0, none⟩) 0 Tp) OM.out rT4'.out (by decide))
              clear p0 f0
              refine hK.out _ _ ?_ (fun hHeld => ?_)
              · (try dsimp only)
                exact KG.out _ cT4.out
              clear hK K
              generalize wM.setCell ⟨gT4, 0, none⟩ (.slice (some ⟨gM, 0, none⟩) 0 Tp) = vT4 at *
              (try simp only [Act.put, List.setIfInBounds_toArray, List.set_cons_zero, List.set_cons_succ])
              refine wpAnyH_done (by kernel_rfl) ?_ _
              refine NoPanic.normal ?_
              go_wp2
              go_meet
              exact ⟨gT3, gT4, _, _, rfl, rfl, Lib.hid ⟨GT3.out, GT4.out⟩, rT3, sT4, qT4, cT4⟩
      case rest =>
        obtain ⟨P13, P14, oM, qM, rfl, rfl, H13, X13, X14, OM, F13⟩ := hcut
        obtain ⟨wH, hwH⟩ : ∃ x, x = wc := ⟨_, rfl⟩
        subst hwH
        have F12H : Hid (Below wE.heap.size wE wH) := Lib.hid (F12.out.trans (F13.out.mono F12.out.size))
        have F10H : Hid (Below w8.heap.size w8 wH) := Lib.hid (F10.out.trans (F12H.out.mono F10.out.size))
        have F6H : Hid (Below w6.heap.size w6 wH) := Lib.hid (F8.out.trans (F10H.out.mono F8.out.size))
        have X10H := Lib.hid (X10.out.below F12H.out X10.out.lt)
        have X12H := Lib.hid (X12.out.below F13.out X12.out.lt)
        have OSH := Lib.hid (Below.keepOwn OS.out F13.out (Nat.le_refl _))
        have ODH := Lib.hid (Below.keepOwn OD.out F13.out (Nat.le_refl _))
        have HGD : Hid (wE.heap.size ≤ gD ∧ gD < wG.heap.size) := Lib.hid (OD.out.lt gD rfl)
        clear k4 k5 k6 k7 COF g1 g2 g3 g4 g5 mk KG KE KS
        have z1 : wH.cell? ⟨P10, 1, none⟩ = some (.int .i64 (Ct : Nat)) := X10H.out.cell 1
        go_upto_region 12 with fail
        go_wp2
        clear z1
        have HL0 : Hid (CvL wE.heap.size wG.heap.size gD P14 (NX * NK * Ct) qD V NX NK Ct wH 0 [] oM 0 qM [] wH) := Lib.hid ⟨by rw [rowL_same (h' := fun _ => 0) (fun q _ => cvC_start _ _ _ _), rowL_zero]; exact ODH.out, X14.out, OM.out, FV.refl _ _ _ _, fun Q p h => absurd h (Nat.not_lt_zero _), List.nodup_nil, fun D h => by cases h⟩
        have X13H : Hid (Blk wH P13 3 #[.int .i64 (CH : Nat)]) := X13
        have X14H : Hid (Blk wH P14 90 #[.slice oM 0 qM]) := X14
        have HNE : Hid (P10 ≠ gD ∧ P10 ≠ P14 ∧ P12 ≠ gD ∧ P12 ≠ P14 ∧ P13 ≠ gD ∧ P13 ≠ P14 ∧ gD ≠ P14) := Lib.hid ⟨fun e => own_blk ODH.out X10H.out (by decide) (by rw [e]; rfl), blk_ne X10H.out X14.out (by decide), fun e => own_blk ODH.out X12H.out (by decide) (by rw [e]; rfl), blk_ne X12H.out X14.out (by decide), fun e => own_blk ODH.out X13.out (by decide) (by rw [e]; rfl), blk_ne X13.out X14.out (by decide), fun e => own_blk ODH.out X14.out (by decide) (by rw [← e]; rfl)⟩
        clear X13 X14
        refine wp_loop (fun a' W => ∃ (P : Nat) (ds : List Nat) (oN : Option Addr) (mN qN : Nat) (xs : List Value) (e15 e16 e109 e110 e111 e112 e113 e114 e115 e116 e117 e118 e119 e120 e121 e122 e123 e156 : Value), P ≤ Ct ∧ a' = { tmps := #[Value.agg #[Value.slice (some { block := bs, off := fs }) a.length c1, Value.slice (some { block := bd, off := fd }) da.length c2], Value.agg #[Value.slice (some { block := bt, off := ft }) a.length c3, Value.slice (some { block := be, off := fe }) db.length c4], Value.agg #[Value.slice oq zq cq, Value.slice os zs cs, Value.slice op zp cp, Value.slice ol zl cl], Value.int IntKind.i64 ↑f, Value.pointer (some { block := w.heap.size, off := 0 }), Value.pointer (some { block := w.heap.size + 1, off := 0 }), Value.pointer (some { block := w.heap.size + 2, off := 0 }), Value.pointer (some { block := w.heap.size + 3, off := 0 }), Value.pointer (some { block := w.heap.size + 4, off := 0 }), Value.pointer (some { block := w.heap.size + 5, off := 0 }), Value.pointer (some { block := P10, off := 0 }), Value.int IntKind.i64 0, Value.pointer (some { block := P12, off := 0 }), Value.pointer (some { block := P13, off := 0 }), Value.pointer (some { block := P14, off := 0 }), e15, e16, undef, undef, undef, undef, Value.agg #[Value.slice (some { block := bs, off := fs }) a.length c1, Value.slice (some { block := bd, off := fd }) da.length c2], Value.int IntKind.i64 0, Value.bool false, Value.bool false, Value.agg #[Value.slice (some { block := bt, off := ft }) a.length c3, Value.slice (some { block := be, off := fe }) db.length c4], Value.int IntKind.i64 0, Value.bool false, Value.bool false, Value.bool false, Value.int IntKind.i64 ↑f, Value.int IntKind.i64 0, Value.bool false, Value.bool false, Value.bool false, Value.agg #[Value.slice oq zq cq, Value.slice os zs cs, Value.slice op zp cp, Value.slice ol zl cl], Value.bool true, Value.bool false, Value.bool false, undef, Value.pointer (some { block := w.heap.size, off := 0 }), Value.slice (some { block := bs, off := fs }) a.length c1, Value.int IntKind.i64 ↑a.length, Value.bool false, Value.bool false, Value.pointer (some { block := w.heap.size + 1, off := 0 }), Value.slice (some { block := bt, off := ft }) a.length c3, Value.int IntKind.i64 ↑a.length, Value.pointer (some { block := w.heap.size, off := 0 }), Value.slice (some { block := bs, off := fs }) a.length c1, Value.int IntKind.i64 ↑a.length, Value.bool false, Value.bool false, Value.bool false, Value.pointer (some { block := w.heap.size + 1, off := 0 }), Value.slice (some { block := bt, off := ft }) a.length c3, Value.pointer (some { block := bt, off := ft + 1 }), Value.int IntKind.i64 ↑CH, Value.pointer (some { block := w.heap.size, off := 0 }), Value.slice (some { block := bs, off := fs }) a.length c1, Value.pointer (some { block := bs, off := fs + 1 }), Value.int IntKind.i64 ↑CH, Value.bool false, Value.bool false, undef, u65, u66, u67, u68, u69, u70, u71, u72, u73, u74, Value.int IntKind.i64 0, Value.bool false, undef, undef, u79, u80, u81, u82, u83, u84, u85, u86, u87, u88, u89, u90, u91, u92, u93, u94, Value.int IntKind.i64 0, Value.bool false, undef, undef, u99, u100, u101, u102, u103, u104, u105, Value.pointer (some { block := P10, off := 1 }), Value.int IntKind.i64 ↑Ct, Value.int IntKind.i64 (P : Nat), e109, e110, e111, e112, e113, e114, e115, e116, e117, e118, e119, e120, e121, e122, e123, undef, undef, undef, undef, undef, undef, undef, undef, undef, undef, undef, undef, undef, undef, undef, undef, undef, undef, undef, undef, undef, undef, undef, undef, undef, undef, undef, undef, undef, undef, undef, undef, e156, undef], defers := ds.map (fun D => { target := .collected D, args := #[] }) } ∧ Hid (CvL wE.heap.size wG.heap.size gD P14 (NX * NK * Ct) qD V NX NK Ct wH P ds oN mN qN xs W)) (fun a' _ => Ct - (intOf (a'.tmps.getD 108 undef)).toNat) ⟨0, [], oM, 0, qM, [], _, _, _, _, _, _, _, _, _, _, _, _, _, _, _, _, _, _, Nat.zero_le _, rfl, HL0⟩ ?_
        rintro a' W ⟨P, ds, oN, mN, qN, xs, e15, e16, e109, e110, e111, e112, e113, e114, e115, e116, e117, e118, e119, e120, e121, e122, e123, e156, hP, rfl, HL⟩
        have FH : Hid (FV wG.heap.size gD P14 wH W) := Lib.hid HL.out.2.2.2.1
        have LW : Hid (Below w6.heap.size w6 W) := Lib.hid (F6H.out.trans (FH.out.low F6H.out.size (by have := F8.out.size; have := F10.out.size; have := F12.out.size; omega) (by have := HGD.out; have := F8.out.size; have := F10.out.size; omega) (by have := H13.out.2; have := F8.out.size; have := F10.out.size; have := F12.out.size; omega)))
        have XW := Lib.hid (FH.out.blk X10H.out HNE.out.1 HNE.out.2.1 (by decide))
        by_cases hlt : P < Ct
        · have hb1 : (P : Int) < (Ct : Int) := by omega
          have hP6 : Ct ≤ 65536 := by
            have h1 := HN6.out
            have h2 : 1 ≤ NX * NK := Nat.mul_le_mul HNN.out.2.2.2.2.2.2.1 HNN.out.2.2.2.2.2.2.2.1
            have := Nat.mul_le_mul_right Ct h2
            omega
          have hs0 := fun wx : World => run_to (P := Try.prog) (t := 90) Try.underlying90 hiM oN mN qN 0 (Nat.zero_le _) wx
          simp only [Int.natCast_zero] at hs0
          have LP : Hid (Blk W P14 90 #[.slice oN mN qN]) := Lib.hid HL.out.2.1
          have CM : Hid (∀ X : World, X.ownsRow wG.heap.size 150 2 (.slice oN 0 qN) 0 [] → wG.heap.size ≤ X.heap.size → Calls Try.prog 56 #[.slice oN 0 qN, .agg #[.slice (some ⟨gP, 0, none⟩) Pl.length qP, .int .i64 (Ct : Nat), .int .i64 (Tp : Nat), .int .i64 (Wd : Nat), .int .i64 l0, .int .i64 n0, .int .i64 (K0 : Nat), .int .i64 s0, .int .i64 p0, .int .i64 d0, .int .i64 l1, .int .i64 n1, .int .i64 (K1 : Nat), .int .i64 s1, .int .i64 p1, .int .i64 d1], .int .i64 (P : Nat)] X fun e w' => ∃ v', e = .returned v' ∧ w'.ownsRow wG.heap.size 150 2 v' (mts (l0, n0, (K0 : Nat), s0, p0, d0) (l1, n1, (K1 : Nat), s1, p1, d1) ((P : Int) / n1) ((P : Int) % n1) K0 K1).length (mcells (mts (l0, n0, (K0 : Nat), s0, p0, d0) (l1, n1, (K1 : Nat), s1, p1, d1) ((P : Int) / n1) ((P : Int) % n1) K0 K1)) ∧ FM wG.heap.size X w') := Lib.hid (fun X ho hb => met_call _ _ _ Ct Tp Wd P K0 K1 l0 n0 s0 p0 d0 l1 n1 s1 p1 d1 HB0.out HB1.out HNN.out.1 HNN.out.2.1 hlt hP6 X ho hb)
          have O0 := Lib.hid (own_cut0 HL.out.2.2.1)
          have HWG : Hid (wG.heap.size ≤ W.heap.size) := Lib.hid (Nat.le_trans F13.out.size FH.out.2.2.2.1)
          have B0 : Hid (Below W.heap.size W W.drew) := Lib.hid (below_drw (Below.refl _ _) 1)
          go_upto_region 15 with fail
          refine wp_region_noPanic ?_
          refine wp_region_held_drew (S := fun X => Blk X P10 86 #[.slice (some ⟨gP, 0, none⟩) Pl.length qP, .int .i64 (Ct : Nat), .int .i64 (Tp : Nat), .int .i64 (Wd : Nat), .int .i64 l0, .int .i64 n0, .int .i64 (K0 : Nat), .int .i64 s0, .int .i64 p0, .int .i64 d0, .int .i64 l1, .int .i64 n1, .int .i64 (K1 : Nat), .int .i64 s1, .int .i64 p1, .int .i64 d1]) (by kernel_rfl) ?_ (fun hHeld => ?_)
          · exact XW.out.below B0.out XW.out.lt
          have hHd := hHeld
          generalize W.drew = wd at *
          (refine wpAnyH_take (i := 2) (oi := ⟨some 113, _, _, _, _, _⟩) (v := .agg #[.slice (some ⟨gP, 0, none⟩) Pl.length qP, .int .i64 (Ct : Nat), .int .i64 (Tp : Nat), .int .i64 (Wd : Nat), .int .i64 l0, .int .i64 n0, .int .i64 (K0 : Nat), .int .i64 s0, .int .i64 p0, .int .i64 d0, .int .i64 l1, .int .i64 n1, .int .i64 (K1 : Nat), .int .i64 s1, .int .i64 p1, .int .i64 d1]) rfl (by kernel_rfl) (by kernel_rfl) (by kernel_rfl) (fun _ _ _ h => h) (yields_row (by rfl) 86 _ rfl P10 rfl 86 _ _ (fun w h => h) Try.underlying86 rfl (by kernel_rfl)) (by assumption) ?_)
          (try simp only [Act.put, List.setIfInBounds_toArray, List.set_cons_zero, List.set_cons_succ])
          (refine wpAnyH_take (i := 3) (oi := ⟨some 114, _, _, _, _, _⟩) (v := ?v3_t2) rfl (by kernel_rfl) (by kernel_rfl) (by kernel_rfl) (fun _ _ _ h => h) (Or.inl ⟨by rfl, ?hy3_t2⟩) (by assumption) ?rest3_t2; (case hy3_t2 => ((intro w hSw); (try dsimp only at hSw); go_simp; first | done | (with_reducible rfl))))
          (try simp only [Act.put, List.setIfInBounds_toArray, List.set_cons_zero, List.set_cons_succ])
          refine wpAnyH_ready (rs := [0]) (by kernel_rfl) (by simp) ?_
          refine AllReadyH.cons (o := ⟨some 111, _, _, _, _, _⟩) rfl (fun K hK => ?_) (AllReadyH.nil)
          have lz0 := (LP.out.below B0.out LP.out.lt).cell 0
          go_simp
          refine hK.out _ _ ?_ (fun hHeld => ?_)
          · (try dsimp only)
            exact XW.out.below B0.out XW.out.lt
          clear hK K
          (try simp only [Act.put, List.setIfInBounds_toArray, List.set_cons_zero, List.set_cons_succ])
          (refine wpAnyH_take (i := 1) (oi := ⟨some 112, _, _, _, _, _⟩) (v := ?v1_t3) rfl (by kernel_rfl) (by kernel_rfl) (by kernel_rfl) (fun _ _ _ h => h) (Or.inl ⟨by rfl, ?hy1_t3⟩) (by assumption) ?rest1_t3; (case hy1_t3 => ((intro w hSw); (try dsimp only at hSw); go_simp; first | done | (with_reducible rfl))))
          (try simp only [Act.put, List.setIfInBounds_toArray, List.set_cons_zero, List.set_cons_succ])
          refine wpAnyH_ready (rs := [4]) (by kernel_rfl) (by simp) ?_
          refine AllReadyH.cons (o := ⟨some 115, _, _, _, _, _⟩) rfl (fun K hK => ?_) (AllReadyH.nil)
          go_simp
          (go_at_call 56; (with_reducible refine (CM.out _ (own_bel O0.out B0.out) (Nat.le_trans HWG.out B0.out.size)).mono ?_); rintro e w9 ⟨v9, rfl, ho9, hf9⟩)
          obtain ⟨o9, q9, rfl⟩ := own_form ho9
          have H9 := Lib.hid (And.intro ho9 hf9)
          have L9 := Lib.hid (hf9.blk (LP.out.below B0.out LP.out.lt) (by decide))
          have XW9 := Lib.hid (hf9.blk (XW.out.below B0.out XW.out.lt) (by decide))
          clear ho9 hf9
          refine hK.out _ _ ?_ (fun hHeld => ?_)
          · (try dsimp only)
            exact XW9.out
          clear hK K
          (try simp only [Act.put, List.setIfInBounds_toArray, List.set_cons_zero, List.set_cons_succ])
          refine wpAnyH_ready (rs := [5]) (by kernel_rfl) (by simp) ?_
          refine AllReadyH.cons (o := ⟨none, _, _, _, _, _⟩) rfl (fun K hK => ?_) (AllReadyH.nil)
          have lz1 := L9.out.cell 0
          have fz1 := L9.out.frozen 0
          go_simp
          refine hK.out _ _ ?_ (fun hHeld => ?_)
          · (try dsimp only)
            exact XW9.out.far (p := ⟨P14, 0, none⟩) HNE.out.2.1 _
          clear hK K
          (try simp only [Act.put, List.setIfInBounds_toArray, List.set_cons_zero, List.set_cons_succ])
          refine wpAnyH_done (by kernel_rfl) ?_ _
          refine NoPanic.normal ?_
          obtain ⟨wK, hwK⟩ : ∃ X, X = w9.setCell ⟨P14, 0, none⟩ (.slice o9 (mts (l0, n0, (K0 : Nat), s0, p0, d0) (l1, n1, (K1 : Nat), s1, p1, d1) ((P : Int) / n1) ((P : Int) % n1) K0 K1).length q9) := ⟨_, rfl⟩
          have FVK : Hid (FV wG.heap.size gD P14 wH wK) := Lib.hid (by rw [hwK]; exact ((FH.out.trans (FV.below B0.out)).trans (FV.fm H9.out.2)).set P14 0 _ (.inr rfl))
          have LPK : Hid (Blk wK P14 90 #[.slice o9 (mts (l0, n0, (K0 : Nat), s0, p0, d0) (l1, n1, (K1 : Nat), s1, p1, d1) ((P : Int) / n1) ((P : Int) % n1) K0 K1).length q9]) := Lib.hid (by rw [hwK]; exact L9.out.set_ 0 _)
          have OMK : Hid (wK.ownsRow wG.heap.size 150 2 (.slice o9 (mts (l0, n0, (K0 : Nat), s0, p0, d0) (l1, n1, (K1 : Nat), s1, p1, d1) ((P : Int) / n1) ((P : Int) % n1) K0 K1).length q9) (mts (l0, n0, (K0 : Nat), s0, p0, d0) (l1, n1, (K1 : Nat), s1, p1, d1) ((P : Int) / n1) ((P : Int) % n1) K0 K1).length (mcells (mts (l0, n0, (K0 : Nat), s0, p0, d0) (l1, n1, (K1 : Nat), s1, p1, d1) ((P : Int) / n1) ((P : Int) % n1) K0 K1))) := Lib.hid (by rw [hwK]; exact own_set2 H9.out.1 L9.out (by decide))
          have ODK : Hid (wK.ownsRow wE.heap.size 2 1 (.slice (some ⟨gD, 0, none⟩) (NX * NK * Ct) qD) (NX * NK * Ct) (ints (rowL (cvC (fun P j => tw (V P (j / NK, j % NK))) (fun _ => 0) Ct P 0) (NX * NK * Ct)))) := Lib.hid (by rw [hwK]; exact own_setx (H9.out.2.own (own_bel HL.out.1 B0.out) (by decide)) L9.out (by decide))
          have DSK : Hid (∀ D ∈ ds, wH.heap.size ≤ D ∧ wK.heap[D]? = some (.deferred (some []))) := Lib.hid (fun D hD => by
            obtain ⟨d1, d2⟩ := HL.out.2.2.2.2.2.2 D hD
            refine ⟨d1, ?_⟩
            have e1 := (B0.out.block D (Array.getElem?_eq_some_iff.1 d2).1).trans d2
            have e2 := H9.out.2.2.2.2.2 D _ e1 (.inr (fun _ _ e => by cases e))
            rw [hwK]
            refine (Below.heap_setCell _ _ _ D (fun e => ?_)).trans e2
            have k := L9.out
            rw [show D = P14 from e] at e2
            unfold Blk at k
            rw [k] at e2; cases e2)
          have LK : Hid (Below w6.heap.size w6 wK) := Lib.hid (F6H.out.trans (FVK.out.low F6H.out.size (by have := F8.out.size; have := F10.out.size; have := F12.out.size; omega) (by have := HGD.out; have := F8.out.size; have := F10.out.size; omega) (by have := H13.out.2; have := F8.out.size; have := F10.out.size; have := F12.out.size; omega)))
          have XK := Lib.hid (FVK.out.blk X10H.out HNE.out.1 HNE.out.2.1 (by decide))
          have X13K := Lib.hid (FVK.out.blk X13H.out HNE.out.2.2.2.2.1 HNE.out.2.2.2.2.2.1 (by decide))
          have X12K := Lib.hid (FVK.out.blk X12H.out HNE.out.2.2.1 HNE.out.2.2.2.1 (by decide))
          have HWK := Lib.hid hwK
          clear hwK hHd hHeld B0 LP LW XW CM O0 XW9 L9 H9 lz0 lz1 fz1 hs0
          obtain ⟨P16, hP16⟩ : ∃ x, x = wK.heap.size := ⟨_, rfl⟩
          obtain ⟨w17, hw17⟩ : ∃ X, X = wK.alloc (.cells #[.int .i64 (P : Nat)] 3) := ⟨_, rfl⟩
          have B17 : Hid (Below wK.heap.size wK w17) := Lib.hid (by rw [hw17]; exact (Below.refl _ _).alloc (Nat.le_refl _) _)
          have X16 : Hid (Blk w17 P16 3 #[.int .i64 (P : Nat)]) := Lib.hid (by rw [hw17, hP16]; exact Blk.new _ _ _)
          have Z17 : Hid (w17.heap.size = P16 + 1 ∧ P16 = wK.heap.size) := Lib.hid (by rw [hw17, hP16]; exact ⟨World.size_alloc _ _, rfl⟩)
          have HW17 := Lib.hid hw17
          have HP16 := Lib.hid hP16
          clear hw17 hP16
          obtain ⟨dW, hdW⟩ : ∃ x, x = CH * Wd := ⟨_, rfl⟩
          have hdW1 : 1 ≤ dW := by rw [hdW]; exact Nat.mul_le_mul HNN.out.2.2.2.2.2.2.2.2.1 HNN.out.2.2.2.2.2.2.2.2.2.1
          have hdl : da.length = NX * dW := by rw [hdW]; exact HNN.out.2.2.2.2.1
          have hdl6 : NX * dW ≤ 65536 := by rw [← hdl]; exact HDD6.out.1
          have hdW6 : dW ≤ 65536 := by have := Nat.mul_le_mul_right dW HNN.out.2.2.2.2.2.2.1; omega
          have ew : wrap64 ((CH : Int) * (Wd : Int)) = (dW : Int) := by
            rw [show (CH : Int) * (Wd : Int) = (dW : Int) by rw [hdW]; push_cast; rfl]
            exact IntWalk.wrap64_in _ (by omega)
          have HDW := Lib.hid (And.intro hdW (And.intro hdl (And.intro hdl6 hdW1)))
          have KCH := Lib.hid (fun (X : World) => chunk_any bd fd da.length c2 dW hdW1 X)
          clear hdW hdl hdl6
          go_upto_region 16 with fail
          rw [← HWK.out]
          go_upto_region 17 with fail
          rw [← HW17.out, ← HP16.out]
          have y1 : w17.cell? ⟨w.heap.size, 1, none⟩ = some (.slice (some ⟨bd, fd, none⟩) da.length c2) := (Q0.out.below (LK.out.trans (B17.out.mono LK.out.size)) Q0.out.lt).cell 1
          have y2 : w17.cell? ⟨P13, 0, none⟩ = some (.int .i64 (CH : Nat)) := (X13K.out.below B17.out X13K.out.lt).cell 0
          have y3 : w17.cell? ⟨P10, 3, none⟩ = some (.int .i64 (Wd : Nat)) := (XK.out.below B17.out XK.out.lt).cell 3
          go_wp2_with (go_at_call 57; (with_reducible refine (KCH.out _).mono ?_); rintro e w' ⟨rfl, rfl⟩)
          clear y1 y2 y3 ew KCH
          obtain ⟨W0, hW0⟩ : ∃ W0, W0 = (w17.alloc (.cells #[.slice (some ⟨bd, fd, none⟩) da.length c2] 24)).alloc (.cells #[.int .i64 (dW : Nat)] 3) := ⟨_, rfl⟩
          obtain ⟨C1, hC1⟩ : ∃ C, C = w17.heap.size := ⟨_, rfl⟩
          rw [← hW0, ← hC1]
          have E0 : Hid (W0.heap.size = C1 + 2 ∧ C1 = P16 + 1 ∧ P16 = wK.heap.size) := Lib.hid (by rw [hW0, hC1, World.size_alloc, World.size_alloc]; exact ⟨rfl, Z17.out.1, Z17.out.2⟩)
          have G0 : Hid (Below w17.heap.size w17 W0) := Lib.hid (by rw [hW0]; exact ((Below.refl _ _).alloc (Nat.le_refl _) _).alloc (by simp) _)
          have Y1 : Hid (Boxed W0 C1 24 (.slice (some ⟨bd, fd, none⟩) (NX * dW) c2)) := Lib.hid (by rw [hW0, hC1, ← HDW.out.2.1]; exact (Boxed.new w17 _ _).alloc _)
          have Y2 : Hid (Boxed W0 (C1 + 1) 3 (.int .i64 (dW : Nat))) := Lib.hid (by
            rw [hW0, hC1]
            have q := Boxed.new (w17.alloc (.cells #[.slice (some ⟨bd, fd, none⟩) da.length c2] 24)) 3 (.int .i64 (dW : Nat))
            rwa [World.size_alloc] at q)
          have GK : Hid (Below wK.heap.size wK W0) := Lib.hid (B17.out.trans (G0.out.mono B17.out.size))
          have V16 := Lib.hid (X16.out.below G0.out X16.out.lt)
          have VD := Lib.hid (own_bel ODK.out GK.out)
          have VM := Lib.hid (own_bel OMK.out GK.out)
          have VP := Lib.hid (LPK.out.below GK.out LPK.out.lt)
          have V10 := Lib.hid (XK.out.below GK.out XK.out.lt)
          have V12 := Lib.hid (X12K.out.below GK.out X12K.out.lt)
          have V13 := Lib.hid (X13K.out.below GK.out X13K.out.lt)
          have L0 : Hid (Below w6.heap.size w6 W0) := Lib.hid (LK.out.trans (GK.out.mono LK.out.size))
          clear hW0 hC1 B17 X16 Z17 HW17 HP16 HWK G0
          refine (wpIn_wide (n := 14)).1 ?_
          have HL5 := Lib.hid HL.out.2.2.2.2.1
          have HCP : Hid (NX * dW ≤ c2) := Lib.hid (by rw [← HDW.out.2.1]; exact HCAP.out.1)
          have HSB : Hid (w.heap.size + 6 ≤ W0.heap.size) := Lib.hid (by have := L0.out.size; have := S6.out; omega)
          have R0 : Hid (CvR wE.heap.size gD P16 (NX * NK * Ct) qD V NK Ct P W0 [] W0) := Lib.hid ⟨by have q := VD.out; rw [rowL_same (h' := cvC (fun P j => tw (V P (j / NK, j % NK))) (fun j => tw (V P (([] : List (Nat × Nat)).getD j (0, 0)))) Ct P 0) (fun q _ => cvC_zero _ _ _ Ct P q)] at q; exact q, by simpa using V16.out, FZ.refl _ _ _, fun p h => by cases h⟩
          refine wpIn_rangeFunc_ownH (F := Fence.wide) (n := 14) rfl (by decide) (gf := 99) (lb := #[.pointer (some ⟨C1, 0, none⟩), .pointer (some ⟨C1 + 1, 0, none⟩)]) rfl trivial (enters_of Try.func99 (by kernel_rfl) rfl)
            (chunk_stops 13 (by decide) C1 (C1 + 1) bd fd dW NX c2 HDW.out.2.2.2 HDW.out.2.2.1 HCP.out W0 Y1.out Y2.out)
            Kp2.trans (Kp2.put (by have := E0.out; omega) (by have := E0.out; omega)) (Below.refl _ _) (fun _ => rfl)
            (fun pre X => CvR wE.heap.size gD P16 (NX * NK * Ct) qD V NK Ct P W0 (prs NK (pre.map (fun x : Fin NX => x.1))) X)
            (fun c _ X => c = .ret ∧ CvE w V NX NK P X ∧ KeepsFrom 0 W0 X)
            ?ownI ?ownX R0.out
            (fun x a' X => ∃ Bx, W0.heap.size ≤ Bx ∧ Boxed X Bx 24 (.slice (some ⟨bd, fd + x.1 * dW, none⟩) dW dW) ∧ a' = { tmps := #[Value.agg #[Value.slice (some { block := bs, off := fs }) a.length c1, Value.slice (some { block := bd, off := fd }) da.length c2], Value.agg #[Value.slice (some { block := bt, off := ft }) a.length c3, Value.slice (some { block := be, off := fe }) db.length c4], Value.agg #[Value.slice oq zq cq, Value.slice os zs cs, Value.slice op zp cp, Value.slice ol zl cl], Value.int IntKind.i64 ↑f, Value.pointer (some { block := w.heap.size, off := 0 }), Value.pointer (some { block := w.heap.size + 1, off := 0 }), Value.pointer (some { block := w.heap.size + 2, off := 0 }), Value.pointer (some { block := w.heap.size + 3, off := 0 }), Value.pointer (some { block := w.heap.size + 4, off := 0 }), Value.pointer (some { block := w.heap.size + 5, off := 0 }), Value.pointer (some { block := P10, off := 0 }), Value.int IntKind.i64 0, Value.pointer (some { block := P12, off := 0 }), Value.pointer (some { block := P13, off := 0 }), Value.pointer (some { block := P14, off := 0 }), Value.int IntKind.i64 ↑P, Value.pointer (some { block := P16, off := 0 }), Value.pointer (some { block := Bx, off := 0 }), undef, undef, undef, Value.agg #[Value.slice (some { block := bs, off := fs }) a.length c1, Value.slice (some { block := bd, off := fd }) da.length c2], Value.int IntKind.i64 0, Value.bool false, Value.bool false, Value.agg #[Value.slice (some { block := bt, off := ft }) a.length c3, Value.slice (some { block := be, off := fe }) db.length c4], Value.int IntKind.i64 0, Value.bool false, Value.bool false, Value.bool false, Value.int IntKind.i64 ↑f, Value.int IntKind.i64 0, Value.bool false, Value.bool false, Value.bool false, Value.agg #[Value.slice oq zq cq, Value.slice os zs cs, Value.slice op zp cp, Value.slice ol zl cl], Value.bool true, Value.bool false, Value.bool false, undef, Value.pointer (some { block := w.heap.size, off := 0 }), Value.slice (some { block := bs, off := fs }) a.length c1, Value.int IntKind.i64 ↑a.length, Value.bool false, Value.bool false, Value.pointer (some { block := w.heap.size + 1, off := 0 }), Value.slice (some { block := bt, off := ft }) a.length c3, Value.int IntKind.i64 ↑a.length, Value.pointer (some { block := w.heap.size, off := 0 }), Value.slice (some { block := bs, off := fs }) a.length c1, Value.int IntKind.i64 ↑a.length, Value.bool false, Value.bool false, Value.bool false, Value.pointer (some { block := w.heap.size + 1, off := 0 }), Value.slice (some { block := bt, off := ft }) a.length c3, Value.pointer (some { block := bt, off := ft + 1 }), Value.int IntKind.i64 ↑CH, Value.pointer (some { block := w.heap.size, off := 0 }), Value.slice (some { block := bs, off := fs }) a.length c1, Value.pointer (some { block := bs, off := fs + 1 }), Value.int IntKind.i64 ↑CH, Value.bool false, Value.bool false, undef, u65, u66, u67, u68, u69, u70, u71, u72, u73, u74, Value.int IntKind.i64 0, Value.bool false, undef, undef, u79, u80, u81, u82, u83, u84, u85, u86, u87, u88, u89, u90, u91, u92, u93, u94, Value.int IntKind.i64 0, Value.bool false, undef, undef, u99, u100, u101, u102, u103, u104, u105, Value.pointer (some { block := P10, off := 1 }), Value.int IntKind.i64 ↑Ct, Value.int IntKind.i64 ↑P, Value.bool true, Value.int IntKind.i64 ↑P, Value.slice oN mN qN, Value.slice oN 0 qN, Value.agg #[Value.slice (some { block := gP, off := 0 }) Pl.length qP, Value.int IntKind.i64 ↑Ct, Value.int IntKind.i64 ↑Tp, Value.int IntKind.i64 ↑Wd, Value.int IntKind.i64 l0, Value.int IntKind.i64 n0, Value.int IntKind.i64 ↑K0, Value.int IntKind.i64 s0, Value.int IntKind.i64 p0, Value.int IntKind.i64 d0, Value.int IntKind.i64 l1, Value.int IntKind.i64 n1, Value.int IntKind.i64 ↑K1, Value.int IntKind.i64 s1, Value.int IntKind.i64 p1, Value.int IntKind.i64 d1], Value.int IntKind.i64 ↑P, Value.slice o9 (mts (l0, n0, ↑K0, s0, p0, d0) (l1, n1, ↑K1, s1, p1, d1) (↑P / n1) (↑P % n1) K0 K1).length q9, Value.int IntKind.i64 ↑P, Value.pointer (some { block := w.heap.size, off := 1 }), Value.slice (some { block := bd, off := fd }) da.length c2, Value.int IntKind.i64 ↑CH, Value.pointer (some { block := P10, off := 3 }), Value.int IntKind.i64 ↑Wd, Value.int IntKind.i64 ↑dW, Value.func (Fn.func 99) #[] #[Value.pointer (some { block := C1, off := 0 }), Value.pointer (some { block := C1 + 1, off := 0 })], Value.slice (some { block := bd, off := fd + x.1 * dW }) dW dW, undef, undef, undef, undef, undef, undef, undef, undef, undef, undef, undef, undef, undef, undef, undef, undef, undef, undef, undef, undef, undef, undef, undef, undef, undef, undef, undef, undef, undef, undef, undef, e156, undef], defers := [] })
            ?ownA ?assign ?body ?done ?stop
          case ownI => exact CvR.own (fun pre : List (Fin NX) => prs NK (pre.map (fun x : Fin NX => x.1))) _ (Nat.le_refl _)
          case ownX =>
            rintro c s X Y row ⟨e, h, h2⟩ hg hr
            exact ⟨e, CvE.own (α := Unit) W0.heap.size (by have := HSB.out; omega) () X Y row h hg hr, ownFrom_keepsFrom (β := Unit) (Nat.le_refl _) () X Y row h2 hg hr⟩
          case ownA => exact fun x a' _ X Y row hs hg hr => by obtain ⟨Bx, h1, h2, h3⟩ := hs; exact ⟨Bx, h1, boxed_own Bx 24 (fun (_ : Unit) => _) () X Y row h2 hg (fun r e => (hr r e).2), h3⟩
          case assign =>
            rintro l pre x X K HR hK
            unfold pck
            have q : Below X.heap.size X (X.alloc (.cells #[.slice (some ⟨bd, fd + x.1 * dW, none⟩) dW dW] 24)) := (Below.refl _ _).alloc (Nat.le_refl _) _
            have QQ := Lib.hid (And.intro q HR)
            clear q HR
            gi_wp2
            have q := QQ.out.1
            have HR := QQ.out.2
            have e0 := E0.out
            have z := HR.2.2.1.2.2.2.1
            exact hK _ _ (keeps_below _ q) ⟨q.block _ (by omega), q.block _ (by omega)⟩ (HR.below q) ⟨X.heap.size, z, Boxed.new X 24 _, rfl⟩
          case body =>
            rintro l2 pre x a' X hl ⟨r, hr⟩ HR ⟨Bx, hBx, bX, rfl⟩ hlx
            have hsz : w6.heap.size ≤ gD ∧ w6.heap.size ≤ P16 := ⟨by have := HGD.out; have := F8.out.size; have := F10.out.size; omega, by have := E0.out; have := LK.out.size; omega⟩
            have hlt16 : P10 ≠ P16 ∧ P12 ≠ P16 ∧ P13 ≠ P16 ∧ P14 ≠ P16 := ⟨fun e => by have := XK.out.lt; have := E0.out; omega, fun e => by have := X12K.out.lt; have := E0.out; omega, fun e => by have := X13K.out.lt; have := E0.out; omega, fun e => by have := LPK.out.lt; have := E0.out; omega⟩
            have GET : Hid (∀ Z, FZ gD P16 W0 Z → (Below w6.heap.size w6 Z ∧ Blk Z P10 86 #[.slice (some ⟨gP, 0, none⟩) Pl.length qP, .int .i64 (Ct : Nat), .int .i64 (Tp : Nat), .int .i64 (Wd : Nat), .int .i64 l0, .int .i64 n0, .int .i64 (K0 : Nat), .int .i64 s0, .int .i64 p0, .int .i64 d0, .int .i64 l1, .int .i64 n1, .int .i64 (K1 : Nat), .int .i64 s1, .int .i64 p1, .int .i64 d1] ∧ Blk Z P12 26 #[.slice oS SH.length qS, .slice (some ⟨gD, 0, none⟩) (NX * NK * Ct) qD] ∧ Blk Z P13 3 #[.int .i64 (CH : Nat)] ∧ Blk Z P14 90 #[.slice o9 (mts (l0, n0, (K0 : Nat), s0, p0, d0) (l1, n1, (K1 : Nat), s1, p1, d1) ((P : Int) / n1) ((P : Int) % n1) K0 K1).length q9]) ∧ Z.ownsRow wG.heap.size 150 2 (.slice o9 (mts (l0, n0, (K0 : Nat), s0, p0, d0) (l1, n1, (K1 : Nat), s1, p1, d1) ((P : Int) / n1) ((P : Int) % n1) K0 K1).length q9) (mts (l0, n0, (K0 : Nat), s0, p0, d0) (l1, n1, (K1 : Nat), s1, p1, d1) ((P : Int) / n1) ((P : Int) % n1) K0 K1).length (mcells (mts (l0, n0, (K0 : Nat), s0, p0, d0) (l1, n1, (K1 : Nat), s1, p1, d1) ((P : Int) / n1) ((P : Int) % n1) K0 K1))) := Lib.hid (fun Z z =>
              ⟨⟨L0.out.trans (z.low L0.out.size hsz.1 hsz.2), z.blk V10.out HNE.out.1 hlt16.1, z.blk V12.out HNE.out.2.2.1 hlt16.2.1, z.blk V13.out HNE.out.2.2.2.2.1 hlt16.2.2.1, z.blk VP.out HNE.out.2.2.2.2.2.2.symm hlt16.2.2.2⟩, z.own VM.out (own_ne VM.out VD.out (by decide)) (own_blk VM.out V16.out (by decide))⟩)
            clear hsz hlt16
            obtain ⟨⟨LX, X10', X12', X13', XP'⟩, _⟩ := GET.out X HR.2.2.1
            have y1 : X.cell? ⟨w.heap.size + 1, 1, none⟩ = some (.slice (some ⟨be, fe, none⟩) db.length c4) := (Q1.out.below LX Q1.out.lt).cell 1
            have y2 : X.cell? ⟨P13, 0, none⟩ = some (.int .i64 (CH : Nat)) := X13'.cell 0
            have y3 : X.cell? ⟨P10, 2, none⟩ = some (.int .i64 (Tp : Nat)) := X10'.cell 2
            clear LX X10' X12' X13' XP'
            obtain ⟨dT, hdT⟩ : ∃ x, x = CH * Tp := ⟨_, rfl⟩
            have hdT1 : 1 ≤ dT := by rw [hdT]; exact Nat.mul_le_mul HNN.out.2.2.2.2.2.2.2.2.1 hTp.1
            have hel : db.length = NK * dT := by rw [hdT]; exact HNN.out.2.2.2.2.2.1
            have hel6 : NK * dT ≤ 65536 := by rw [← hel]; exact HDD6.out.2
            have hdT6 : dT ≤ 65536 := by have := Nat.mul_le_mul_right dT HNN.out.2.2.2.2.2.2.2.1; omega
            have ew : wrap64 ((CH : Int) * (Tp : Int)) = (dT : Int) := by
              rw [show (CH : Int) * (Tp : Int) = (dT : Int) by rw [hdT]; push_cast; rfl]
              exact IntWalk.wrap64_in _ (by omega)
            have HDT := Lib.hid (And.intro hdT (And.intro hel (And.intro hel6 hdT1)))
            have KCT := Lib.hid (fun (Z : World) => chunk_any be fe db.length c4 dT hdT1 Z)
            have HX := Lib.hid (And.intro HR (And.intro hBx (And.intro bX hlx)))
            clear hdT hel hel6 HR hBx bX hlx
            gi_wp2_with (refine And.intro trivial ?_; (with_reducible refine CallsIn.mono (CallsIn.inRound _ (callsIn_wide.2 (KCT.out _))) ?_); rintro e w' ⟨rfl, rfl⟩)
            clear y1 y2 y3 ew KCT
            obtain ⟨V0, hV0⟩ : ∃ Z, Z = (X.alloc (.cells #[.slice (some ⟨be, fe, none⟩) db.length c4] 24)).alloc (.cells #[.int .i64 (dT : Nat)] 3) := ⟨_, rfl⟩
            obtain ⟨D1, hD1⟩ : ∃ d, d = X.heap.size := ⟨_, rfl⟩
            rw [← hV0, ← hD1]
            have E1 : Hid (V0.heap.size = D1 + 2 ∧ D1 = X.heap.size) := Lib.hid (by rw [hV0, hD1, World.size_alloc, World.size_alloc]; exact ⟨rfl, rfl⟩)
            have KV : Hid (Below X.heap.size X V0) := Lib.hid (by rw [hV0]; exact ((Below.refl _ _).alloc (Nat.le_refl _) _).alloc (by simp) _)
            have U1 : Hid (Boxed V0 D1 24 (.slice (some ⟨be, fe, none⟩) (NK * dT) c4)) := Lib.hid (by rw [hV0, hD1, ← HDT.out.2.1]; exact (Boxed.new X _ _).alloc _)
            have U2 : Hid (Boxed V0 (D1 + 1) 3 (.int .i64 (dT : Nat))) := Lib.hid (by
              rw [hV0, hD1]
              have q := Boxed.new (X.alloc (.cells #[.slice (some ⟨be, fe, none⟩) db.length c4] 24)) 3 (.int .i64 (dT : Nat))
              rwa [World.size_alloc] at q)
            clear hV0 hD1
            have HCT : Hid (NK * dT ≤ c4) := Lib.hid (by rw [← HDT.out.2.1]; exact HCAP.out.2)
            have hr' : V0.heap[l2]? = some (.loop r) := (KV.out.block l2 (Array.getElem?_eq_some_iff.1 hr).1).trans hr
            have HS2 : Hid (W0.heap.size ≤ X.heap.size ∧ X.heap.size ≤ V0.heap.size) := Lib.hid ⟨HX.out.1.2.2.1.2.2.2.1, KV.out.size⟩
            obtain ⟨l0', hl0'⟩ : ∃ l, l = prs NK (pre.map (fun x : Fin NX => x.1)) := ⟨_, rfl⟩
            have HL0 := Lib.hid hl0'
            rw [← hl0'] at HX
            clear hl0'
            refine wpIn_rangeFunc_ownN (l₀ := l2) (r₀ := r) rfl hr' (by decide) (gf := 99) (lb := #[.pointer (some ⟨D1, 0, none⟩), .pointer (some ⟨D1 + 1, 0, none⟩)]) rfl trivial (enters_of Try.func99 (by kernel_rfl) rfl)
              ((chunk_stops 11 (by decide) D1 (D1 + 1) be fe dT NK c4 HDT.out.2.2.2 HDT.out.2.2.1 HCT.out V0 U1.out U2.out).inRound l2)
              Kp2.trans (Kp2.put (by have := E1.out; omega) (by have := E1.out; omega)) (Below.refl _ _) (fun _ => rfl)
              (fun pre2 Y => CvR wE.heap.size gD P16 (NX * NK * Ct) qD V NK Ct P W0 (l0' ++ pre2.map (fun y : Fin NK => (x.1, y.1))) Y ∧ (Boxed Y Bx 24 (.slice (some ⟨bd, fd + x.1 * dW, none⟩) dW dW) ∧ Boxed Y D1 24 (.slice (some ⟨be, fe, none⟩) (NK * dT) c4) ∧ Boxed Y (D1 + 1) 3 (.int .i64 (dT : Nat))) ∧ Kp2 C1 (C1 + 1) X Y ∧ KeepsFrom W0.heap.size X Y ∧ V0.heap.size ≤ Y.heap.size)
              (fun c _ Y => (c = .ret ∧ CvE w V NX NK P Y ∧ KeepsFrom 0 W0 Y) ∧ KeepsFrom W0.heap.size X Y)
              ?ownI2 ?ownX2 ?i2
              (fun y a'' _ => a'' = { tmps := #[Value.agg #[Value.slice (some { block := bs, off := fs }) a.length c1, Value.slice (some { block := bd, off := fd }) da.length c2], Value.agg #[Value.slice (some { block := bt, off := ft }) a.length c3, Value.slice (some { block := be, off := fe }) db.length c4], Value.agg #[Value.slice oq zq cq, Value.slice os zs cs, Value.slice op zp cp, Value.slice ol zl cl], Value.int IntKind.i64 ↑f, Value.pointer (some { block := w.heap.size, off := 0 }), Value.pointer (some { block := w.heap.size + 1, off := 0 }), Value.pointer (some { block := w.heap.size + 2, off := 0 }), Value.pointer (some { block := w.heap.size + 3, off := 0 }), Value.pointer (some { block := w.heap.size + 4, off := 0 }), Value.pointer (some { block := w.heap.size + 5, off := 0 }), Value.pointer (some { block := P10, off := 0 }), Value.int IntKind.i64 0, Value.pointer (some { block := P12, off := 0 }), Value.pointer (some { block := P13, off := 0 }), Value.pointer (some { block := P14, off := 0 }), Value.int IntKind.i64 ↑P, Value.pointer (some { block := P16, off := 0 }), Value.pointer (some { block := Bx, off := 0 }), Value.slice (some { block := be, off := fe + y.1 * dT }) dT dT, undef, undef, Value.agg #[Value.slice (some { block := bs, off := fs }) a.length c1, Value.slice (some { block := bd, off := fd }) da.length c2], Value.int IntKind.i64 0, Value.bool false, Value.bool false, Value.agg #[Value.slice (some { block := bt, off := ft }) a.length c3, Value.slice (some { block := be, off := fe }) db.length c4], Value.int IntKind.i64 0, Value.bool false, Value.bool false, Value.bool false, Value.int IntKind.i64 ↑f, Value.int IntKind.i64 0, Value.bool false, Value.bool false, Value.bool false, Value.agg #[Value.slice oq zq cq, Value.slice os zs cs, Value.slice op zp cp, Value.slice ol zl cl], Value.bool true, Value.bool false, Value.bool false, undef, Value.pointer (some { block := w.heap.size, off := 0 }), Value.slice (some { block := bs, off := fs }) a.length c1, Value.int IntKind.i64 ↑a.length, Value.bool false, Value.bool false, Value.pointer (some { block := w.heap.size + 1, off := 0 }), Value.slice (some { block := bt, off := ft }) a.length c3, Value.int IntKind.i64 ↑a.length, Value.pointer (some { block := w.heap.size, off := 0 }), Value.slice (some { block := bs, off := fs }) a.length c1, Value.int IntKind.i64 ↑a.length, Value.bool false, Value.bool false, Value.bool false, Value.pointer (some { block := w.heap.size + 1, off := 0 }), Value.slice (some { block := bt, off := ft }) a.length c3, Value.pointer (some { block := bt, off := ft + 1 }), Value.int IntKind.i64 ↑CH, Value.pointer (some { block := w.heap.size, off := 0 }), Value.slice (some { block := bs, off := fs }) a.length c1, Value.pointer (some { block := bs, off := fs + 1 }), Value.int IntKind.i64 ↑CH, Value.bool false, Value.bool false, undef, u65, u66, u67, u68, u69, u70, u71, u72, u73, u74, Value.int IntKind.i64 0, Value.bool false, undef, undef, u79, u80, u81, u82, u83, u84, u85, u86, u87, u88, u89, u90, u91, u92, u93, u94, Value.int IntKind.i64 0, Value.bool false, undef, undef, u99, u100, u101, u102, u103, u104, u105, Value.pointer (some { block := P10, off := 1 }), Value.int IntKind.i64 ↑Ct, Value.int IntKind.i64 ↑P, Value.bool true, Value.int IntKind.i64 ↑P, Value.slice oN mN qN, Value.slice oN 0 qN, Value.agg #[Value.slice (some { block := gP, off := 0 }) Pl.length qP, Value.int IntKind.i64 ↑Ct, Value.int IntKind.i64 ↑Tp, Value.int IntKind.i64 ↑Wd, Value.int IntKind.i64 l0, Value.int IntKind.i64 n0, Value.int IntKind.i64 ↑K0, Value.int IntKind.i64 s0, Value.int IntKind.i64 p0, Value.int IntKind.i64 d0, Value.int IntKind.i64 l1, Value.int IntKind.i64 n1, Value.int IntKind.i64 ↑K1, Value.int IntKind.i64 s1, Value.int IntKind.i64 p1, Value.int IntKind.i64 d1], Value.int IntKind.i64 ↑P, Value.slice o9 (mts (l0, n0, ↑K0, s0, p0, d0) (l1, n1, ↑K1, s1, p1, d1) (↑P / n1) (↑P % n1) K0 K1).length q9, Value.int IntKind.i64 ↑P, Value.pointer (some { block := w.heap.size, off := 1 }), Value.slice (some { block := bd, off := fd }) da.length c2, Value.int IntKind.i64 ↑CH, Value.pointer (some { block := P10, off := 3 }), Value.int IntKind.i64 ↑Wd, Value.int IntKind.i64 ↑dW, Value.func (Fn.func 99) #[] #[Value.pointer (some { block := C1, off := 0 }), Value.pointer (some { block := C1 + 1, off := 0 })], Value.slice (some { block := bd, off := fd + x.1 * dW }) dW dW, Value.pointer (some { block := w.heap.size + 1, off := 1 }), Value.slice (some { block := be, off := fe }) db.length c4, Value.int IntKind.i64 ↑CH, Value.pointer (some { block := P10, off := 2 }), Value.int IntKind.i64 ↑Tp, Value.int IntKind.i64 ↑dT, Value.func (Fn.func 99) #[] #[Value.pointer (some { block := D1, off := 0 }), Value.pointer (some { block := D1 + 1, off := 0 })], Value.slice (some { block := be, off := fe + y.1 * dT }) dT dT, undef, undef, undef, undef, undef, undef, undef, undef, undef, undef, undef, undef, undef, undef, undef, undef, undef, undef, undef, undef, undef, undef, undef, e156, undef], defers := [] })
              (fun _ _ _ _ _ _ hs _ _ => hs) ?assign2 ?body2 ?done2 ?stop2
            case ownI2 =>
              rintro s Y Z row ⟨a1, ⟨a2, a3, a4⟩, a5, a6, a7⟩ hg hr3
              have hc : ∀ r, row = some r → ∃ o : Obj, Y.heap[r]? = some o ∧ o.isCells = false := fun r e => (hr3 r e).2
              have z := HS2.out
              have e0 := E0.out
              have g1 : C1 + 1 < V0.heap.size := by omega
              exact ⟨CvR.own (fun _ : Unit => _) V0.heap.size (by omega) () Y Z row a1 hg hr3, ⟨boxed_own Bx 24 (fun (_ : Unit) => _) () Y Z row a2 hg hc, boxed_own D1 24 (fun (_ : Unit) => _) () Y Z row a3 hg hc, boxed_own (D1 + 1) 3 (fun (_ : Unit) => _) () Y Z row a4 hg hc⟩, ⟨(hg.block C1 (by omega) (fun e => by have := (hr3 _ e.symm).1; omega)).trans a5.1, (hg.block (C1 + 1) (by omega) (fun e => by have := (hr3 _ e.symm).1; omega)).trans a5.2⟩, ownFrom_keepsFrom (β := Unit) z.2 () Y Z row a6 hg hr3, Nat.le_trans a7 hg.size⟩
            case ownX2 =>
              rintro c s Y Z row ⟨⟨e, a1, a8⟩, a6⟩ hg hr3
              have z := HS2.out
              exact ⟨⟨e, CvE.own (α := Unit) V0.heap.size (by have := HSB.out; omega) () Y Z row a1 hg hr3, ownFrom_keepsFrom (β := Unit) (by omega) () Y Z row a8 hg hr3⟩, ownFrom_keepsFrom (β := Unit) z.2 () Y Z row a6 hg hr3⟩
            case i2 =>
              obtain ⟨h1, h2, h3, h4⟩ := HX.out
              have q := KV.out
              have e0 := E0.out
              have z := HS2.out
              refine ⟨?_, ⟨box_on h3 q, U1.out, U2.out⟩, ⟨q.block _ (by omega), q.block _ (by omega)⟩, keeps_below _ q, Nat.le_refl _⟩
              rw [List.map_nil, List.append_nil]
              exact h1.below q
            case assign2 =>
              rintro l3 pre2 y Y K hi hK
              unfold pck
              gi_wp2
              exact hK _ _ (KeepsFrom.refl _ _) (Kp2.refl _ _ _) hi rfl
            case body2 =>
              rintro l3 pre2 y a'' Y hl3 _ ⟨a1, ⟨a2, a3, a4⟩, a5, a6, a7⟩ rfl hlt2
              obtain ⟨⟨LY, Y10, Y12, Y13, YP⟩, YM⟩ := GET.out Y a1.2.2.1
              have hxN : x.1 < NX := x.2
              have hyN : y.1 < NK := y.2
              have HXD : Hid (Ld w (.slice (some ⟨bd, fd, none⟩) da.length c2) da ∧ Ld w (.slice (some ⟨be, fe, none⟩) db.length c4) db) := Lib.hid ⟨HLD.out.2.1, HLD.out.2.2.2⟩
              have hxl : x.1 * dW + dW ≤ da.length := by
                rw [HDW.out.2.1]
                have : (x.1 + 1) * dW ≤ NX * dW := Nat.mul_le_mul_right dW hxN
                rwa [Nat.add_mul, Nat.one_mul] at this
              have hyl : y.1 * dT + dT ≤ db.length := by
                rw [HDT.out.2.1]
                have : (y.1 + 1) * dT ≤ NK * dT := Nat.mul_le_mul_right dT hyN
                rwa [Nat.add_mul, Nat.one_mul] at this
              have BY : Hid (Below w.heap.size w Y) := Lib.hid (B6.out.trans (LY.mono B6.out.size))
              have hms : (msn (l0, n0, (K0 : Nat), s0, p0, d0) (l1, n1, (K1 : Nat), s1, p1, d1) n1 K0 K1 P).length = (mts (l0, n0, (K0 : Nat), s0, p0, d0) (l1, n1, (K1 : Nat), s1, p1, d1) ((P : Int) / n1) ((P : Int) % n1) K0 K1).length := by unfold msn; rw [List.length_map]
              have hml : (msn (l0, n0, (K0 : Nat), s0, p0, d0) (l1, n1, (K1 : Nat), s1, p1, d1) n1 K0 K1 P).length ≤ Tp := by rw [hms, HNN.out.2.2.2.1]; exact mts_len _ _ _ _ _ _
              obtain ⟨PV, hPV⟩ : ∃ PV, PV = cvs da db (msn (l0, n0, (K0 : Nat), s0, p0, d0) (l1, n1, (K1 : Nat), s1, p1, d1) n1 K0 K1 P) Wd Tp CH (x.1, y.1) := ⟨_, rfl⟩
              have hVP : V P (x.1, y.1) = rd PV (2 ^ f) := by rw [HV.out, hPV]; rfl
              have CS1 : Hid (∀ Z, Below Y.heap.size Y Z → Calls Try.prog 59 #[.agg #[.slice (some ⟨gP, 0, none⟩) Pl.length qP, .int .i64 (Ct : Nat), .int .i64 (Tp : Nat), .int .i64 (Wd : Nat), .int .i64 l0, .int .i64 n0, .int .i64 (K0 : Nat), .int .i64 s0, .int .i64 p0, .int .i64 d0, .int .i64 l1, .int .i64 n1, .int .i64 (K1 : Nat), .int .i64 s1, .int .i64 p1, .int .i64 d1], .slice o9 (mts (l0, n0, (K0 : Nat), s0, p0, d0) (l1, n1, (K1 : Nat), s1, p1, d1) ((P : Int) / n1) ((P : Int) % n1) K0 K1).length q9, .slice (some ⟨bd, fd + x.1 * dW, none⟩) dW dW, .slice (some ⟨be, fe + y.1 * dT, none⟩) dT dT] Z fun e w' => e = .returned (Wv PV) ∧ Below Z.heap.size Z w') := Lib.hid (fun Z hZ => by
                have q1 := ld_mid (HXD.out.1.below (BY.out.trans (hZ.mono BY.out.size))) hxl
                have q2 := ld_mid (HXD.out.2.below (BY.out.trans (hZ.mono BY.out.size))) hyl
                have q3 := met_at (base := wG.heap.size) HB1.out.1.1 HNN.out.2.2.1 rfl HNN.out.2.2.2.1 (own_bel YM hZ)
                have q := csum_any (.slice (some ⟨gP, 0, none⟩) Pl.length qP) (Ct : Nat) (l0, n0, (K0 : Nat), s0, p0, d0) (l1, n1, (K1 : Nat), s1, p1, d1) o9 _ _ q9 dW dT dW dT CH Wd Tp (msn (l0, n0, (K0 : Nat), s0, p0, d0) (l1, n1, (K1 : Nat), s1, p1, d1) n1 K0 K1 P) _ _ Z q3 (fun i hi => msn_at HB1.out.1.1 HNN.out.2.2.1 rfl HNN.out.2.2.2.1 hi) q1 q2 (by rw [← HDW.out.1]; simp; omega) (by rw [← HDT.out.1]; simp; omega) HNN.out.2.2.2.2.2.2.2.2.1 ⟨HNN.out.2.2.2.2.2.2.2.2.2.1, by rw [← HDW.out.1]; have := HDD6.out.1; omega⟩ ⟨hTp.1, by rw [← HDT.out.1]; have := HDD6.out.2; omega⟩ hml (wds_mid HDD.out.2.2.1 hxl) (wds_mid HDD.out.2.2.2 hyl)
                rw [hms] at q
                rw [hPV]
                unfold cvs
                rw [← HDW.out.1, ← HDT.out.1]
                unfold Wnv at q
                exact q)
              have hRP : R PV := by
                rw [hPV]
                have q1 : ((da.drop (x.1 * dW)).take dW).length = CH * Wd := by rw [← HDW.out.1]; simp; omega
                have q2 : ((db.drop (y.1 * dT)).take dT).length = CH * Tp := by rw [← HDT.out.1]; simp; omega
                have q := csm_R (av := (da.drop (x.1 * dW)).take dW) (bv := (db.drop (y.1 * dT)).take dT) (ms := msn (l0, n0, (K0 : Nat), s0, p0, d0) (l1, n1, (K1 : Nat), s1, p1, d1) n1 K0 K1 P) (Wd := Wd) (Tp := Tp) (c := CH) (k := 0) (n := CH) (.inr ⟨rfl, rfl⟩) (Nat.zero_le _) q1 q2 (fun i hi => msn_at HB1.out.1.1 HNN.out.2.2.1 rfl HNN.out.2.2.2.1 hi) (wds_mid HDD.out.2.2.1 hxl) (wds_mid HDD.out.2.2.2 hyl) (by have := Nat.mul_le_mul_left CH hml; rw [← HDT.out.1] at this; have := hdT6; omega)
                unfold cvs
                rw [← HDW.out.1, ← HDT.out.1]
                exact q
              have CC1 : Hid (∀ Z : World, Calls Try.prog 58 #[Wv PV, .int .i64 (f : Nat)] Z fun e w' => e = .returned (.tuple #[.int .i64 (tw (V P (x.1, y.1))), .int .i64 (te (V P (x.1, y.1)))]) ∧ Below Z.heap.size Z w') := Lib.hid (fun Z => by
                rw [hVP]
                exact close_any PV f Z hRP HF126.out)
              have KS3 : Hid (∀ Z : World, Below Y.heap.size Y Z → Blk Z P10 86 #[.slice (some ⟨gP, 0, none⟩) Pl.length qP, .int .i64 (Ct : Nat), .int .i64 (Tp : Nat), .int .i64 (Wd : Nat), .int .i64 l0, .int .i64 n0, .int .i64 (K0 : Nat), .int .i64 s0, .int .i64 p0, .int .i64 d0, .int .i64 l1, .int .i64 n1, .int .i64 (K1 : Nat), .int .i64 s1, .int .i64 p1, .int .i64 d1] ∧ Z.cell? ⟨P14, 0, none⟩ = some (.slice o9 (mts (l0, n0, (K0 : Nat), s0, p0, d0) (l1, n1, (K1 : Nat), s1, p1, d1) ((P : Int) / n1) ((P : Int) % n1) K0 K1).length q9) ∧ Z.cell? ⟨Bx, 0, none⟩ = some (.slice (some ⟨bd, fd + x.1 * dW, none⟩) dW dW) ∧ Z.cell? ⟨w.heap.size + 3, 0, none⟩ = some (.int .i64 (f : Nat))) := Lib.hid (fun Z hZ => ⟨Y10.below hZ Y10.lt, (YP.below hZ YP.lt).cell 0, (box_on a2 hZ).cell, (Q3.out.below (LY.trans (hZ.mono LY.size)) Q3.out.lt).cell 0⟩)
              have hLL : (l0' ++ pre2.map (fun y : Fin NK => (x.1, y.1))).length = pre.length * NK + pre2.length := by rw [List.length_append, List.length_map, HL0.out, prs_len, List.length_map]
              have HA := Lib.hid (And.intro a1 (And.intro a2 (And.intro a3 (And.intro a4 (And.intro a5 (And.intro a6 a7))))))
              have HY := Lib.hid (And.intro LY (And.intro Y10 (And.intro Y12 (And.intro Y13 YP))))
              have B0 : Hid (Below Y.heap.size Y Y.drew) := Lib.hid (below_drw (Below.refl _ _) 1)
              have HLT := Lib.hid (And.intro hLL (And.intro hlt2 (And.intro hxN hyN)))
              clear a1 a2 a3 a4 a5 a6 a7 LY Y10 Y12 Y13 YP YM BY hms hml hPV hVP hRP hxl hyl hLL hlt2 hxN hyN
              gi_wp2
              refine' region_in2 (S := fun Z => Blk Z P10 86 #[.slice (some ⟨gP, 0, none⟩) Pl.length qP, .int .i64 (Ct : Nat), .int .i64 (Tp : Nat), .int .i64 (Wd : Nat), .int .i64 l0, .int .i64 n0, .int .i64 (K0 : Nat), .int .i64 s0, .int .i64 p0, .int .i64 d0, .int .i64 l1, .int .i64 n1, .int .i64 (K1 : Nat), .int .i64 s1, .int .i64 p1, .int .i64 d1] ∧ Z.cell? ⟨P14, 0, none⟩ = some (.slice o9 (mts (l0, n0, (K0 : Nat), s0, p0, d0) (l1, n1, (K1 : Nat), s1, p1, d1) ((P : Int) / n1) ((P : Int) % n1) K0 K1).length q9) ∧ Z.cell? ⟨Bx, 0, none⟩ = some (.slice (some ⟨bd, fd + x.1 * dW, none⟩) dW dW) ∧ Z.cell? ⟨w.heap.size + 3, 0, none⟩ = some (.int .i64 (f : Nat))) (by kernel_rfl) (by kernel_rfl) ?s3 (fun hHeld => ?r3) ?q3
              case s3 => exact KS3.out _ B0.out
              case r3 =>
                simp only [List.size_toArray, List.length_cons, List.length_nil, Nat.reduceAdd, Array.replicate_succ, Array.replicate_zero, List.push_toArray, List.nil_append, List.cons_append]
                (refine wpAnyH_take (i := 0) (oi := ⟨some 134, _, _, _, _, _⟩) (v := .agg #[.slice (some ⟨gP, 0, none⟩) Pl.length qP, .int .i64 (Ct : Nat), .int .i64 (Tp : Nat), .int .i64 (Wd : Nat), .int .i64 l0, .int .i64 n0, .int .i64 (K0 : Nat), .int .i64 s0, .int .i64 p0, .int .i64 d0, .int .i64 l1, .int .i64 n1, .int .i64 (K1 : Nat), .int .i64 s1, .int .i64 p1, .int .i64 d1]) rfl (by kernel_rfl) (by kernel_rfl) (by kernel_rfl) (fun _ _ _ h => by cases h.1) (yields_row (by rfl) 86 _ rfl P10 rfl 86 _ _ (fun w h => h.1) Try.underlying86 rfl (by kernel_rfl)) (by assumption) ?_)
                (try simp only [Act.put, List.setIfInBounds_toArray, List.set_cons_zero, List.set_cons_succ])
                (refine wpAnyH_take (i := 1) (oi := ⟨some 135, _, _, _, _, _⟩) (v := ?v1_z2) rfl (by kernel_rfl) (by kernel_rfl) (by kernel_rfl) (fun _ _ _ h => by cases h.1) (Or.inl ⟨by rfl, ?hy1_z2⟩) (by assumption) ?rest1_z2; (case hy1_z2 => ((intro w hSw); (try dsimp only at hSw); go_simp; first | done | (with_reducible rfl))))
                (try simp only [Act.put, List.setIfInBounds_toArray, List.set_cons_zero, List.set_cons_succ])
                (refine wpAnyH_take (i := 2) (oi := ⟨some 136, _, _, _, _, _⟩) (v := ?v2_z3) rfl (by kernel_rfl) (by kernel_rfl) (by kernel_rfl) (fun _ _ _ h => by cases h.1) (Or.inl ⟨by rfl, ?hy2_z3⟩) (by assumption) ?rest2_z3; (case hy2_z3 => ((intro w hSw); (try dsimp only at hSw); go_simp; first | done | (with_reducible rfl))))
                (try simp only [Act.put, List.setIfInBounds_toArray, List.set_cons_zero, List.set_cons_succ])
                (refine wpAnyH_take (i := 3) (oi := ⟨some 137, _, _, _, _, _⟩) (v := ?v3_z4) rfl (by kernel_rfl) (by kernel_rfl) (by kernel_rfl) (fun _ _ _ h => by cases h.1) (Or.inl ⟨by rfl, ?hy3_z4⟩) (by assumption) ?rest3_z4; (case hy3_z4 => ((intro w hSw); (try dsimp only at hSw); go_simp; first | done | (with_reducible rfl))))
                (try simp only [Act.put, List.setIfInBounds_toArray, List.set_cons_zero, List.set_cons_succ])
                (refine wpAnyH_take (i := 5) (oi := ⟨some 139, _, _, _, _, _⟩) (v := ?v5_z5) rfl (by kernel_rfl) (by kernel_rfl) (by kernel_rfl) (fun _ _ _ h => by cases h.1) (Or.inl ⟨by rfl, ?hy5_z5⟩) (by assumption) ?rest5_z5; (case hy5_z5 => ((intro w hSw); (try dsimp only at hSw); go_simp; first | done | (with_reducible rfl))))
                (try simp only [Act.put, List.setIfInBounds_toArray, List.set_cons_zero, List.set_cons_succ])
                refine wpAnyH_ready (rs := [4]) (by kernel_rfl) (by simp) ?_
                refine AllReadyH.cons (o := ⟨some 138, _, _, _, _, _⟩) rfl (fun K hK => ?_) (AllReadyH.nil)
                go_simp
                (go_at_call 59; (with_reducible refine (CS1.out _ B0.out).mono ?_); rintro e w31 ⟨rfl, hb⟩; have b31 := Lib.hid (B0.out.trans (hb.mono B0.out.size)); clear hb)
                refine hK.out _ _ ?_ (fun hHeld => ?_)
                · (try dsimp only)
                  exact KS3.out _ b31.out
                clear hK K
                (try simp only [List.setIfInBounds_toArray, List.set_cons_zero, List.set_cons_succ])
                refine wpAnyH_ready (rs := [6]) (by kernel_rfl) (by simp) ?_
                refine AllReadyH.cons (o := ⟨some 140, _, _, _, _, _⟩) rfl (fun K hK => ?_) (AllReadyH.nil)
                go_simp
                (go_at_call 58; (with_reducible refine (CC1.out _).mono ?_); rintro e w32 ⟨rfl, hb⟩; have b32 := Lib.hid (b31.out.trans (hb.mono b31.out.size)); clear hb)
                refine hK.out _ _ ?_ (fun hHeld => ?_)
                · (try dsimp only)
                  exact KS3.out _ b32.out
                clear hK K
                (try simp only [List.setIfInBounds_toArray, List.set_cons_zero, List.set_cons_succ])
                (refine wpAnyH_take (i := 7) (oi := ⟨some 133, _, _, _, _, _⟩) (v := ?v7_z6) rfl (by kernel_rfl) (by kernel_rfl) (by kernel_rfl) (fun _ _ _ h => by cases h.1) (Or.inl ⟨by rfl, ?hy7_z6⟩) (by assumption) ?rest7_z6; (case hy7_z6 => ((intro w hSw); (try dsimp only at hSw); go_simp; first | done | (with_reducible rfl))))
                (try simp only [Act.put, List.setIfInBounds_toArray, List.set_cons_zero, List.set_cons_succ])
                (refine wpAnyH_take (i := 8) (oi := ⟨some 141, _, _, _, _, _⟩) (v := ?v8_z7) rfl (by kernel_rfl) (by kernel_rfl) (by kernel_rfl) (fun _ _ _ h => by cases h.1) (Or.inl ⟨by rfl, ?hy8_z7⟩) (by assumption) ?rest8_z7; (case hy8_z7 => ((intro w hSw); (try dsimp only at hSw); go_simp; first | done | (with_reducible rfl))))
                (try simp only [Act.put, List.setIfInBounds_toArray, List.set_cons_zero, List.set_cons_succ])
                (refine wpAnyH_take (i := 9) (oi := ⟨some 142, _, _, _, _, _⟩) (v := ?v9_z8) rfl (by kernel_rfl) (by kernel_rfl) (by kernel_rfl) (fun _ _ _ h => by cases h.1) (Or.inl ⟨by rfl, ?hy9_z8⟩) (by assumption) ?rest9_z8; (case hy9_z8 => ((intro w hSw); (try dsimp only at hSw); go_simp; first | done | (with_reducible rfl))))
                (try simp only [Act.put, List.setIfInBounds_toArray, List.set_cons_zero, List.set_cons_succ])
                (refine wpAnyH_take (i := 10) (oi := ⟨some 19, _, _, _, _, _⟩) (v := ?v10_z9) rfl (by kernel_rfl) (by kernel_rfl) (by kernel_rfl) (fun _ _ _ h => by cases h.1) (Or.inl ⟨by rfl, ?hy10_z9⟩) (by assumption) ?rest10_z9; (case hy10_z9 => ((intro w hSw); (try dsimp only at hSw); go_simp; first | done | (with_reducible rfl))))
                (try simp only [Act.put, List.setIfInBounds_toArray, List.set_cons_zero, List.set_cons_succ])
                (refine wpAnyH_take (i := 11) (oi := ⟨some 20, _, _, _, _, _⟩) (v := ?v11_z10) rfl (by kernel_rfl) (by kernel_rfl) (by kernel_rfl) (fun _ _ _ h => by cases h.1) (Or.inl ⟨by rfl, ?hy11_z10⟩) (by assumption) ?rest11_z10; (case hy11_z10 => ((intro w hSw); (try dsimp only at hSw); go_simp; first | done | (with_reducible rfl))))
                (try simp only [Act.put, List.setIfInBounds_toArray, List.set_cons_zero, List.set_cons_succ])
                refine wpAnyH_done (by kernel_rfl) ?_ _
                exact ⟨rfl, rfl, b32.out⟩
              case q3 =>
                intro Y2 hb2
                have b2 := Lib.hid hb2
                clear hb2 B0 CS1 CC1 KS3
                obtain ⟨LY, Y10, Y12, Y13, YP⟩ := HY.out
                have hgd : gD ≠ P16 ∧ P16 < D1 ∧ gD < P16 ∧ C1 = P16 + 1 ∧ P10 ≠ P16 ∧ P12 ≠ P16 ∧ P10 ≠ gD ∧ P12 ≠ gD := by
                  have e0 := E0.out
                  have e1 := E1.out
                  have z := HS2.out
                  have g := HGD.out
                  have k := F13.out.size
                  have k2 := FVK.out.2.2.2.1
                  exact ⟨by omega, by omega, by omega, by omega, fun e => by have := XK.out.lt; omega, fun e => by have := X12K.out.lt; omega, HNE.out.1, HNE.out.2.2.1⟩
                have HGG := Lib.hid hgd
                obtain ⟨nA, -, -, -, nB, nC, nD, nE⟩ := hgd
                have Z10 : Hid (Blk Y2 P10 86 #[.slice (some ⟨gP, 0, none⟩) Pl.length qP, .int .i64 (Ct : Nat), .int .i64 (Tp : Nat), .int .i64 (Wd : Nat), .int .i64 l0, .int .i64 n0, .int .i64 (K0 : Nat), .int .i64 s0, .int .i64 p0, .int .i64 d0, .int .i64 l1, .int .i64 n1, .int .i64 (K1 : Nat), .int .i64 s1, .int .i64 p1, .int .i64 d1]) := Lib.hid (Y10.below b2.out Y10.lt)
                have Z12 : Hid (Blk Y2 P12 26 #[.slice oS SH.length qS, .slice (some ⟨gD, 0, none⟩) (NX * NK * Ct) qD]) := Lib.hid (Y12.below b2.out Y12.lt)
                have ZR := Lib.hid (HA.out.1.below b2.out)
                have LZ := Lib.hid (LY.trans (b2.out.mono LY.size))
                clear LY Y10 Y12 Y13 YP
                obtain ⟨AT, hAT⟩ : ∃ aT, aT = P + (l0' ++ pre2.map (fun y : Fin NK => (x.1, y.1))).length * Ct := ⟨_, rfl⟩
                have hATN : AT < NX * NK * Ct := by
                  obtain ⟨k1, k2, k3, k4⟩ := HLT.out
                  have kx := HX.out.2.2.2
                  have q1 : (pre.length + 1) * NK ≤ NX * NK := Nat.mul_le_mul_right NK kx
                  rw [Nat.add_mul, Nat.one_mul] at q1
                  rw [hAT, k1]
                  have q2 : (pre.length * NK + pre2.length + 1) * Ct ≤ NX * NK * Ct := Nat.mul_le_mul_right Ct (by omega)
                  rw [Nat.add_mul, Nat.one_mul] at q2
                  omega
                have hAT6 : AT ≤ 65536 := by have := HN6.out; omega
                have zP : Y2.cell? ⟨P16, 0, none⟩ = some (.int .i64 (AT : Nat)) := by rw [hAT]; exact ZR.out.2.1.cell 0
                have HAT := Lib.hid hAT
                clear hAT
                have hctb : Ct ≤ 65536 := hP6
                obtain ⟨ev, hev⟩ : ∃ z, z = te (V P (x.1, y.1)) := ⟨_, rfl⟩
                obtain ⟨tv, htv⟩ : ∃ z, z = tw (V P (x.1, y.1)) := ⟨_, rfl⟩
                have HEV := Lib.hid (And.intro hev htv)
                rw [← hev, ← htv]
                clear hev htv
                by_cases he0 : ev = 0
                · have hE0 := Lib.hid he0
                  subst he0
                  obtain ⟨zd0, zd1, _⟩ := blk2 Z12.out
                  have zc := Z10.out.cell 1
                  have zc1 : Y2.cell? ⟨P10, 1, none⟩ = some (.int .i64 (Ct : Nat)) := zc
                  clear zc
                  obtain ⟨⟨zv, zg⟩, zf⟩ := cvR_len ZR.out hATN
                  have zf2 := ZR.out.2.1.frozen 0
                  have nA2 : ¬ P16 = gD := fun e => nA e.symm
                  have ST := Lib.hid (cvr_step HA.out.1 b2.out hlt HAT.out hATN (by rw [← HEV.out.1]) nA)
                  rw [← HEV.out.2] at ST
                  have PST : Hid (KeepsFrom V0.heap.size Y ((Y2.setCell ⟨gD, AT, none⟩ (.int .i64 tv)).setCell ⟨P16, 0, none⟩ (.int .i64 ((AT : Int) + (Ct : Int)))) ∧ Kp2 D1 (D1 + 1) Y ((Y2.setCell ⟨gD, AT, none⟩ (.int .i64 tv)).setCell ⟨P16, 0, none⟩ (.int .i64 ((AT : Int) + (Ct : Int)))) ∧ CvR wE.heap.size gD P16 (NX * NK * Ct) qD V NK Ct P W0 (l0' ++ (pre2 ++ [y]).map (fun y : Fin NK => (x.1, y.1))) ((Y2.setCell ⟨gD, AT, none⟩ (.int .i64 tv)).setCell ⟨P16, 0, none⟩ (.int .i64 ((AT : Int) + (Ct : Int)))) ∧ (Boxed ((Y2.setCell ⟨gD, AT, none⟩ (.int .i64 tv)).setCell ⟨P16, 0, none⟩ (.int .i64 ((AT : Int) + (Ct : Int)))) Bx 24 (.slice (some ⟨bd, fd + x.1 * dW, none⟩) dW dW) ∧ Boxed ((Y2.setCell ⟨gD, AT, none⟩ (.int .i64 tv)).setCell ⟨P16, 0, none⟩ (.int .i64 ((AT : Int) + (Ct : Int)))) D1 24 (.slice (some ⟨be, fe, none⟩) (NK * dT) c4) ∧ Boxed ((Y2.setCell ⟨gD, AT, none⟩ (.int .i64 tv)).setCell ⟨P16, 0, none⟩ (.int .i64 ((AT : Int) + (Ct : Int)))) (D1 + 1) 3 (.int .i64 (dT : Nat))) ∧ Kp2 C1 (C1 + 1) X ((Y2.setCell ⟨gD, AT, none⟩ (.int .i64 tv)).setCell ⟨P16, 0, none⟩ (.int .i64 ((AT : Int) + (Ct : Int)))) ∧ KeepsFrom W0.heap.size X ((Y2.setCell ⟨gD, AT, none⟩ (.int .i64 tv)).setCell ⟨P16, 0, none⟩ (.int .i64 ((AT : Int) + (Ct : Int)))) ∧ V0.heap.size ≤ ((Y2.setCell ⟨gD, AT, none⟩ (.int .i64 tv)).setCell ⟨P16, 0, none⟩ (.int .i64 ((AT : Int) + (Ct : Int)))).heap.size) := Lib.hid (by
                    obtain ⟨a1, a2, a3, a4, a5, a6, a7⟩ := HA.out
                    obtain ⟨_, g2, g3, g4, _⟩ := HGG.out
                    have hx := HX.out.2.1
                    have hbl : Bx < Y.heap.size := (show Blk Y Bx 24 _ from a2).lt
                    have e1 := E1.out
                    have e0 := E0.out
                    have zz := HS2.out
                    have bb := b2.out
                    have kk : ∀ B, KeepsFrom B Y ((Y2.setCell ⟨gD, AT, none⟩ (.int .i64 tv)).setCell ⟨P16, 0, none⟩ (.int .i64 ((AT : Int) + (Ct : Int)))) := fun B => (keeps_below B bb).trans (((KeepsOthers.setCell _ _ _).from B).trans ((KeepsOthers.setCell _ _ _).from B))
                    have hh : ∀ k, k ≠ gD → k ≠ P16 → k < Y.heap.size → ((Y2.setCell ⟨gD, AT, none⟩ (.int .i64 tv)).setCell ⟨P16, 0, none⟩ (.int .i64 ((AT : Int) + (Ct : Int)))).heap[k]? = Y.heap[k]? := fun k h1 h2 h3 => (Below.heap_setCell _ _ _ k h2).trans ((Below.heap_setCell _ _ _ k h1).trans (bb.block k h3))
                    have hm : l0' ++ (pre2 ++ [y]).map (fun y : Fin NK => (x.1, y.1)) = (l0' ++ pre2.map (fun y : Fin NK => (x.1, y.1))) ++ [(x.1, y.1)] := by rw [List.map_append, List.map_singleton, List.append_assoc]
                    rw [hm]
                    exact ⟨kk _, ⟨hh _ (by omega) (by omega) (by omega), hh _ (by omega) (by omega) (by omega)⟩, ST.out, ⟨(hh _ (by omega) (by omega) (by omega)).trans a2, (hh _ (by omega) (by omega) (by omega)).trans a3, (hh _ (by omega) (by omega) (by omega)).trans a4⟩, ⟨(hh _ (by omega) (by omega) (by omega)).trans a5.1, (hh _ (by omega) (by omega) (by omega)).trans a5.2⟩, a6.trans (kk _), by simp; have := bb.size; omega⟩)
                  gi_wp2
                  exact PST.out
                · have hE0 := Lib.hid he0
                  have hb0 : (ev == 0) = false := by rw [beq_eq_false_iff_ne]; exact he0
                  have Q4Y := Q4.out.below LZ.out Q4.out.lt
                  have Q5Y := Q5.out.below LZ.out Q5.out.lt
                  obtain ⟨p0, p1, f0, f1⟩ := blk2 Q4Y
                  have p2 := Q5Y.cell 0
                  have f2 := Q5Y.frozen 0
                  have PST : Hid (KeepsFrom V0.heap.size Y (((Y2.setCell ⟨w.heap.size + 4, 0, none⟩ (.slice none 0 0)).setCell ⟨w.heap.size + 4, 1, none⟩ (.slice none 0 0)).setCell ⟨w.heap.size + 5, 0, none⟩ (.int .i64 ev)) ∧ (CvE w V NX NK P (((Y2.setCell ⟨w.heap.size + 4, 0, none⟩ (.slice none 0 0)).setCell ⟨w.heap.size + 4, 1, none⟩ (.slice none 0 0)).setCell ⟨w.heap.size + 5, 0, none⟩ (.int .i64 ev)) ∧ KeepsFrom 0 W0 (((Y2.setCell ⟨w.heap.size + 4, 0, none⟩ (.slice none 0 0)).setCell ⟨w.heap.size + 4, 1, none⟩ (.slice none 0 0)).setCell ⟨w.heap.size + 5, 0, none⟩ (.int .i64 ev))) ∧ KeepsFrom W0.heap.size X (((Y2.setCell ⟨w.heap.size + 4, 0, none⟩ (.slice none 0 0)).setCell ⟨w.heap.size + 4, 1, none⟩ (.slice none 0 0)).setCell ⟨w.heap.size + 5, 0, none⟩ (.int .i64 ev))) := Lib.hid (by
                    have n45 : w.heap.size + 4 ≠ w.heap.size + 5 := by omega
                    have n54 : w.heap.size + 5 ≠ w.heap.size + 4 := by omega
                    have bb := b2.out
                    have kk : ∀ B, KeepsFrom B Y (((Y2.setCell ⟨w.heap.size + 4, 0, none⟩ (.slice none 0 0)).setCell ⟨w.heap.size + 4, 1, none⟩ (.slice none 0 0)).setCell ⟨w.heap.size + 5, 0, none⟩ (.int .i64 ev)) := fun B => (keeps_below B bb).trans (((KeepsOthers.setCell _ _ _).from B).trans (((KeepsOthers.setCell _ _ _).from B).trans ((KeepsOthers.setCell _ _ _).from B)))
                    refine ⟨kk _, ⟨⟨(x.1, y.1), HLT.out.2.2.1, HLT.out.2.2.2, by rw [← HEV.out.1]; exact hE0.out, ((Q4Y.set_ 0 _).set_ 1 _).far (p := ⟨w.heap.size + 5, 0, none⟩) n45 _, ?_, ?_⟩, (fz_keeps HA.out.1.2.2.1 VD.out V16.out).trans (kk _)⟩, HA.out.2.2.2.2.2.1.trans (kk _)⟩
                    · rw [← HEV.out.1]
                      exact ((Q5Y.far (p := ⟨w.heap.size + 4, 0, none⟩) n54 _).far (p := ⟨w.heap.size + 4, 1, none⟩) n54 _).set_ 0 _
                    · exact (((B6.out.trans (LZ.out.mono B6.out.size)).setCell (p := ⟨w.heap.size + 4, 0, none⟩) (by show w.heap.size ≤ w.heap.size + 4; omega) _).setCell (p := ⟨w.heap.size + 4, 1, none⟩) (by show w.heap.size ≤ w.heap.size + 4; omega) _).setCell (p := ⟨w.heap.size + 5, 0, none⟩) (by show w.heap.size ≤ w.heap.size + 5; omega) _)
                  clear Q4Y Q5Y he0
                  gi_wp2
                  exact ⟨PST.out.1, ⟨rfl, PST.out.2.1⟩, PST.out.2.2⟩
            case done2 =>
              rintro ys Y hys ⟨a1, _, a5, a6, _⟩
              subst hys
              have e1 : l0' ++ (cks NK (Nat.le_refl NK)).map (fun y : Fin NK => (x.1, y.1)) = prs NK ((pre ++ [x]).map (fun x : Fin NX => x.1)) := by
                rw [List.map_append, List.map_singleton, prs_snoc, ← HL0.out, ← cks_map NK (Nat.le_refl NK), List.map_map]; rfl
              rw [e1] at a1
              have HI := Lib.hid (And.intro a1 (And.intro a5 a6))
              clear a1 a5 a6 e1
              gi_wp2
              exact ⟨HI.out.2.2, HI.out.2.1, HI.out.1⟩
            case stop2 =>
              rintro c pr Y _ ⟨⟨rfl, a1⟩, a6⟩
              have HI := Lib.hid (And.intro a1 a6)
              clear a1 a6
              gi_wp2
              exact ⟨HI.out.2, rfl, HI.out.1⟩
          case done =>
            rintro D ys X hD hys HRX hK
            subst hys
            have el : (cks NX (Nat.le_refl NX)).map (fun x : Fin NX => x.1) = List.range NX := cks_map NX (Nat.le_refl NX)
            rw [el] at HRX
            have hNN := HNN.out.2.2.2.2.2.2
            have hlen : (prs NK (List.range NX)).length = NX * NK := by rw [prs_len, List.length_range]
            have e0 := E0.out
            have zH : wH.heap.size ≤ wK.heap.size := FVK.out.2.2.2.1
            have hDs : ∀ D' ∈ ds, D' < W0.heap.size ∧ X.heap[D']? = some (.deferred (some [])) := fun D' hD' => by
              have d2 := (DSK.out D' hD').2
              have d3 := (GK.out.block D' (Array.getElem?_eq_some_iff.1 d2).1).trans d2
              refine ⟨(Array.getElem?_eq_some_iff.1 d3).1, (HRX.2.2.1.2.2.2.2 D' (Array.getElem?_eq_some_iff.1 d3).1 (fun e => ?_) (fun e => ?_)).trans d3⟩
              · subst e
                rcases VD.out.2 with ⟨e, _⟩ | ⟨g', cap, cur, e, _, hh, _⟩
                · simp at e
                · simp only [Value.slice.injEq, Option.some.injEq, Addr.mk.injEq, and_true] at e
                  rw [e.1, hh] at d3; cases d3
              · subst e
                have k := V16.out
                unfold Blk at k
                rw [k] at d3; cases d3
            have HLN : Hid (CvL wE.heap.size wG.heap.size gD P14 (NX * NK * Ct) qD V NX NK Ct wH (P + 1) (D :: ds) o9 (mts (l0, n0, (K0 : Nat), s0, p0, d0) (l1, n1, (K1 : Nat), s1, p1, d1) ((P : Int) / n1) ((P : Int) % n1) K0 K1).length q9 (mcells (mts (l0, n0, (K0 : Nat), s0, p0, d0) (l1, n1, (K1 : Nat), s1, p1, d1) ((P : Int) / n1) ((P : Int) % n1) K0 K1)) X) := Lib.hid (by
              refine ⟨?_, HRX.2.2.1.blk VP.out HNE.out.2.2.2.2.2.2.symm (fun e => by have := LPK.out.lt; omega), HRX.2.2.1.own VM.out (own_ne VM.out VD.out (by decide)) (own_blk VM.out V16.out (by decide)), (FVK.out.trans (FV.below GK.out)).fz HRX.2.2.1 (by omega), fun Q p h1 h2 h3 => ?_, List.nodup_cons.2 ⟨fun hm => by have := (hDs D hm).1; omega, HL.out.2.2.2.2.2.1⟩, fun D' hD' => ?_⟩
              · have q := HRX.1
                rw [hlen, rowL_same (h' := cvC (fun P j => tw (V P (j / NK, j % NK))) (fun _ => 0) Ct (P + 1) 0) (fun q hq => cvC_next (fun j hj => by rw [prs_at hNN.2.1 NX j hj]) hNN.2.2.2.2 hq)] at q
                exact q
              · by_cases hq : Q < P
                · exact HL5.out Q p hq h2 h3
                · obtain rfl : Q = P := by omega
                  exact HRX.2.2.2 p (List.mem_flatMap.2 ⟨p.1, List.mem_range.2 h2, List.mem_map.2 ⟨p.2, List.mem_range.2 h3, rfl⟩⟩)
              · rcases List.mem_cons.1 hD' with rfl | hm
                · exact ⟨by have := GK.out.size; omega, hK⟩
                · exact ⟨(DSK.out D' hm).1, (hDs D' hm).2⟩)
            clear HRX hDs hK el hlen
            go_wp2
            exact ⟨⟨P + 1, D :: ds, o9, (mts (l0, n0, (K0 : Nat), s0, p0, d0) (l1, n1, (K1 : Nat), s1, p1, d1) ((P : Int) / n1) ((P : Int) % n1) K0 K1).length, q9, mcells (mts (l0, n0, (K0 : Nat), s0, p0, d0) (l1, n1, (K1 : Nat), s1, p1, d1) ((P : Int) / n1) ((P : Int) % n1) K0 K1), _, _, _, _, _, _, _, _, _, _, _, _, _, _, _, _, _, _, hlt, rfl, HLN⟩, by simp [intOf]; omega⟩
          case stop =>
            rintro D cd pre X hD _ ⟨rfl, ⟨p, h1, h2, h3, h4, h5, h6⟩, h7⟩ hK
            have e0 := E0.out
            have zH : wH.heap.size ≤ wK.heap.size := FVK.out.2.2.2.1
            have hDs : ∀ D' ∈ ds, D' < W0.heap.size ∧ X.heap[D']? = some (.deferred (some [])) := fun D' hD' => by
              have d2 := (DSK.out D' hD').2
              have d3 := (GK.out.block D' (Array.getElem?_eq_some_iff.1 d2).1).trans d2
              exact ⟨(Array.getElem?_eq_some_iff.1 d3).1, h7.same D' _ (Nat.zero_le _) d3 rfl⟩
            have HDA : Hid (∀ D' ∈ D :: ds, wH.heap.size ≤ D' ∧ X.heap[D']? = some (.deferred (some []))) := Lib.hid (fun D' hD' => by
              rcases List.mem_cons.1 hD' with rfl | hm
              · exact ⟨by have := GK.out.size; omega, hK⟩
              · exact ⟨(DSK.out D' hm).1, (hDs D' hm).2⟩)
            have HND : Hid ((D :: ds).Nodup) := Lib.hid (List.nodup_cons.2 ⟨fun hm => by have := (hDs D hm).1; omega, HL.out.2.2.2.2.2.1⟩)
            have HZ := Lib.hid (And.intro h1 (And.intro h2 (And.intro h3 (And.intro h4 (And.intro h5 h6)))))
            have HWH : Hid (w.heap.size ≤ wH.heap.size) := Lib.hid (by have := F6H.out.size; have := S6.out; omega)
            clear h1 h2 h3 h4 h5 h6 h7 hDs hK
            gi_wp2
            go_wp2
            refine leaves_many (D :: ds) HND.out (fun D' hD' => (HDA.out D' hD').2) ?_
            obtain ⟨h1, h2, h3, h4, h5, h6⟩ := HZ.out
            have p4 := blk_shut HDA.out h4
            have p5 := blk_shut HDA.out h5
            obtain ⟨q0, q1, _⟩ := blk2 p4
            have q2 := p5.cell 0
            have ht : te (V P p) = 3 := by
              unfold te at h3 ⊢
              split at h3
              · exact absurd rfl h3
              · rename_i hh; rw [if_neg hh]
            rw [ht] at q2
            refine ⟨.tuple #[.agg #[.slice none 0 0, .slice none 0 0], .int .i64 3], by simp [results, Try.results14, go_sem, q0, q1, q2], ?_⟩
            exact ⟨fun hh => absurd (hh P p hlt h1 h2) h3, fun _ => ⟨none, 0, none, 0, rfl, World.ownsRow_nil _ _ _ _, World.ownsRow_nil _ _ _ _, below_shut HDA.out h6 HWH.out⟩⟩
        · have hb2 : ¬ (P : Int) < (Ct : Int) := by omega
          have HPC : Hid (P = Ct) := Lib.hid (by omega)
          have X12W := FH.out.blk X12H.out HNE.out.2.2.1 HNE.out.2.2.2.1 (by decide)
          have Q4W := Q4.out.below LW.out Q4.out.lt
          have Q5W := Q5.out.below LW.out Q5.out.lt
          obtain ⟨y0, y1, _⟩ := blk2 X12W
          obtain ⟨_, _, f0, f1⟩ := blk2 Q4W
          have f2 := Q5W.frozen 0
          have c2 := Q5W.cell 0
          have c0 := Q4W.cell 0
          have c1' := Q4W.cell 1
          have HDS : Hid (∀ D ∈ ds, wH.heap.size ≤ D ∧ W.heap[D]? = some (.deferred (some []))) := Lib.hid HL.out.2.2.2.2.2.2
          have HW : Hid (w.heap.size + 6 ≤ wH.heap.size) := Lib.hid (by have := F6H.out.size; have := S6.out; omega)
          obtain ⟨WE, hWE⟩ : ∃ X, X = ((W.setCell ⟨w.heap.size + 4, 0, none⟩ (.slice oS SH.length qS)).setCell ⟨w.heap.size + 4, 1, none⟩ (.slice (some ⟨gD, 0, none⟩) (NX * NK * Ct) qD)).setCell ⟨w.heap.size + 5, 0, none⟩ (.int .i64 0) := ⟨_, rfl⟩
          have n45 : w.heap.size + 4 ≠ w.heap.size + 5 := by omega
          have R4 : Hid (Blk WE (w.heap.size + 4) 26 #[.slice oS SH.length qS, .slice (some ⟨gD, 0, none⟩) (NX * NK * Ct) qD]) := Lib.hid (by rw [hWE]; exact ((Q4W.set_ 0 _).set_ 1 _).far (p := ⟨w.heap.size + 5, 0, none⟩) n45 _)
          have R5 : Hid (Blk WE (w.heap.size + 5) 34 #[.int .i64 0]) := Lib.hid (by rw [hWE]; exact (((Q5W.far (p := ⟨w.heap.size + 4, 0, none⟩) (by show w.heap.size + 5 ≠ w.heap.size + 4; omega) _).far (p := ⟨w.heap.size + 4, 1, none⟩) (by show w.heap.size + 5 ≠ w.heap.size + 4; omega) _).set_ 0 _))
          have RD : Hid (∀ D ∈ ds, wH.heap.size ≤ D ∧ WE.heap[D]? = some (.deferred (some []))) := Lib.hid (fun D hD => by
            have z := HW.out
            obtain ⟨d1, d2⟩ := HDS.out D hD
            refine ⟨d1, ?_⟩
            rw [hWE]
            exact (Below.heap_setCell _ _ _ D (by show D ≠ w.heap.size + 5; omega)).trans ((Below.heap_setCell _ _ _ D (by show D ≠ w.heap.size + 4; omega)).trans ((Below.heap_setCell _ _ _ D (by show D ≠ w.heap.size + 4; omega)).trans d2)))
          have RB : Hid (Below w.heap.size w WE) := Lib.hid (by rw [hWE]; exact ((((B6.out.trans (LW.out.mono B6.out.size)).setCell (p := ⟨w.heap.size + 4, 0, none⟩) (by show w.heap.size ≤ w.heap.size + 4; omega) _).setCell (p := ⟨w.heap.size + 4, 1, none⟩) (by show w.heap.size ≤ w.heap.size + 4; omega) _).setCell (p := ⟨w.heap.size + 5, 0, none⟩) (by show w.heap.size ≤ w.heap.size + 5; omega) _))
          have RS : Hid (WE.ownsRow wE.heap.size 3 1 (.slice oS SH.length qS) SH.length (ints SH)) := Lib.hid (by
            rw [hWE]
            have q := FH.out.own OSH.out (own_ne OSH.out ODH.out (by decide)) (own_blk OSH.out X14H.out (by decide)) (by decide)
            have q4 : Blk (W.setCell ⟨w.heap.size + 4, 0, none⟩ (.slice oS SH.length qS)) (w.heap.size + 4) 26 _ := Q4W.set_ 0 _
            exact own_setx (own_setx (own_setx q Q4W (by decide)) q4 (by decide)) (((Q5W.far (p := ⟨w.heap.size + 4, 0, none⟩) (by show w.heap.size + 5 ≠ w.heap.size + 4; omega) _).far (p := ⟨w.heap.size + 4, 1, none⟩) (by show w.heap.size + 5 ≠ w.heap.size + 4; omega) _)) (by decide))
          have RR : Hid (WE.ownsRow wE.heap.size 2 1 (.slice (some ⟨gD, 0, none⟩) (NX * NK * Ct) qD) (NX * NK * Ct) (ints (rowL (fun q => tw (V (q % Ct) (q / Ct / NK, q / Ct % NK))) (NX * NK * Ct)))) := Lib.hid (by
            rw [hWE]
            have q := HL.out.1
            rw [HPC.out, rowL_same (h' := fun q => tw (V (q % Ct) (q / Ct / NK, q / Ct % NK))) (fun q _ => by unfold cvC; rw [if_pos (Nat.mod_lt _ HNN.out.2.2.2.2.2.2.2.2.2.2)])] at q
            have q4 : Blk (W.setCell ⟨w.heap.size + 4, 0, none⟩ (.slice oS SH.length qS)) (w.heap.size + 4) 26 _ := Q4W.set_ 0 _
            exact own_setx (own_setx (own_setx q Q4W (by decide)) q4 (by decide)) (((Q5W.far (p := ⟨w.heap.size + 4, 0, none⟩) (by show w.heap.size + 5 ≠ w.heap.size + 4; omega) _).far (p := ⟨w.heap.size + 4, 1, none⟩) (by show w.heap.size + 5 ≠ w.heap.size + 4; omega) _)) (by decide))
          have HWE := Lib.hid hWE
          clear hWE X12W Q4W Q5W
          go_wp2
          rw [← HWE.out]
          refine leaves_many ds HL.out.2.2.2.2.2.1 (fun D hD => (RD.out D hD).2) ?_
          have p4 := blk_shut RD.out R4.out
          have p5 := blk_shut RD.out R5.out
          obtain ⟨p0, p1, _⟩ := blk2 p4
          have p2 := p5.cell 0
          refine ⟨.tuple #[.agg #[.slice oS SH.length qS, .slice (some ⟨gD, 0, none⟩) (NX * NK * Ct) qD], .int .i64 0], by simp [results, Try.results14, go_sem, p0, p1, p2], ?_⟩
          have hbE : w.heap.size ≤ wE.heap.size := by have := B6.out.size; have := F8.out.size; have := F10.out.size; omega
          refine ⟨fun _ => ⟨oS, qS, some ⟨gD, 0, none⟩, qD, ?_, ?_, ?_, below_shut RD.out RB.out (by have := HW.out; omega)⟩, fun ⟨Q, p, h1, h2, h3, h4⟩ => absurd (HL.out.2.2.2.2.1 Q p (by rw [HPC.out]; exact h1) h2 h3) h4⟩
          · rw [rowL_len, show ((NX : Int) :: (NK : Int) :: Pl) = SH from HSH.out.1.symm]
          · rw [show ((NX : Int) :: (NK : Int) :: Pl) = SH from HSH.out.1.symm]; exact own_base (own_shut RD.out RS.out) hbE
          · rw [rowL_len]; exact own_base (own_shut RD.out RR.out) hbE
end Go.Proofs.Ytnlfljekbknaaaa
