/-
  view.Slice.
  The reference's Slice.
  shape.Spread.
  The reference's shapes: counts, what may be, strides, places, indexes.
-/
import Derived.WalkMore
import Derived.Deep.QuietTactic
import Derived.BigQuiet
import Derived.Test.YtdcmcfmodbdhaaaM01
import Derived.Test.YtdcmcfmodbdhaaaM02
import Derived.Test.YtdcmcfmodbdhaaaM05
namespace Go.Proofs.Ytdcmcfmodbdhaaa
open Go.RowKit
attribute [local go_sem ↓] Go.wp_at_zero Go.wp_at_succ

theorem below_drew1 {B : Nat} {w W : World} (h : Below B w W) : Below B w W.drew := below_drw h 1
theorem slb_at {sh : List Int} {x y z : Int} (h : slb sh x y z = true) : ∃ a : Nat, x = (a : Int) ∧ a < sh.length ∧ 0 ≤ y ∧ y < z ∧ z ≤ sh.getD a 0 := by
  unfold slb at h
  simp only [Bool.and_eq_true, decide_eq_true_eq] at h
  obtain ⟨⟨⟨⟨a, b⟩, c⟩, d⟩, e⟩ := h
  exact ⟨x.toNat, by omega, by omega, c, d, e⟩
theorem slb_no {sh : List Int} {x y z : Int} (h : ¬ (0 ≤ x ∧ x < sh.length ∧ 0 ≤ y ∧ y < z ∧ z ≤ sh.getD x.toNat 0)) : slb sh x y z = false := by
  cases e : slb sh x y z with
  | false => rfl
  | true =>
    unfold slb at e
    simp only [Bool.and_eq_true, decide_eq_true_eq] at e
    obtain ⟨⟨⟨⟨a, b⟩, c⟩, d⟩, f⟩ := e
    exact absurd ⟨a, b, c, d, f⟩ h
theorem own_some {w : World} {base n c : Nat} {e : TypeId} {o : Option Addr} {xs : List Value} (h : w.ownsRow base e 1 (.slice o n c) n xs) (h0 : 0 < n) : ∃ g, o = some ⟨g, 0, none⟩ := by
  rcases h.2 with ⟨_, h1⟩ | ⟨g, cap, cur, hv, _⟩
  · omega
  · simp only [Value.slice.injEq, true_and] at hv; exact ⟨g, hv.1⟩
theorem own_cell {w : World} {base g c i : Nat} {ls : List Int} {e : TypeId} (h : w.ownsRow base e 1 (.slice (some ⟨g, 0, none⟩) ls.length c) ls.length (ints ls)) (hi : i < ls.length) : w.cell? ⟨g, i, none⟩ = some (.int .i64 (ls.getD i 0)) := by
  rw [h.cellAt i (by omega)]; simpa using ints_at hi
theorem own_frozen {w : World} {base g n c : Nat} {xs : List Value} {e : TypeId} (h : w.ownsRow base e 1 (.slice (some ⟨g, 0, none⟩) n c) n xs) (i : Nat) : w.frozen? ⟨g, i, none⟩ = false := h.frozenAt i
theorem own_put {w : World} {base g c i : Nat} {ls : List Int} {e : TypeId} (h : w.ownsRow base e 1 (.slice (some ⟨g, 0, none⟩) ls.length c) ls.length (ints ls)) (_hi : i < ls.length) (v : Int) : (w.setCell ⟨g, i, none⟩ (.int .i64 v)).ownsRow base e 1 (.slice (some ⟨g, 0, none⟩) ls.length c) (ls.set i v).length (ints (ls.set i v)) := by
  rcases h.2 with ⟨hv, _⟩ | ⟨g', cap, cur, hv, hb, hh, hc, hm, hsz, ht⟩
  · cases hv
  · simp only [Value.slice.injEq, true_and, Option.some.injEq, Addr.mk.injEq, and_true] at hv
    obtain ⟨rfl, rfl⟩ := hv
    have hp : Blk (w.setCell ⟨g, i, none⟩ (.int .i64 v)) g e (cur.setIfInBounds i (.int .i64 v)) := Blk.set_ (show Blk w g e cur from hh) i _
    refine ⟨by simp [ints], .inr ⟨g, c, cur.setIfInBounds i (.int .i64 v), by rw [List.length_set], hb, hp, by rw [List.length_set]; exact hc, hm, by simpa using hsz, ?_⟩⟩
    rw [List.length_set, Nat.mul_one]
    rw [Nat.mul_one] at ht
    have : (cur.setIfInBounds i (.int .i64 v)).toList = cur.toList.set i (.int .i64 v) := by simp
    rw [this, List.take_set, ht]
    simp [ints, List.map_set]
theorem Ov.put {w : World} {base g c i : Nat} {vt : Value} {sh st : List Int} (h : Ov w base (.slice (some ⟨g, 0, none⟩) sh.length c) vt sh st) (hi : i < sh.length) (v : Int) : Ov (w.setCell ⟨g, i, none⟩ (.int .i64 v)) base (.slice (some ⟨g, 0, none⟩) sh.length c) vt (sh.set i v) st :=
  ⟨own_put h.1 hi v, h.2.1.kept (grown_set w ⟨g, i, none⟩ _) (.inr (h.2.2 g rfl)), h.2.2⟩
theorem Ov.alloc {w : World} {base : Nat} {vs vt : Value} {sh st : List Int} (h : Ov w base vs vt sh st) (o : Obj) : Ov (w.alloc o) base vs vt sh st := h.below ((Below.refl _ _).alloc (Nat.le_refl _) _)
theorem Ov.drew {w : World} {base : Nat} {vs vt : Value} {sh st : List Int} (h : Ov w base vs vt sh st) : Ov w.drew base vs vt sh st := h
theorem Ov.box {w : World} {base b : Nat} {vs vt : Value} {sh st : List Int} {cs : Array Value} (h : Ov w base vs vt sh st) (hb : Blk w b 25 cs) (x y z : Value) : Ov (((w.setCell ⟨b, 0, none⟩ x).setCell ⟨b, 1, none⟩ y).setCell ⟨b, 2, none⟩ z) base vs vt sh st :=
  h.kept (grown_box3 w b x y z) (.inl (own_not_box h.1 hb)) (.inl (own_not_box h.2.1 hb))
theorem Below.box {w W : World} {B b : Nat} (h : Below B w W) (hb : B ≤ b) (x y z : Value) : Below B w (((W.setCell ⟨b, 0, none⟩ x).setCell ⟨b, 1, none⟩ y).setCell ⟨b, 2, none⟩ z) := ((h.setCell hb _).setCell hb _).setCell hb _
/-- Slice's shape, its place. -/
def slv (sh : List Int) (x y z : Int) : List Int := sh.set x.toNat (z - y)
def slo (st : List Int) (off x y : Int) : Int := off + y * st.getD x.toNat 0
set_option maxRecDepth 100000 in
set_option maxHeartbeats 4000000 in
theorem slice_any (vs vt : Value) (sh st : List Int) (off x y z : Int) (w : World) (hs : Ld w vs sh) (ht : Ld w vt st) (l1 : sh.length ≤ 1073741824) (l2 : st.length ≤ 17592186044416) :
    Calls Try.prog 21 #[.agg #[vs, vt, .int .i64 off], .int .i64 x, .int .i64 y, .int .i64 z] w (SomeV w (sle sh st off x y z) (unl (sle sh st off x y z) (slv sh x y z)) (unl (sle sh st off x y z) st) (unn (sle sh st off x y z) (slo st off x y))) := by
  have hB0 : Below w.heap.size w ((w.alloc (.cells #[vs, vt, .int .i64 off] 25)).alloc (.cells #[.slice none 0 0, .slice none 0 0, .int .i64 0] 25)) := ((Below.refl _ _).alloc (Nat.le_refl _) _).alloc (by simp) _
  have hX0 : Blk ((w.alloc (.cells #[vs, vt, .int .i64 off] 25)).alloc (.cells #[.slice none 0 0, .slice none 0 0, .int .i64 0] 25)) w.heap.size 25 #[vs, vt, .int .i64 off] := (Blk.new w _ _).alloc _
  have hX1 : Blk ((w.alloc (.cells #[vs, vt, .int .i64 off] 25)).alloc (.cells #[.slice none 0 0, .slice none 0 0, .int .i64 0] 25)) (w.heap.size + 1) 25 #[.slice none 0 0, .slice none 0 0, .int .i64 0] := by
    have := Blk.new (w.alloc (.cells #[vs, vt, .int .i64 off] 25)) 25 #[.slice none 0 0, .slice none 0 0, .int .i64 0]
    rwa [World.size_alloc] at this
  have CK := vcheck_any vs vt sh st off 65536 _ (hs.below hB0) (ht.below hB0) (by omega) l2
  simp only [World.size_alloc] at CK
  replace CK := Lib.hid CK
  have CL1 := Lib.hid (fun (W : World) (hb : Below w.heap.size w W) => cloned_any vs sh W (hs.below hb) (by omega))
  have CL2 := Lib.hid (fun (h : st.length ≤ 4) (W : World) (hb : Below w.heap.size w W) => cloned_any vt st W (ht.below hb) (by omega))
  obtain ⟨os, cs, rfl, _, hxs⟩ := hs
  obtain ⟨ot, ct, rfl, _, hxt⟩ := ht
  have HS := Lib.hid hxs
  have HT := Lib.hid hxt
  clear hxs hxt
  have HX0 := Lib.hid hX0
  have HX1 := Lib.hid hX1
  have HB0 := Lib.hid hB0
  clear hX0 hX1 hB0
  cases hv : vwb sh st off 65536 with
  | false =>
    have R : Hid (sle sh st off x y z = 1) := by unfold sle; rw [hv]; exact Lib.hid rfl
    rw [hv, frm_f] at CK
    clear hv CL1 CL2
    go_enter Try.func21, Try.ntmps21
    go_wp2_with (go_at_call 28; (with_reducible refine CK.out.mono ?_); rintro e w2 ⟨rfl, hb2⟩; have Y1 := Lib.hid (HX1.out.below hb2 (by omega)); obtain ⟨d0, d1, d2, f0, f1, f2⟩ := blk3 Y1.out; have B2 := Lib.hid (HB0.out.trans (hb2.mono (by omega))); clear hb2)
    refine bodyPost_ret (v := .tuple #[.agg #[.slice none 0 0, .slice none 0 0, .int .i64 0], .int .i64 1]) (by simp [results, Try.results21, go_sem, d0, d1, d2]) rfl ?_
    rw [R.out]
    exact someV_end (sh := []) (st := []) (Nat.le_succ _) B2.out Y1.out rfl rfl (ov_nil _ _)
  | true =>
    rw [hv, frm_t] at CK
    have hVw := vwb_iff.1 hv
    have HV := Lib.hid hVw
    have l4 := may_len hVw.1
    by_cases g : 0 ≤ x ∧ x < sh.length ∧ 0 ≤ y ∧ y < z ∧ z ≤ sh.getD x.toNat 0
    · obtain ⟨g1, g2, g3, g4, g5⟩ := g
      have R : Hid (sle sh st off x y z = 0) := by
        unfold sle slb
        rw [hv, decide_eq_true g1, decide_eq_true g2, decide_eq_true g3, decide_eq_true g4, decide_eq_true g5]; exact Lib.hid rfl
      obtain ⟨a, rfl⟩ : ∃ a : Nat, x = (a : Int) := ⟨x.toNat, by omega⟩
      have alt : a < sh.length := by omega
      have alt2 : a < st.length := by have := hVw.2.1; omega
      have EV : Hid (slv sh a y z = sh.set a (z - y) ∧ slo st off a y = off + y * st.getD a 0) := ⟨rfl, rfl⟩
      rw [Int.toNat_natCast] at g5
      have hd := may_dim hVw.1 alt
      have hst := hVw.2.2.1 _ (getD_mem alt2)
      obtain ⟨bs, fs, rfl, ns, xs⟩ := HS.out a alt
      obtain ⟨bt, ft, rfl, nt, xt⟩ := HT.out a alt2
      have ho := hVw.2.2.2.1
      have ho2 : off < 65536 := hVw.2.2.2.2.2.1
      have m0 := Int.mul_nonneg g3 hst.1
      have m1 := Int.mul_le_mul (show y ≤ 4096 by omega) hst.2 hst.1 (by decide)
      replace CL2 := Lib.hid (CL2.out (by have := hVw.2.1; omega))
      have old2 : ∀ (p : Addr) (v : Value), p.block < w.heap.size → w.cell? p = some v → ∀ W, Below w.heap.size w W → W.cell? p = some v := fun p v h1 h2 W hW => (hW.cell (p := p) h1).trans h2
      have OLD := Lib.hid (fun (W : World) (hW : Below w.heap.size w W) => And.intro (old2 _ _ ns xs W hW) (old2 _ _ nt xt W hW))
      clear hv hVw g1 g2 xs xt old2
      have HD := Lib.hid hd
      generalize sh.getD a 0 = d at *
      generalize st.getD a 0 = s at *
      obtain ⟨hst0, hst1⟩ := hst
      generalize hm : y * s = m at *
      clear hd
      go_enter Try.func21, Try.ntmps21
      go_wp2_with (go_at_call 28; (with_reducible refine CK.out.mono ?_); rintro e w2 ⟨rfl, hb2⟩; have Y1 := Lib.hid (HX1.out.below hb2 (by omega)); have Y0 := Lib.hid (HX0.out.below hb2 (by omega)); obtain ⟨c0, c1, c2, _⟩ := (blk3 Y0.out); have B2 := Lib.hid (HB0.out.trans (hb2.mono (by omega))); obtain ⟨xs', xt'⟩ := OLD.out _ B2.out; clear hb2)
      have bb2 := B2.out
      have s2 := bb2.size
      have y0l := Y0.out.lt
      have e1 : IntKind.i64.wrap m = m := IntWalk.i64_in _ ⟨by omega, by omega⟩
      have e2 : IntKind.i64.wrap (off + m) = off + m := IntWalk.i64_in _ ⟨by omega, by omega⟩
      have KS := Lib.hid (fun (W : World) (hW : Below w2.heap.size w2 W) => have c := blk3 (Y0.out.below hW y0l); have d := OLD.out W (bb2.trans (hW.mono s2)); And.intro c.1 (And.intro c.2.1 (And.intro c.2.2.1 d.2)))
      go_cut [11] (fun s11 wx => ∃ (P g1 c1 : Nat) (o4 : Option Addr) (c4 : Nat), s11 = .pointer (some ⟨P, 0, none⟩) ∧ Blk wx P 25 #[.slice (some ⟨g1, 0, none⟩) sh.length c1, .slice o4 st.length c4, .int .i64 (off + m)] ∧ Hid (Ov wx w2.heap.size (.slice (some ⟨g1, 0, none⟩) sh.length c1) (.slice o4 st.length c4) sh st) ∧ Hid (Below w2.heap.size w2 wx))
      case first =>
        go_region_held3 (fun W => W.cell? ⟨w.heap.size, 0, none⟩ = some (.slice (some ⟨bs, fs, none⟩) sh.length cs) ∧ W.cell? ⟨w.heap.size, 1, none⟩ = some (.slice (some ⟨bt, ft, none⟩) st.length ct) ∧ W.cell? ⟨w.heap.size, 2, none⟩ = some (.int .i64 off) ∧ W.cell? ⟨bt, ft + a, none⟩ = some (.int .i64 s)) (first | go_keep | (refine KS.out _ ?_; repeat (first | assumption | exact Nat.le_refl _ | exact Below.refl _ _ | apply below_drew1 | (refine Below.setCell ?_ ?_ _) | (refine Below.alloc ?_ ?_ _) | omega | (simp; omega))))
          (first
            | (go_at_call 51; (with_reducible refine Go.Calls.mono (CL1.out _ ?_) ?_); (· (repeat (first | assumption | exact Nat.le_refl _ | exact Below.refl _ _ | apply below_drew1 | (refine Below.alloc ?_ ?_ _) | omega | (simp; omega)))); rintro e w3 ⟨o3, c3, rfl, ho3, _, hb3⟩; obtain ⟨g3, rfl⟩ := own_some ho3 (by omega); have bz3 : Below w2.heap.size w2 w3 := (by refine Below.trans ?_ (hb3.mono ?_); (· repeat (first | assumption | exact Nat.le_refl _ | exact Below.refl _ _ | apply below_drew1 | (refine Below.alloc ?_ ?_ _) | omega | (simp; omega))); (· first | exact Nat.le_refl _ | omega | (simp; done) | (simp; omega))); have bb3 := bb2.trans (bz3.mono s2); have s3 := bz3.size; have O3 := Lib.hid (own_base (base' := w2.heap.size) ho3 (by first | exact Nat.le_refl _ | omega | (simp; done) | (simp; omega))); (first | (have zz3 : Blk w3 w2.heap.size 25 #[.slice none 0 0, .slice none 0 0, .int .i64 0] := Blk.below (by exact Blk.new w2 _ _) hb3 (by simp); have zl3 := zz3.lt; obtain ⟨p0, p1, p2, pf0, pf1, pf2⟩ := blk3 zz3) | skip); obtain ⟨k0, k1, k2, _⟩ := blk3 (Y0.out.below bz3 (by assumption)); obtain ⟨_, k3⟩ := OLD.out _ bb3; replace ho3 := Lib.hid ho3)
            | (go_at_call 51; (with_reducible refine Go.Calls.mono (CL2.out _ ?_) ?_); (· (repeat (first | assumption | exact Nat.le_refl _ | exact Below.refl _ _ | apply below_drew1 | (refine Below.alloc ?_ ?_ _) | omega | (simp; omega)))); rintro e w4 ⟨o4, c4, rfl, ho4, _, hb4⟩; have bz34 : Below w3.heap.size w3 w4 := (by refine Below.trans ?_ (hb4.mono ?_); (· repeat (first | assumption | exact Nat.le_refl _ | exact Below.refl _ _ | apply below_drew1 | (refine Below.alloc ?_ ?_ _) | omega | (simp; omega))); (· first | exact Nat.le_refl _ | omega | (simp; done) | (simp; omega))); have bz4 : Below w2.heap.size w2 w4 := bz3.trans (bz34.mono s3); have bb4 := bb2.trans (bz4.mono s2); have s4 := bz34.size; have E4 : Hid (Ov w4 w2.heap.size (.slice (some ⟨g3, 0, none⟩) sh.length c3) (.slice o4 st.length c4) sh st) := ⟨Below.keepOwn O3.out bz34 (Nat.le_refl _), own_base ho4 (by first | exact Nat.le_refl _ | omega | (simp; done) | (simp; omega)), (own_apart O3.out ho4 (by first | exact Nat.le_refl _ | omega | (simp; done) | (simp; omega))).1⟩; (first | (have zz4 : Blk w4 w3.heap.size 25 #[.slice none 0 0, .slice none 0 0, .int .i64 0] := Blk.below (by exact Blk.new w3 _ _) hb4 (by simp); obtain ⟨p0, p1, p2, pf0, pf1, pf2⟩ := blk3 zz4) | (have zz4 : Blk w4 w2.heap.size 25 #[.slice none 0 0, .slice none 0 0, .int .i64 0] := Blk.below (by assumption) bz34 (by have := bz3.size; first | assumption | omega); obtain ⟨p0, p1, p2, pf0, pf1, pf2⟩ := blk3 zz4) | skip); obtain ⟨k0, k1, k2, _⟩ := blk3 (Y0.out.below bz4 (by assumption)); obtain ⟨_, k3⟩ := OLD.out _ bb4; replace ho4 := Lib.hid ho4))
        · go_wp2
          go_meet
          refine ⟨_, g3, c3, o4, c4, rfl, ?_, ?_, ?_⟩
          · exact Blk.new w4 _ _
          · exact (E4.out.alloc _)
          · exact (bz4.alloc (by have := bz4.size; omega) _)
        · go_wp2
          go_meet
          refine ⟨_, g3, c3, o4, c4, rfl, ?_, ?_, ?_⟩
          · exact ((zz4.set_ 0 _).set_ 1 _).set_ 2 _
          · exact E4.out.box zz4 _ _ _
          · exact Below.box bz4 (by first | exact Nat.le_refl _ | assumption) _ _ _
        · go_wp2
          go_meet
          refine ⟨_, g3, c3, o4, c4, rfl, ?_, ?_, ?_⟩
          · exact ((zz4.set_ 0 _).set_ 1 _).set_ 2 _
          · exact E4.out.box zz4 _ _ _
          · exact Below.box bz4 (by first | exact Nat.le_refl _ | assumption) _ _ _
      case rest =>
        obtain ⟨P, g1, c1, o4, c4, rfl, hb, HO, HB⟩ := hcut
        obtain ⟨t0, t1, t2, _⟩ := blk3 hb
        have ga := own_cell HO.out.1 alt
        have gf := own_frozen HO.out.1 a
        have YF := Lib.hid (Y1.out.below HB.out (by have := Y1.out.lt; omega))
        have nP : ¬ P = g1 := fun e => own_not_box HO.out.1 hb (by rw [e]; rfl)
        have nP' : ¬ g1 = P := fun e => nP e.symm
        have ZB := Lib.hid hb
        generalize sh.getD a 0 = q at ga
        have hz0 : 0 ≤ z - y := by omega
        have hz1 : z - y ≤ 4096 := by have := HD.out; omega
        have F1 := Lib.hid (Ov.put HO.out alt (z - y))
        have F2 := Lib.hid ((Blk.far YF.out (p := ⟨g1, a, none⟩) (fun e => own_not_box HO.out.1 YF.out (by rw [e]; rfl)) (.int .i64 (z - y))))
        have F3 := Lib.hid ((HB.out.setCell (p := ⟨g1, a, none⟩) (HO.out.1.lt g1 rfl).1 (.int .i64 (z - y))))
        obtain ⟨d0, d1, d2, f0, f1, f2⟩ := blk3 F2.out
        clear hb
        go_wp2
        refine bodyPost_ret (v := .tuple #[.agg #[.slice (some ⟨g1, 0, none⟩) sh.length c1, .slice o4 st.length c4, .int .i64 (off + m)], .int .i64 0]) (by simp [results, Try.results21, go_sem, d0, d1, d2]) rfl ?_
        rw [R.out, EV.out.1, EV.out.2]
        refine someV_end (sh := sh.set a (z - y)) (st := st) (Nat.le_succ _) (B2.out.trans (F3.out.mono s2)) F2.out (List.length_set ..).symm rfl ?_
        exact Ov.base F1.out s2
    · have R : Hid (sle sh st off x y z = 2) := by
        unfold sle
        rw [hv, slb_no g]; exact Lib.hid rfl
      clear hv hVw CL1 CL2
      by_cases g1 : x < 0
      · clear g
        go_enter Try.func21, Try.ntmps21
        go_wp2_with (go_at_call 28; (with_reducible refine CK.out.mono ?_); rintro e w2 ⟨rfl, hb2⟩; have Y1 := Lib.hid (HX1.out.below hb2 (by omega)); have Y0 := Lib.hid (HX0.out.below hb2 (by omega)); obtain ⟨c0, c1, c2, _⟩ := (blk3 Y0.out); obtain ⟨d0, d1, d2, f0, f1, f2⟩ := blk3 Y1.out; have B2 := Lib.hid (HB0.out.trans (hb2.mono (by omega))); clear hb2)
        refine bodyPost_ret (v := .tuple #[.agg #[.slice none 0 0, .slice none 0 0, .int .i64 0], .int .i64 2]) (by simp [results, Try.results21, go_sem, d0, d1, d2]) rfl ?_
        rw [R.out]
        exact someV_end (sh := []) (st := []) (Nat.le_succ _) B2.out Y1.out rfl rfl (ov_nil _ _)
      by_cases g2 : (sh.length : Int) ≤ x
      · clear g
        go_enter Try.func21, Try.ntmps21
        go_wp2_with (go_at_call 28; (with_reducible refine CK.out.mono ?_); rintro e w2 ⟨rfl, hb2⟩; have Y1 := Lib.hid (HX1.out.below hb2 (by omega)); have Y0 := Lib.hid (HX0.out.below hb2 (by omega)); obtain ⟨c0, c1, c2, _⟩ := (blk3 Y0.out); obtain ⟨d0, d1, d2, f0, f1, f2⟩ := blk3 Y1.out; have B2 := Lib.hid (HB0.out.trans (hb2.mono (by omega))); clear hb2)
        refine bodyPost_ret (v := .tuple #[.agg #[.slice none 0 0, .slice none 0 0, .int .i64 0], .int .i64 2]) (by simp [results, Try.results21, go_sem, d0, d1, d2]) rfl ?_
        rw [R.out]
        exact someV_end (sh := []) (st := []) (Nat.le_succ _) B2.out Y1.out rfl rfl (ov_nil _ _)
      by_cases g3 : y < 0
      · clear g
        go_enter Try.func21, Try.ntmps21
        go_wp2_with (go_at_call 28; (with_reducible refine CK.out.mono ?_); rintro e w2 ⟨rfl, hb2⟩; have Y1 := Lib.hid (HX1.out.below hb2 (by omega)); have Y0 := Lib.hid (HX0.out.below hb2 (by omega)); obtain ⟨c0, c1, c2, _⟩ := (blk3 Y0.out); obtain ⟨d0, d1, d2, f0, f1, f2⟩ := blk3 Y1.out; have B2 := Lib.hid (HB0.out.trans (hb2.mono (by omega))); clear hb2)
        refine bodyPost_ret (v := .tuple #[.agg #[.slice none 0 0, .slice none 0 0, .int .i64 0], .int .i64 2]) (by simp [results, Try.results21, go_sem, d0, d1, d2]) rfl ?_
        rw [R.out]
        exact someV_end (sh := []) (st := []) (Nat.le_succ _) B2.out Y1.out rfl rfl (ov_nil _ _)
      by_cases g4 : z ≤ y
      · clear g
        go_enter Try.func21, Try.ntmps21
        go_wp2_with (go_at_call 28; (with_reducible refine CK.out.mono ?_); rintro e w2 ⟨rfl, hb2⟩; have Y1 := Lib.hid (HX1.out.below hb2 (by omega)); have Y0 := Lib.hid (HX0.out.below hb2 (by omega)); obtain ⟨c0, c1, c2, _⟩ := (blk3 Y0.out); obtain ⟨d0, d1, d2, f0, f1, f2⟩ := blk3 Y1.out; have B2 := Lib.hid (HB0.out.trans (hb2.mono (by omega))); clear hb2)
        refine bodyPost_ret (v := .tuple #[.agg #[.slice none 0 0, .slice none 0 0, .int .i64 0], .int .i64 2]) (by simp [results, Try.results21, go_sem, d0, d1, d2]) rfl ?_
        rw [R.out]
        exact someV_end (sh := []) (st := []) (Nat.le_succ _) B2.out Y1.out rfl rfl (ov_nil _ _)
      have g5 : sh.getD x.toNat 0 < z := by omega
      clear g
      obtain ⟨a, rfl⟩ : ∃ a : Nat, x = (a : Int) := ⟨x.toNat, by omega⟩
      have alt : a < sh.length := by omega
      rw [Int.toNat_natCast] at g5
      obtain ⟨bs, fs, rfl, ns, xs⟩ := HS.out a alt
      have OLD := Lib.hid (fun (W : World) (hW : Below w.heap.size w W) => (hW.cell (p := ⟨bs, fs + a, none⟩) ns).trans xs)
      clear xs
      generalize sh.getD a 0 = d at *
      go_enter Try.func21, Try.ntmps21
      go_wp2_with (go_at_call 28; (with_reducible refine CK.out.mono ?_); rintro e w2 ⟨rfl, hb2⟩; have Y1 := Lib.hid (HX1.out.below hb2 (by omega)); have Y0 := Lib.hid (HX0.out.below hb2 (by omega)); obtain ⟨c0, c1, c2, _⟩ := (blk3 Y0.out); obtain ⟨d0, d1, d2, f0, f1, f2⟩ := blk3 Y1.out; have B2 := Lib.hid (HB0.out.trans (hb2.mono (by omega))); have xs' := OLD.out _ B2.out; clear hb2)
      refine bodyPost_ret (v := .tuple #[.agg #[.slice none 0 0, .slice none 0 0, .int .i64 0], .int .i64 2]) (by simp [results, Try.results21, go_sem, d0, d1, d2]) rfl ?_
      rw [R.out]
      exact someV_end (sh := []) (st := []) (Nat.le_succ _) B2.out Y1.out rfl rfl (ov_nil _ _)
end Go.Proofs.Ytdcmcfmodbdhaaa
namespace Go.Proofs.Ytdcmcfmodbdhaaa
open Go.RowKit
attribute [local go_sem ↓] Go.wp_at_zero Go.wp_at_succ

set_option maxRecDepth 100000 in
set_option maxHeartbeats 4000000 in
theorem rslice_any (vs vt : Value) (sh st : List Int) (off x y z : Int) (w : World) (hs : Ld w vs sh) (ht : Ld w vt st) (hv : vwb sh st off 65536 = true) (hsl : slb sh x y z = true) :
    Calls Try.prog 12 #[.agg #[vs, vt, .int .i64 off], .int .i64 x, .int .i64 y, .int .i64 z] w (SomeW w (slv sh x y z) st (slo st off x y)) := by
  obtain ⟨w2, hw2⟩ : ∃ w2, w2 = (w.alloc (.cells #[vs, vt, .int .i64 off] 25)).alloc (.cells #[.slice none 0 0, .slice none 0 0, .int .i64 0] 25) := ⟨_, rfl⟩
  have hsz : w2.heap.size = w.heap.size + 2 := by rw [hw2]; simp
  have B2 : Hid (Below w.heap.size w w2) := by rw [hw2]; exact ((Below.refl _ _).alloc (Nat.le_refl _) _).alloc (by simp) _
  have Y0 : Hid (Blk w2 w.heap.size 25 #[vs, vt, .int .i64 off]) := by rw [hw2]; exact (Blk.new w _ _).alloc _
  have Y1 : Hid (Blk w2 (w.heap.size + 1) 25 #[.slice none 0 0, .slice none 0 0, .int .i64 0]) := by
    rw [hw2]
    have := Blk.new (w.alloc (.cells #[vs, vt, .int .i64 off] 25)) 25 #[.slice none 0 0, .slice none 0 0, .int .i64 0]
    rwa [World.size_alloc] at this
  have hVw := vwb_iff.1 hv
  have l4 := may_len hVw.1
  have l42 : st.length ≤ 4 := by have := hVw.2.1; omega
  have CL1 := Lib.hid (fun (W : World) (hb : Below w.heap.size w W) => copy_any vs sh W (hs.below hb) (by omega))
  have CL2 := Lib.hid (fun (W : World) (hb : Below w.heap.size w W) => copy_any vt st W (ht.below hb) (by omega))
  obtain ⟨os, cs, rfl, _, hxs⟩ := hs
  obtain ⟨ot, ct, rfl, _, hxt⟩ := ht
  obtain ⟨a, rfl, alt, g3, g4, g5⟩ := slb_at hsl
  have alt2 : a < st.length := by have := hVw.2.1; omega
  have EV : Hid (slv sh a y z = sh.set a (z - y) ∧ slo st off a y = off + y * st.getD a 0) := ⟨rfl, rfl⟩
  have hd := may_dim hVw.1 alt
  have hst := hVw.2.2.1 _ (getD_mem alt2)
  obtain ⟨bs, fs, rfl, ns, xs⟩ := hxs a alt
  obtain ⟨bt, ft, rfl, nt, xt⟩ := hxt a alt2
  have ho := hVw.2.2.2.1
  have ho2 : off < 65536 := hVw.2.2.2.2.2.1
  have m0 := Int.mul_nonneg g3 hst.1
  have m1 := Int.mul_le_mul (show y ≤ 4096 by omega) hst.2 hst.1 (by decide)
  have old2 : ∀ (p : Addr) (v : Value), p.block < w.heap.size → w.cell? p = some v → ∀ W, Below w.heap.size w W → W.cell? p = some v := fun p v h1 h2 W hW => (hW.cell (p := p) h1).trans h2
  have OLD := Lib.hid (fun (W : World) (hW : Below w.heap.size w W) => And.intro (old2 _ _ ns xs W hW) (old2 _ _ nt xt W hW))
  clear hv hVw hsl xs xt old2 hxs hxt
  have HD := Lib.hid hd
  generalize sh.getD a 0 = d at *
  generalize st.getD a 0 = s at *
  obtain ⟨hst0, hst1⟩ := hst
  generalize hm : y * s = m at *
  clear hd
  have HW := Lib.hid (And.intro hw2 hsz)
  obtain ⟨xs', xt'⟩ := OLD.out _ B2.out
  obtain ⟨c0, c1, c2, _⟩ := blk3 Y0.out
  clear hw2 hsz
  go_enter Try.func12, Try.ntmps12
  go_wp2
  have hgo := HW.out
  rw [← hgo.1]
  clear hgo
  have bb2 := B2.out
  have s2 := bb2.size
  have y0l := Y0.out.lt
  have e1 : IntKind.i64.wrap m = m := IntWalk.i64_in _ ⟨by omega, by omega⟩
  have e2 : IntKind.i64.wrap (off + m) = off + m := IntWalk.i64_in _ ⟨by omega, by omega⟩
  have KS := Lib.hid (fun (W : World) (hW : Below w2.heap.size w2 W) => have c := blk3 (Y0.out.below hW y0l); have d := OLD.out W (bb2.trans (hW.mono s2)); And.intro c.1 (And.intro c.2.1 (And.intro c.2.2.1 d.2)))
  go_cut [9] (fun s9 wx => ∃ (P g1 c1 : Nat) (o4 : Option Addr) (c4 : Nat), s9 = .pointer (some ⟨P, 0, none⟩) ∧ Blk wx P 25 #[.slice (some ⟨g1, 0, none⟩) sh.length c1, .slice o4 st.length c4, .int .i64 (off + m)] ∧ Hid (Ov wx w2.heap.size (.slice (some ⟨g1, 0, none⟩) sh.length c1) (.slice o4 st.length c4) sh st) ∧ Hid (Below w2.heap.size w2 wx))
  case first =>
    go_region_held3 (fun W => W.cell? ⟨w.heap.size, 0, none⟩ = some (.slice (some ⟨bs, fs, none⟩) sh.length cs) ∧ W.cell? ⟨w.heap.size, 1, none⟩ = some (.slice (some ⟨bt, ft, none⟩) st.length ct) ∧ W.cell? ⟨w.heap.size, 2, none⟩ = some (.int .i64 off) ∧ W.cell? ⟨bt, ft + a, none⟩ = some (.int .i64 s)) (first | go_keep | (refine KS.out _ ?_; repeat (first | assumption | exact Nat.le_refl _ | exact Below.refl _ _ | apply below_drew1 | (refine Below.setCell ?_ ?_ _) | (refine Below.alloc ?_ ?_ _) | omega | (simp; omega))))
      (first
        | (go_at_call 45; (with_reducible refine Go.Calls.mono (CL1.out _ ?_) ?_); (· (repeat (first | assumption | exact Nat.le_refl _ | exact Below.refl _ _ | apply below_drew1 | (refine Below.alloc ?_ ?_ _) | omega | (simp; omega)))); rintro e w3 ⟨o3, c3, rfl, ho3, _, hb3⟩; obtain ⟨g3, rfl⟩ := own_some ho3 (by omega); have bz3 : Below w2.heap.size w2 w3 := (by refine Below.trans ?_ (hb3.mono ?_); (· repeat (first | assumption | exact Nat.le_refl _ | exact Below.refl _ _ | apply below_drew1 | (refine Below.alloc ?_ ?_ _) | omega | (simp; omega))); (· first | exact Nat.le_refl _ | omega | (simp; done) | (simp; omega))); have bb3 := bb2.trans (bz3.mono s2); have s3 := bz3.size; have O3 := Lib.hid (own_base (base' := w2.heap.size) ho3 (by first | exact Nat.le_refl _ | omega | (simp; done) | (simp; omega))); (first | (have zz3 : Blk w3 w2.heap.size 25 #[.slice none 0 0, .slice none 0 0, .int .i64 0] := Blk.below (by exact Blk.new w2 _ _) hb3 (by simp); have zl3 := zz3.lt; obtain ⟨p0, p1, p2, pf0, pf1, pf2⟩ := blk3 zz3) | skip); obtain ⟨k0, k1, k2, _⟩ := blk3 (Y0.out.below bz3 (by assumption)); obtain ⟨_, k3⟩ := OLD.out _ bb3; replace ho3 := Lib.hid ho3)
        | (go_at_call 45; (with_reducible refine Go.Calls.mono (CL2.out _ ?_) ?_); (· (repeat (first | assumption | exact Nat.le_refl _ | exact Below.refl _ _ | apply below_drew1 | (refine Below.alloc ?_ ?_ _) | omega | (simp; omega)))); rintro e w4 ⟨o4, c4, rfl, ho4, _, hb4⟩; have bz34 : Below w3.heap.size w3 w4 := (by refine Below.trans ?_ (hb4.mono ?_); (· repeat (first | assumption | exact Nat.le_refl _ | exact Below.refl _ _ | apply below_drew1 | (refine Below.alloc ?_ ?_ _) | omega | (simp; omega))); (· first | exact Nat.le_refl _ | omega | (simp; done) | (simp; omega))); have bz4 : Below w2.heap.size w2 w4 := bz3.trans (bz34.mono s3); have bb4 := bb2.trans (bz4.mono s2); have s4 := bz34.size; have E4 : Hid (Ov w4 w2.heap.size (.slice (some ⟨g3, 0, none⟩) sh.length c3) (.slice o4 st.length c4) sh st) := ⟨Below.keepOwn O3.out bz34 (Nat.le_refl _), own_base ho4 (by first | exact Nat.le_refl _ | omega | (simp; done) | (simp; omega)), (own_apart O3.out ho4 (by first | exact Nat.le_refl _ | omega | (simp; done) | (simp; omega))).1⟩; (first | (have zz4 : Blk w4 w3.heap.size 25 #[.slice none 0 0, .slice none 0 0, .int .i64 0] := Blk.below (by exact Blk.new w3 _ _) hb4 (by simp); obtain ⟨p0, p1, p2, pf0, pf1, pf2⟩ := blk3 zz4) | (have zz4 : Blk w4 w2.heap.size 25 #[.slice none 0 0, .slice none 0 0, .int .i64 0] := Blk.below (by assumption) bz34 (by have := bz3.size; first | assumption | omega); obtain ⟨p0, p1, p2, pf0, pf1, pf2⟩ := blk3 zz4) | skip); obtain ⟨k0, k1, k2, _⟩ := blk3 (Y0.out.below bz4 (by assumption)); obtain ⟨_, k3⟩ := OLD.out _ bb4; replace ho4 := Lib.hid ho4))
    · go_wp2
      go_meet
      refine ⟨_, g3, c3, o4, c4, rfl, ?_, ?_, ?_⟩
      · exact Blk.new w4 _ _
      · exact (E4.out.alloc _)
      · exact (bz4.alloc (by have := bz4.size; omega) _)
    · go_wp2
      go_meet
      refine ⟨_, g3, c3, o4, c4, rfl, ?_, ?_, ?_⟩
      · exact ((zz4.set_ 0 _).set_ 1 _).set_ 2 _
      · exact E4.out.box zz4 _ _ _
      · exact Below.box bz4 (by first | exact Nat.le_refl _ | assumption) _ _ _
    · go_wp2
      go_meet
      refine ⟨_, g3, c3, o4, c4, rfl, ?_, ?_, ?_⟩
      · exact ((zz4.set_ 0 _).set_ 1 _).set_ 2 _
      · exact E4.out.box zz4 _ _ _
      · exact Below.box bz4 (by first | exact Nat.le_refl _ | assumption) _ _ _
  case rest =>
    obtain ⟨P, g1, c1, o4, c4, rfl, hb, HO, HB⟩ := hcut
    obtain ⟨t0, t1, t2, _⟩ := blk3 hb
    have ga := own_cell HO.out.1 alt
    have gf := own_frozen HO.out.1 a
    have YF := Lib.hid (Y1.out.below HB.out (by have := Y1.out.lt; omega))
    have nP : ¬ P = g1 := fun e => own_not_box HO.out.1 hb (by rw [e]; rfl)
    have nP' : ¬ g1 = P := fun e => nP e.symm
    have ZB := Lib.hid hb
    generalize sh.getD a 0 = q at ga
    have hz0 : 0 ≤ z - y := by omega
    have hz1 : z - y ≤ 4096 := by have := HD.out; omega
    have F1 := Lib.hid (Ov.put HO.out alt (z - y))
    have F2 := Lib.hid ((Blk.far YF.out (p := ⟨g1, a, none⟩) (fun e => own_not_box HO.out.1 YF.out (by rw [e]; rfl)) (.int .i64 (z - y))))
    have F3 := Lib.hid ((HB.out.setCell (p := ⟨g1, a, none⟩) (HO.out.1.lt g1 rfl).1 (.int .i64 (z - y))))
    obtain ⟨d0, d1, d2, f0, f1, f2⟩ := blk3 F2.out
    clear hb
    go_wp2
    refine bodyPost_ret (v := .agg #[.slice (some ⟨g1, 0, none⟩) sh.length c1, .slice o4 st.length c4, .int .i64 (off + m)]) (by simp [results, Try.results12, go_sem, d0, d1, d2]) rfl ?_
    rw [EV.out.1, EV.out.2]
    refine someW_end (sh := sh.set a (z - y)) (st := st) (Nat.le_succ _) (B2.out.trans (F3.out.mono s2)) F2.out (List.length_set ..).symm rfl ?_
    exact Ov.base F1.out s2
end Go.Proofs.Ytdcmcfmodbdhaaa
namespace Go.Proofs.Ytdcmcfmodbdhaaa
open Go.RowKit

/-- A list and an error. -/
def SomeL (w : World) (r : Int) (ls : List Int) (e : Ending) (w' : World) : Prop := ∃ v, e = .returned (.tuple #[v, .int .i64 r]) ∧ Ld w' v ls ∧ Below w.heap.size w w'

set_option maxRecDepth 100000 in
set_option maxHeartbeats 2000000 in
theorem over_any (vs : Value) (s : List Int) (w : World) (hs : Ld w vs s) (l4 : s.length ≤ 1073741824) (j : Nat) (j1 : 1 ≤ j) (j2 : j ≤ 1073741824) :
    Calls Try.prog 69 #[vs, .int .i64 j] w fun e w' => e = .returned (.int .i64 (ov s j)) ∧ w = w' := by
  obtain ⟨os, cs, rfl, _, hxs⟩ := hs
  have HS := Lib.hid hxs
  clear hxs
  by_cases h : s.length < j
  · have E : Hid (ov s j = 1) := by unfold ov; rw [if_pos h]; exact Lib.hid rfl
    go_enter Try.func69, Try.ntmps69
    go_wp2
    go_ret
    exact ⟨by rw [E.out]; rfl, rfl⟩
  · obtain ⟨q, hq⟩ : ∃ q, s.length = q + j := ⟨s.length - j, by omega⟩
    obtain ⟨b, f, rfl, hb, hc⟩ := HS.out q (by omega)
    have E : Hid (ov s j = s.getD q 0) := by unfold ov; rw [if_neg h, show s.length - j = q by omega]; exact Lib.hid rfl
    have e1 : ((q + j : Nat) : Int) - (j : Int) = (q : Int) := by omega
    have h2 : ¬ q + j < j := by omega
    rw [hq]
    rw [hq] at l4
    clear HS hq h
    generalize s.getD q 0 = x at *
    go_enter Try.func69, Try.ntmps69
    go_wp2
    go_ret
    exact ⟨by rw [E.out]; rfl, rfl⟩

set_option maxRecDepth 100000 in
set_option maxHeartbeats 4000000 in
theorem spread_any (va vb : Value) (a b : List Int) (w : World) (ha : Ld w va a) (hb : Ld w vb b) (ma : may a = true) (mb : may b = true) :
    Calls Try.prog 53 #[va, vb] w (SomeL w (spe a b) (spv a b)) := by
  obtain ⟨i0, hi0, hz0, hz1, hz2⟩ := info_parts infoI
  have la := may_len ma
  have lb := may_len mb
  have CA := Lib.hid (check_ok va a w ha ma)
  have CB := Lib.hid (check_ok vb b w hb mb)
  have OA := Lib.hid (fun (W : World) (h : Below w.heap.size w W) (j : Nat) (j1 : 1 ≤ j) (j2 : j ≤ 1073741824) => over_any va a W (ha.below h) (by omega) j j1 j2)
  have OB := Lib.hid (fun (W : World) (h : Below w.heap.size w W) (j : Nat) (j1 : 1 ≤ j) (j2 : j ≤ 1073741824) => over_any vb b W (hb.below h) (by omega) j j1 j2)
  have HM := Lib.hid (And.intro (may_dms ma) (may_dms mb))
  obtain ⟨oa, ca, rfl, _, _⟩ := ha
  obtain ⟨ob, cb, rfl, _, _⟩ := hb
  obtain ⟨n, hn⟩ : ∃ n, n = mx a b := ⟨_, rfl⟩
  have e1 : max (a.length : Int) (b.length : Int) = (n : Int) := by rw [hn]; unfold mx; omega
  have hn4 : n ≤ 4 := by rw [hn]; unfold mx; omega
  have mk : (Instr.makeSlice 23 (.int .i64 (n : Int)) (.int .i64 (n : Int))).run Try.prog w = .ok (.slice (some ⟨w.heap.size, 0, none⟩) n n) (w.alloc (.cells (madeCells #[.int .i64 0] n) 3)) := by
    have := run_make (w := w) 23 3 i0 (.int .i64 0) Try.underlying23 hi0 hz0 .i64 .i64 n n (by omega) (by omega) (by rw [hz2]; omega) (by omega)
    rw [this, hz1]; simp [Value.cells]
  rw [made_ints] at mk
  have hn2 : (n = b.length ∧ a.length < b.length) ∨ (n = a.length ∧ ¬ a.length < b.length) := by rw [hn]; unfold mx; omega
  have HN := Lib.hid hn
  clear ma mb hn e1
  have mks : ∃ m : Nat, (m = b.length ∧ a.length < b.length ∨ m = a.length ∧ ¬ a.length < b.length) ∧ (Instr.makeSlice 23 (.int .i64 (m : Int)) (.int .i64 (m : Int))).run Try.prog w = .ok (.slice (some ⟨w.heap.size, 0, none⟩) n n) (w.alloc (.cells (ints (List.replicate n 0)).toArray 3)) := ⟨n, hn2, mk⟩
  clear mk hn2
  obtain ⟨m, hm2, mk⟩ := mks
  rcases hm2 with ⟨rfl, h2⟩ | ⟨rfl, h2⟩
  · go_enter Try.func53, Try.ntmps53
    go_wp2
    go_step3
    go_wp2_with (first | (go_at_call 52; (with_reducible refine CA.out.mono ?_); rintro e w' ⟨rfl, rfl⟩) | (go_at_call 52; (with_reducible refine CB.out.mono ?_); rintro e w' ⟨rfl, rfl⟩))
    clear mk
    go_step3
    go_wp2
    go_loopw [7, 27] (fun s7 s27 wr => ∃ (k : Nat) (L : List Int), k ≤ n ∧ s27 = .int .i64 k ∧ s7 = .bool true ∧ Blk wr w.heap.size 3 (ints L).toArray ∧ Hid (L.length = n ∧ (∀ j, j < k → L.getD j 0 = gr (ov a (n - j)) (ov b (n - j))) ∧ ∀ j, n - k < j → j ≤ n → fa a b j = true) ∧ Below w.heap.size w wr) (fun _ s27 _ => n - (intOf s27).toNat)
    case atStart => exact ⟨0, List.replicate n 0, Nat.zero_le _, rfl, rfl, Blk.new _ _ _, ⟨by simp, fun j hj => absurd hj (Nat.not_lt_zero _), fun j h1 h2 => by omega⟩, (Below.refl _ _).alloc (Nat.le_refl _) _⟩
    case round =>
      obtain ⟨k, L, hk, rfl, rfl, hblk, HL, hB⟩ := hrel
      have hBs := hB.size
      by_cases hlt : k < n
      · obtain ⟨j, hj⟩ : ∃ j, j = n - k := ⟨_, rfl⟩
        have ej : (n : Int) - (k : Int) = (j : Int) := by omega
        have A1 := Lib.hid (OA.out wr hB j (by omega) (by omega))
        have B1 := Lib.hid (OB.out wr hB j (by omega) (by omega))
        have kc := hblk.cell k
        have hL := HL.out.1
        rw [ints_at (by omega)] at kc
        have kf := hblk.frozen k
        generalize L.getD k 0 = l0 at kc
        have HG : Hid (∀ v : Int, v = gr (ov a j) (ov b j) → fa a b j = true → (L.set k v).length = n ∧ (∀ i, i < k + 1 → (L.set k v).getD i 0 = gr (ov a (n - i)) (ov b (n - i))) ∧ ∀ i, n - (k + 1) < i → i ≤ n → fa a b i = true) := by
          intro v hv hf
          have H := HL.out
          refine ⟨by simpa using hL, fun i hi => ?_, fun i h1 h2 => ?_⟩
          · by_cases e : k = i
            · subst e; rw [set_getD_self (by omega), hv, hj]
            · rw [set_getD_ne e]; exact H.2.1 i (by omega)
          · by_cases e : i = j
            · subst e; exact hf
            · exact H.2.2 i (by omega) h2
        have HF : Hid (fa a b j = true ↔ ov a j = ov b j ∨ ov a j = 1 ∨ ov b j = 1) := fa_iff a b j
        have HE : Hid (fa a b j = false → spe a b = 2 ∧ spv a b = []) := by
          intro hf
          have : fit a b = false := by
            cases h : fit a b with
            | false => rfl
            | true => rw [(fitN_iff a b _).1 h j (by omega) (by rw [← HN.out]; omega)] at hf; cases hf
          have e : spe a b = 2 := by unfold spe; rw [this]; rfl
          exact ⟨e, by unfold spv; rw [if_neg (by omega)]⟩
        generalize ov a j = x at *
        generalize ov b j = y at *
        have HJ := Lib.hid (And.intro hj hL)
        clear hj hL
        have AR : ∀ (Q : Prop), Q → Q := fun _ h => h
        by_cases g1 : x = y
        · subst g1
          have R := Lib.hid (HG.out x (by unfold gr; split <;> rfl) (HF.out.2 (.inl rfl)))
          clear AR
          go_wp2_with (first | (go_at_call 69; (with_reducible refine A1.out.mono ?_); rintro e w' ⟨rfl, rfl⟩) | (go_at_call 69; (with_reducible refine B1.out.mono ?_); rintro e w' ⟨rfl, rfl⟩))
          refine ⟨⟨k + 1, L.set k x, by omega, by go_num, rfl, hblk.put k x, R, hB.setCell (Nat.le_refl _) _⟩, by simp [intOf]; omega⟩
        have b1 : (x == y) = false := by rw [beq_eq_false_iff_ne]; exact g1
        by_cases g2 : y = 1
        · subst g2
          have R := Lib.hid (HG.out x (by unfold gr; rfl) (HF.out.2 (.inr (.inr rfl))))
          clear AR g1
          go_wp2_with (first | (go_at_call 69; (with_reducible refine A1.out.mono ?_); rintro e w' ⟨rfl, rfl⟩) | (go_at_call 69; (with_reducible refine B1.out.mono ?_); rintro e w' ⟨rfl, rfl⟩))
          refine ⟨⟨k + 1, L.set k x, by omega, by go_num, rfl, hblk.put k x, R, hB.setCell (Nat.le_refl _) _⟩, by simp [intOf]; omega⟩
        have b2 : (y == 1) = false := by rw [beq_eq_false_iff_ne]; exact g2
        by_cases g3 : x = 1
        · subst g3
          have R := Lib.hid (HG.out y (by unfold gr; rw [if_neg g2]) (HF.out.2 (.inr (.inl rfl))))
          clear AR g1 g2
          go_wp2_with (first | (go_at_call 69; (with_reducible refine A1.out.mono ?_); rintro e w' ⟨rfl, rfl⟩) | (go_at_call 69; (with_reducible refine B1.out.mono ?_); rintro e w' ⟨rfl, rfl⟩))
          refine ⟨⟨k + 1, L.set k y, by omega, by go_num, rfl, hblk.put k y, R, hB.setCell (Nat.le_refl _) _⟩, by simp [intOf]; omega⟩
        have b3 : (x == 1) = false := by rw [beq_eq_false_iff_ne]; exact g3
        have R := Lib.hid (HE.out (by
          cases h : fa a b j with
          | false => rfl
          | true => rcases HF.out.1 h with h | h | h
                    · exact absurd h g1
                    · exact absurd h g3
                    · exact absurd h g2))
        clear AR g1 g2 g3
        go_wp2_with (first | (go_at_call 69; (with_reducible refine A1.out.mono ?_); rintro e w' ⟨rfl, rfl⟩) | (go_at_call 69; (with_reducible refine B1.out.mono ?_); rintro e w' ⟨rfl, rfl⟩))
        rw [Exit.noGoto_ret]
        go_ret2
        exact ⟨_, by rw [R.out.1]; rfl, by rw [R.out.2]; exact Ld.nil _, hB⟩
      · obtain rfl : k = n := by omega
        have E : L = spr a b := by
          have H := HL.out
          unfold spr
          rw [← HN.out]
          refine ext_getD (by rw [spl_len]; exact H.1) fun i hi => ?_
          rw [spl_getD _ _ _ _ (by omega)]
          exact H.2.1 i (by omega)
        have hfit : fit a b = true := by
          unfold fit
          rw [← HN.out]
          exact (fitN_iff _ _ _).2 fun j h1 h2 => HL.out.2.2 j (by omega) h2
        have hL := HL.out.1
        subst E
        have hld := Ld.of_blk hblk (c := k) (by omega)
        rw [hL] at hld
        cases hm : may (spr a b) with
        | true =>
          have R : Hid (spe a b = 0 ∧ spv a b = spr a b) := by
            have e : spe a b = 0 := by unfold spe; rw [if_pos hfit, if_pos hm]
            exact ⟨e, by unfold spv; rw [if_pos e]⟩
          have C := Lib.hid (check_ok _ _ wr hld hm)
          have HLD := Lib.hid hld
          clear hfit hm hld hL
          go_wp2_with (go_at_call 52; (with_reducible refine C.out.mono ?_); rintro e w' ⟨rfl, rfl⟩)
          rw [Exit.noGoto_ret]
          go_ret2
          exact ⟨_, by rw [R.out.1]; rfl, by rw [R.out.2]; exact HLD.out, hB⟩
        | false =>
          have R : Hid (spe a b = 5 ∧ spv a b = []) := by
            have e : spe a b = 5 := by unfold spe; rw [if_pos hfit, hm]; rfl
            exact ⟨e, by unfold spv; rw [if_neg (by omega)]⟩
          have C := Lib.hid (check_no _ _ wr hld hm)
          clear hfit hm hld hL
          go_wp2_with (go_at_call 52; (with_reducible refine C.out.mono ?_); rintro e w' ⟨rfl, rfl⟩)
          rw [Exit.noGoto_ret]
          go_ret2
          exact ⟨_, by rw [R.out.1]; rfl, by rw [R.out.2]; exact Ld.nil _, hB⟩
  · go_enter Try.func53, Try.ntmps53
    go_wp2
    go_step3
    go_wp2_with (first | (go_at_call 52; (with_reducible refine CA.out.mono ?_); rintro e w' ⟨rfl, rfl⟩) | (go_at_call 52; (with_reducible refine CB.out.mono ?_); rintro e w' ⟨rfl, rfl⟩))
    clear mk
    go_step3
    go_wp2
    go_loopw [7, 27] (fun s7 s27 wr => ∃ (k : Nat) (L : List Int), k ≤ n ∧ s27 = .int .i64 k ∧ s7 = .bool true ∧ Blk wr w.heap.size 3 (ints L).toArray ∧ Hid (L.length = n ∧ (∀ j, j < k → L.getD j 0 = gr (ov a (n - j)) (ov b (n - j))) ∧ ∀ j, n - k < j → j ≤ n → fa a b j = true) ∧ Below w.heap.size w wr) (fun _ s27 _ => n - (intOf s27).toNat)
    case atStart => exact ⟨0, List.replicate n 0, Nat.zero_le _, rfl, rfl, Blk.new _ _ _, ⟨by simp, fun j hj => absurd hj (Nat.not_lt_zero _), fun j h1 h2 => by omega⟩, (Below.refl _ _).alloc (Nat.le_refl _) _⟩
    case round =>
      obtain ⟨k, L, hk, rfl, rfl, hblk, HL, hB⟩ := hrel
      have hBs := hB.size
      by_cases hlt : k < n
      · obtain ⟨j, hj⟩ : ∃ j, j = n - k := ⟨_, rfl⟩
        have ej : (n : Int) - (k : Int) = (j : Int) := by omega
        have A1 := Lib.hid (OA.out wr hB j (by omega) (by omega))
        have B1 := Lib.hid (OB.out wr hB j (by omega) (by omega))
        have kc := hblk.cell k
        have hL := HL.out.1
        rw [ints_at (by omega)] at kc
        have kf := hblk.frozen k
        generalize L.getD k 0 = l0 at kc
        have HG : Hid (∀ v : Int, v = gr (ov a j) (ov b j) → fa a b j = true → (L.set k v).length = n ∧ (∀ i, i < k + 1 → (L.set k v).getD i 0 = gr (ov a (n - i)) (ov b (n - i))) ∧ ∀ i, n - (k + 1) < i → i ≤ n → fa a b i = true) := by
          intro v hv hf
          have H := HL.out
          refine ⟨by simpa using hL, fun i hi => ?_, fun i h1 h2 => ?_⟩
          · by_cases e : k = i
            · subst e; rw [set_getD_self (by omega), hv, hj]
            · rw [set_getD_ne e]; exact H.2.1 i (by omega)
          · by_cases e : i = j
            · subst e; exact hf
            · exact H.2.2 i (by omega) h2
        have HF : Hid (fa a b j = true ↔ ov a j = ov b j ∨ ov a j = 1 ∨ ov b j = 1) := fa_iff a b j
        have HE : Hid (fa a b j = false → spe a b = 2 ∧ spv a b = []) := by
          intro hf
          have : fit a b = false := by
            cases h : fit a b with
            | false => rfl
            | true => rw [(fitN_iff a b _).1 h j (by omega) (by rw [← HN.out]; omega)] at hf; cases hf
          have e : spe a b = 2 := by unfold spe; rw [this]; rfl
          exact ⟨e, by unfold spv; rw [if_neg (by omega)]⟩
        generalize ov a j = x at *
        generalize ov b j = y at *
        have HJ := Lib.hid (And.intro hj hL)
        clear hj hL
        have AR : ∀ (Q : Prop), Q → Q := fun _ h => h
        by_cases g1 : x = y
        · subst g1
          have R := Lib.hid (HG.out x (by unfold gr; split <;> rfl) (HF.out.2 (.inl rfl)))
          clear AR
          go_wp2_with (first | (go_at_call 69; (with_reducible refine A1.out.mono ?_); rintro e w' ⟨rfl, rfl⟩) | (go_at_call 69; (with_reducible refine B1.out.mono ?_); rintro e w' ⟨rfl, rfl⟩))
          refine ⟨⟨k + 1, L.set k x, by omega, by go_num, rfl, hblk.put k x, R, hB.setCell (Nat.le_refl _) _⟩, by simp [intOf]; omega⟩
        have b1 : (x == y) = false := by rw [beq_eq_false_iff_ne]; exact g1
        by_cases g2 : y = 1
        · subst g2
          have R := Lib.hid (HG.out x (by unfold gr; rfl) (HF.out.2 (.inr (.inr rfl))))
          clear AR g1
          go_wp2_with (first | (go_at_call 69; (with_reducible refine A1.out.mono ?_); rintro e w' ⟨rfl, rfl⟩) | (go_at_call 69; (with_reducible refine B1.out.mono ?_); rintro e w' ⟨rfl, rfl⟩))
          refine ⟨⟨k + 1, L.set k x, by omega, by go_num, rfl, hblk.put k x, R, hB.setCell (Nat.le_refl _) _⟩, by simp [intOf]; omega⟩
        have b2 : (y == 1) = false := by rw [beq_eq_false_iff_ne]; exact g2
        by_cases g3 : x = 1
        · subst g3
          have R := Lib.hid (HG.out y (by unfold gr; rw [if_neg g2]) (HF.out.2 (.inr (.inl rfl))))
          clear AR g1 g2
          go_wp2_with (first | (go_at_call 69; (with_reducible refine A1.out.mono ?_); rintro e w' ⟨rfl, rfl⟩) | (go_at_call 69; (with_reducible refine B1.out.mono ?_); rintro e w' ⟨rfl, rfl⟩))
          refine ⟨⟨k + 1, L.set k y, by omega, by go_num, rfl, hblk.put k y, R, hB.setCell (Nat.le_refl _) _⟩, by simp [intOf]; omega⟩
        have b3 : (x == 1) = false := by rw [beq_eq_false_iff_ne]; exact g3
        have R := Lib.hid (HE.out (by
          cases h : fa a b j with
          | false => rfl
          | true => rcases HF.out.1 h with h | h | h
                    · exact absurd h g1
                    · exact absurd h g3
                    · exact absurd h g2))
        clear AR g1 g2 g3
        go_wp2_with (first | (go_at_call 69; (with_reducible refine A1.out.mono ?_); rintro e w' ⟨rfl, rfl⟩) | (go_at_call 69; (with_reducible refine B1.out.mono ?_); rintro e w' ⟨rfl, rfl⟩))
        rw [Exit.noGoto_ret]
        go_ret2
        exact ⟨_, by rw [R.out.1]; rfl, by rw [R.out.2]; exact Ld.nil _, hB⟩
      · obtain rfl : k = n := by omega
        have E : L = spr a b := by
          have H := HL.out
          unfold spr
          rw [← HN.out]
          refine ext_getD (by rw [spl_len]; exact H.1) fun i hi => ?_
          rw [spl_getD _ _ _ _ (by omega)]
          exact H.2.1 i (by omega)
        have hfit : fit a b = true := by
          unfold fit
          rw [← HN.out]
          exact (fitN_iff _ _ _).2 fun j h1 h2 => HL.out.2.2 j (by omega) h2
        have hL := HL.out.1
        subst E
        have hld := Ld.of_blk hblk (c := k) (by omega)
        rw [hL] at hld
        cases hm : may (spr a b) with
        | true =>
          have R : Hid (spe a b = 0 ∧ spv a b = spr a b) := by
            have e : spe a b = 0 := by unfold spe; rw [if_pos hfit, if_pos hm]
            exact ⟨e, by unfold spv; rw [if_pos e]⟩
          have C := Lib.hid (check_ok _ _ wr hld hm)
          have HLD := Lib.hid hld
          clear hfit hm hld hL
          go_wp2_with (go_at_call 52; (with_reducible refine C.out.mono ?_); rintro e w' ⟨rfl, rfl⟩)
          rw [Exit.noGoto_ret]
          go_ret2
          exact ⟨_, by rw [R.out.1]; rfl, by rw [R.out.2]; exact HLD.out, hB⟩
        | false =>
          have R : Hid (spe a b = 5 ∧ spv a b = []) := by
            have e : spe a b = 5 := by unfold spe; rw [if_pos hfit, hm]; rfl
            exact ⟨e, by unfold spv; rw [if_neg (by omega)]⟩
          have C := Lib.hid (check_no _ _ wr hld hm)
          clear hfit hm hld hL
          go_wp2_with (go_at_call 52; (with_reducible refine C.out.mono ?_); rintro e w' ⟨rfl, rfl⟩)
          rw [Exit.noGoto_ret]
          go_ret2
          exact ⟨_, by rw [R.out.1]; rfl, by rw [R.out.2]; exact Ld.nil _, hB⟩

set_option maxRecDepth 100000 in
set_option maxHeartbeats 2000000 in
theorem spread_no (va vb : Value) (a b : List Int) (w : World) (ha : Ld w va a) (hb : Ld w vb b) (hm : (may a && may b) = false) :
    Calls Try.prog 53 #[va, vb] w fun e w' => e = .returned (.tuple #[.slice none 0 0, .int .i64 1]) ∧ w = w' := by
  cases ma : may a with
  | false =>
    have C := Lib.hid (check_no va a w ha ma)
    clear ha hb hm ma
    go_enter Try.func53, Try.ntmps53
    go_wp2
    go_step3
    go_wp2_with (go_at_call 52; (with_reducible refine C.out.mono ?_); rintro e w' ⟨rfl, rfl⟩)
    rw [Exit.noGoto_ret]
    go_ret2
    exact ⟨rfl, rfl⟩
  | true =>
    have mb : may b = false := by rw [ma, Bool.true_and] at hm; exact hm
    have C := Lib.hid (check_ok va a w ha ma)
    have D := Lib.hid (check_no vb b w hb mb)
    clear ha hb hm ma mb
    go_enter Try.func53, Try.ntmps53
    go_wp2
    go_step3
    go_wp2_with (first | (go_at_call 52; (with_reducible refine C.out.mono ?_); rintro e w' ⟨rfl, rfl⟩) | (go_at_call 52; (with_reducible refine D.out.mono ?_); rintro e w' ⟨rfl, rfl⟩))
    rw [Exit.noGoto_ret]
    go_ret2
    exact ⟨rfl, rfl⟩
end Go.Proofs.Ytdcmcfmodbdhaaa
namespace Go.Proofs.Ytdcmcfmodbdhaaa
open Go.RowKit

/-- The reference's count. -/
def rct (ls : List Int) : Int := if cnt 1 ls = 0 then 65537 else cnt 1 ls
theorem may_rct {ls : List Int} (h4 : ls.length ≤ 4) : decide (rct ls ≤ 65536) = may ls := by
  unfold rct
  rcases cnt_cases ls 1 (by decide) (by decide) with h | ⟨h1, h2, _, _⟩
  · rw [if_pos h, may_not h]; rfl
  · rw [if_neg (by omega), may_yes h4 (by omega)]; simpa using h2
theorem rct_may {ls : List Int} (h : may ls = true) : rct ls = prod ls := by
  unfold rct
  rw [may_cnt h, if_neg (by have := may_prod h; omega)]

set_option maxRecDepth 100000 in
set_option maxHeartbeats 4000000 in
theorem rcount_any (v : Value) (ls : List Int) (w : World) (h : Ld w v ls) (hd : dms ls) (l4 : ls.length ≤ 1073741824) :
    Calls Try.prog 17 #[v] w fun e w' => e = .returned (.int .i64 (rct ls)) ∧ w = w' := by
  obtain ⟨o, c, rfl, _, hx⟩ := h
  have HX := Lib.hid hx
  have HD := Lib.hid hd
  clear hx hd
  go_enter Try.func17, Try.ntmps17
  go_wp2
  go_loop [3, 4] (fun s3 s4 => ∃ (k : Nat) (m : Int), k ≤ ls.length ∧ 1 ≤ m ∧ m ≤ 65536 ∧ s4 = .int .i64 k ∧ s3 = .int .i64 m ∧ Hid (cnt m (ls.drop k) = cnt 1 ls)) (fun _ s4 => ls.length - (intOf s4).toNat)
  case atStart => exact ⟨0, 1, Nat.zero_le _, by decide, by decide, rfl, rfl, rfl⟩
  case round =>
    obtain ⟨k, m, hk, m0, m1, rfl, rfl, HM⟩ := hrel
    by_cases hlt : k < ls.length
    · obtain ⟨b, f, rfl, hb, hc⟩ := HX.out k hlt
      have st := cnt_step hlt m
      rw [HM.out] at st
      have dd := HD.out _ (getD_mem hlt)
      obtain ⟨d, hd⟩ : ∃ d, d = ls.getD k 0 := ⟨_, rfl⟩
      rw [← hd] at st hc dd
      obtain ⟨d1, d2⟩ := dd
      have dn : ¬ 65536 < d := by omega
      have md : m * d ≤ 65536 * 4096 := Int.mul_le_mul m1 d2 (by omega) (by decide)
      have m2 : 1 ≤ m * d := by have := Int.mul_le_mul m0 d1 (by decide) (by omega); omega
      by_cases g : m * d ≤ 65536
      · rw [if_pos ⟨d1, d2, by rw [Int.mul_comm]; exact g⟩] at st
        have ST := Lib.hid st
        have g' : ¬ 65536 < m * d := by omega
        clear st hd md
        go_wp2
        refine ⟨⟨k + 1, m * d, by omega, m2, g, by go_num, rfl, by unfold Hid; rw [← ST.out]⟩, by simp [intOf]; omega⟩
      · rw [if_neg (by rw [Int.mul_comm]; omega)] at st
        have E : Hid (rct ls = 65537) := by unfold rct; rw [if_pos st]; exact Lib.hid rfl
        have g' : 65536 < m * d := by omega
        clear st hd
        go_wp2
        go_ret
        exact ⟨by rw [E.out]; rfl, rfl⟩
    · have E : Hid (m = rct ls) := by
        have := HM.out
        rw [List.drop_eq_nil_of_le (by omega)] at this
        unfold rct
        rw [← this, if_neg (by show cnt m [] ≠ 0; simp [cnt]; omega)]
        exact Lib.hid rfl
      go_wp2
      go_ret
      exact ⟨by rw [← E.out]; rfl, rfl⟩

set_option maxRecDepth 100000 in
set_option maxHeartbeats 4000000 in
theorem rmay_any (v : Value) (ls : List Int) (w : World) (h : Ld w v ls) (l4 : ls.length ≤ 1073741824) :
    Calls Try.prog 13 #[v] w fun e w' => e = .returned (.bool (may ls)) ∧ w = w' := by
  by_cases h4 : 4 < ls.length
  · have E : Hid (may ls = false) := may_long h4
    obtain ⟨o, c, rfl, _, _⟩ := h
    go_enter Try.func13, Try.ntmps13
    go_wp2
    go_ret
    exact ⟨by rw [E.out]; rfl, rfl⟩
  have C := Lib.hid (fun hd => rcount_any v ls w h hd (by omega))
  obtain ⟨o, c, rfl, _, hx⟩ := h
  have HX := Lib.hid hx
  have HR : Hid (decide (rct ls ≤ 65536) = may ls) := may_rct (by omega)
  clear hx
  go_enter Try.func13, Try.ntmps13
  go_wp2
  go_loop [3] (fun s3 => ∃ k : Nat, k ≤ ls.length ∧ s3 = .int .i64 k ∧ Hid (∀ j, j < k → 1 ≤ ls.getD j 0 ∧ ls.getD j 0 ≤ 4096)) (fun s3 => ls.length - (intOf s3).toNat)
  case atStart => exact ⟨0, Nat.zero_le _, rfl, fun j hj => absurd hj (Nat.not_lt_zero _)⟩
  case round =>
    obtain ⟨k, hk, rfl, HK⟩ := hrel
    by_cases hlt : k < ls.length
    · obtain ⟨b, f, rfl, hb, hc⟩ := HX.out k hlt
      have HN : Hid (¬ (1 ≤ ls.getD k 0 ∧ ls.getD k 0 ≤ 4096) → may ls = false) := fun g => by
        cases h : may ls with
        | false => rfl
        | true => exact absurd (may_dim h hlt) g
      have HG : Hid (1 ≤ ls.getD k 0 ∧ ls.getD k 0 ≤ 4096 → ∀ j, j < k + 1 → 1 ≤ ls.getD j 0 ∧ ls.getD j 0 ≤ 4096) := fun g j hj => by
        by_cases e : j = k
        · subst e; exact g
        · exact HK.out j (by omega)
      generalize ls.getD k 0 = d at *
      by_cases g1 : d < 1
      · have R := Lib.hid (HN.out (by omega))
        go_wp2
        go_ret
        exact ⟨by rw [R.out]; rfl, rfl⟩
      by_cases g2 : 4096 < d
      · have R := Lib.hid (HN.out (by omega))
        go_wp2
        go_ret
        exact ⟨by rw [R.out]; rfl, rfl⟩
      have R := Lib.hid (HG.out (by omega))
      go_wp2
      refine ⟨⟨k + 1, by omega, by go_num, R⟩, by simp [intOf]; omega⟩
    · have hd : dms ls := by
        intro d hm
        obtain ⟨i, hi, rfl⟩ := List.mem_iff_getElem.1 hm
        have := HK.out i (by omega)
        simpa [List.getD, List.getElem?_eq_getElem hi] using this
      have C1 := Lib.hid (C.out hd)
      clear hd
      generalize rct ls = r at *
      go_wp2_with (go_at_call 17; (with_reducible refine C1.out.mono ?_); rintro e w' ⟨rfl, rfl⟩)
      go_ret
      exact ⟨by rw [← HR.out]; rfl, rfl⟩

set_option maxRecDepth 100000 in
set_option maxHeartbeats 4000000 in
theorem rstrides_any (v : Value) (ls : List Int) (w : World) (h : Ld w v ls) (hm : may ls = true) :
    Calls Try.prog 47 #[v] w fun e w' => e = .returned (.slice (some ⟨w.heap.size, 0, none⟩) ls.length ls.length) ∧ Blk w' w.heap.size 3 (ints (stl ls)).toArray ∧ Below w.heap.size w w' := by
  obtain ⟨i0, hi0, hz0, hz1, hz2⟩ := info_parts infoI
  obtain ⟨o, c, rfl, _, hx⟩ := h
  have HX := Lib.hid hx
  have l4 := may_len hm
  have HD : Hid (∀ k, k < ls.length → 1 ≤ ls.getD k 0 ∧ ls.getD k 0 ≤ 4096) := fun k hk => may_dim hm hk
  have HP : Hid (∀ k, 1 ≤ prod (ls.drop k) ∧ prod (ls.drop k) ≤ 65536) := may_drop hm
  have mk : (Instr.makeSlice 23 (.int .i64 (ls.length : Int)) (.int .i64 (ls.length : Int))).run Try.prog w = .ok (.slice (some ⟨w.heap.size, 0, none⟩) ls.length ls.length) (w.alloc (.cells (madeCells #[.int .i64 0] ls.length) 3)) := by
    have := run_make (w := w) 23 3 i0 (.int .i64 0) Try.underlying23 hi0 hz0 .i64 .i64 ls.length ls.length (by omega) (by omega) (by rw [hz2]; omega) (by omega)
    rw [this, hz1]; simp [Value.cells]
  rw [made_ints] at mk
  clear hx hm
  go_enter Try.func47, Try.ntmps47
  go_wp2
  clear mk
  go_loopw [4, 5] (fun s4 s5 wr => ∃ (k : Nat) (m : Int) (L : List Int), k ≤ ls.length ∧ s5 = .int .i64 ((k : Int) - 1) ∧ s4 = .int .i64 m ∧ Blk wr w.heap.size 3 (ints L).toArray ∧ Hid (L.length = ls.length ∧ m = prod (ls.drop k) ∧ ∀ i, k ≤ i → i < ls.length → L.getD i 0 = prod (ls.drop (i + 1))) ∧ Below w.heap.size w wr) (fun _ s5 _ => (intOf s5 + 1).toNat)
  case atStart => exact ⟨ls.length, 1, List.replicate ls.length 0, Nat.le_refl _, rfl, rfl, Blk.new _ _ _, ⟨by simp, by simp [prod], fun i h1 h2 => by omega⟩, (Below.refl _ _).alloc (Nat.le_refl _) _⟩
  case round =>
    obtain ⟨k, m, L, hk, rfl, rfl, hblk, HL, hB⟩ := hrel
    have hBs := hB.size
    cases k with
    | zero =>
      have E : L = stl ls := by
        refine ext_getD (by rw [stl_len]; exact HL.out.1) fun i hi => ?_
        have := HL.out.1
        rw [stl_getD _ _ (by omega)]
        exact HL.out.2.2 i (Nat.zero_le _) (by omega)
      subst E
      go_wp2
      go_ret
      exact ⟨rfl, hblk, hB⟩
    | succ k =>
      obtain ⟨b, f, rfl, hb, hc⟩ := HX.out k (by omega)
      have hc' : wr.cell? ⟨b, f + k, none⟩ = some (.int .i64 (ls.getD k 0)) := (hB.cell (p := ⟨b, f + k, none⟩) hb).trans hc
      have kc := hblk.cell k
      have hL := HL.out.1
      rw [ints_at (by omega)] at kc
      have kf := hblk.frozen k
      generalize L.getD k 0 = l0 at kc
      have dd := HD.out k (by omega)
      have p0 := HP.out (k + 1)
      have p1 := HP.out k
      have pd := prod_drop (ls := ls) (k := k) (by omega)
      have em := HL.out.2.1
      have R : Hid ((L.set k m).length = ls.length ∧ m * ls.getD k 0 = prod (ls.drop k) ∧ ∀ i, k ≤ i → i < ls.length → (L.set k m).getD i 0 = prod (ls.drop (i + 1))) := by
        refine ⟨by simpa using hL, by rw [em, pd, Int.mul_comm], fun i h1 h2 => ?_⟩
        by_cases e : k = i
        · subst e; rw [set_getD_self (by omega), em]
        · rw [set_getD_ne e]; exact HL.out.2.2 i (by omega) h2
      rw [← em] at p0
      rw [← R.out.2.1] at p1
      have ej : ((k + 1 : Nat) : Int) - 1 = (k : Int) := by omega
      rw [ej]
      have HL2 := Lib.hid hL
      clear em pd hc hL HL
      generalize ls.getD k 0 = d at *
      obtain ⟨p1, p2⟩ := p1
      go_wp2
      refine ⟨⟨k, m * d, L.set k m, by omega, by go_num, rfl, hblk.put k m, R, hB.setCell (Nat.le_refl _) _⟩, by simp [intOf]; try omega⟩
end Go.Proofs.Ytdcmcfmodbdhaaa
