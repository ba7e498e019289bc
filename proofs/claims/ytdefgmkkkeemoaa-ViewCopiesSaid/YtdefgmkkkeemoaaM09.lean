/-
  The reference's Widen.
  What the view laws' rounds carry from call to call.
-/
import Derived.Test.YtdefgmkkkeemoaaM05
import Derived.Test.YtdefgmkkkeemoaaM06
import Derived.Test.YtdefgmkkkeemoaaM07
import Derived.Test.YtdefgmkkkeemoaaM08
namespace Go.Proofs.Ytdefgmkkkeemoaa
open Go.RowKit
attribute [local go_sem ↓] Go.wp_at_zero Go.wp_at_succ

set_option maxRecDepth 100000 in
set_option maxHeartbeats 4000000 in
theorem rwiden_any (vs vt va : Value) (sh st s : List Int) (off : Int) (w : World) (hs : Ld w vs sh) (ht : Ld w vt st) (ha : Ld w va s) (hlt0 : st.length = sh.length) (l4 : sh.length ≤ 4) (l5 : s.length ≤ 4) (hle : sh.length ≤ s.length) :
    Calls Try.prog 16 #[.agg #[vs, vt, .int .i64 off], va] w (SomeW w s (wst sh st s) off) := by
  obtain ⟨i0, hi0, hz0, hz1, hz2⟩ := info_parts infoI
  obtain ⟨w4, hw2⟩ : ∃ w4, w4 = (w.alloc (.cells #[vs, vt, .int .i64 off] 25)).alloc (.cells #[.slice none 0 0, .slice none 0 0, .int .i64 0] 25) := ⟨_, rfl⟩
  have hsz : w4.heap.size = w.heap.size + 2 := by rw [hw2]; simp
  have bb4 : Below w.heap.size w w4 := by rw [hw2]; exact ((Below.refl _ _).alloc (Nat.le_refl _) _).alloc (by simp) _
  have Y0 : Hid (Blk w4 w.heap.size 25 #[vs, vt, .int .i64 off]) := by rw [hw2]; exact (Blk.new w _ _).alloc _
  have Y1 : Hid (Blk w4 (w.heap.size + 1) 25 #[.slice none 0 0, .slice none 0 0, .int .i64 0]) := by
    rw [hw2]
    have := Blk.new (w.alloc (.cells #[vs, vt, .int .i64 off] 25)) 25 #[.slice none 0 0, .slice none 0 0, .int .i64 0]
    rwa [World.size_alloc] at this
  have CL := Lib.hid (fun (W : World) (hb : Below w.heap.size w W) => copy_any va s W (ha.below hb) (by omega))
  obtain ⟨os, cs, rfl, _, hxs⟩ := hs
  obtain ⟨ot, ct, rfl, _, hxt⟩ := ht
  obtain ⟨oa, ca, rfl, _, hxa⟩ := ha
  have HS := Lib.hid hxs
  have HT := Lib.hid hxt
  have HA := Lib.hid hxa
  clear hxs hxt hxa
  have HLS := Lib.hid hlt0
  obtain ⟨a, ha⟩ : ∃ a, s.length = sh.length + a := ⟨s.length - sh.length, by omega⟩
  have HAA := Lib.hid ha
  have ea : (s.length : Int) - (sh.length : Int) = (a : Int) := by omega
  clear ha hlt0
  have mk : ∀ W : World, (Instr.makeSlice 23 (.int .i64 (s.length : Int)) (.int .i64 (s.length : Int))).run Try.prog W = .ok (.slice (some ⟨W.heap.size, 0, none⟩) s.length s.length) (W.alloc (.cells (ints (List.replicate s.length 0)).toArray 3)) := by
    intro W
    have := run_make (w := W) 23 3 i0 (.int .i64 0) Try.underlying23 hi0 hz0 .i64 .i64 s.length s.length (by omega) (by omega) (by rw [hz2]; omega) (by omega)
    rw [this, hz1, ← made_ints]; simp [Value.cells]
  have HW := Lib.hid (And.intro hw2 hsz)
  obtain ⟨c0, c1, c2, _⟩ := blk3 Y0.out
  clear hw2 hsz
  go_enter Try.func16, Try.ntmps16
  go_wp2
  have hgo := HW.out
  rw [← hgo.1]
  clear hgo
  have bz4 : Below w4.heap.size w4 w4 := Below.refl _ _
  have KS := Lib.hid (fun (W : World) (hW : Below w4.heap.size w4 W) => (blk3 (Y0.out.below hW Y0.out.lt)).2.2.1)
  have y0l := Y0.out.lt
  have s4 := bb4.size
  go_cut [5] (fun s5 wx => ∃ (P gm c5 : Nat) (o5 : Option Addr), s5 = .pointer (some ⟨P, 0, none⟩) ∧ Blk wx P 25 #[.slice o5 s.length c5, .slice (some ⟨gm, 0, none⟩) s.length s.length, .int .i64 off] ∧ Blk wx gm 3 (ints (List.replicate s.length 0)).toArray ∧ Hid (wx.ownsRow w4.heap.size 3 1 (.slice o5 s.length c5) s.length (ints s) ∧ ∀ g, o5 = some ⟨g, 0, none⟩ → ¬ g = gm) ∧ Hid (w4.heap.size ≤ gm ∧ w4.heap.size ≤ P) ∧ Hid (Below w4.heap.size w4 wx))
  case first =>
    go_region_held3 (fun W => W.cell? ⟨w.heap.size, 2, none⟩ = some (.int .i64 off)) (first | go_keep | (refine KS.out _ ?_; repeat (first | assumption | exact Nat.le_refl _ | exact Nat.le_succ _ | exact Below.refl _ _ | apply below_drew1 | (refine Below.setCell ?_ ?_ _) | (refine Below.alloc ?_ ?_ _) | omega | (simp; done) | (simp; omega))))
      (first | (go_at_call 45; (with_reducible refine Go.Calls.mono (CL.out _ ?_) ?_); (· repeat (first | assumption | exact Nat.le_refl _ | exact Nat.le_succ _ | exact Below.refl _ _ | apply below_drew1 | (refine Below.alloc ?_ ?_ _) | omega | (simp; done) | (simp; omega))); rintro e w5 ⟨o5, c5, rfl, ho5, _, hb5⟩; have bz5 : Below w4.heap.size w4 w5 := (by refine Below.trans ?_ (hb5.mono ?_); (· repeat (first | assumption | exact Nat.le_refl _ | exact Nat.le_succ _ | exact Below.refl _ _ | apply below_drew1 | (refine Below.alloc ?_ ?_ _) | omega | (simp; done) | (simp; omega))); (· first | exact Nat.le_refl _ | omega | (simp; done) | (simp; omega))); have s5 := bz5.size; have O5 : Hid (w5.ownsRow w4.heap.size 3 1 (.slice o5 s.length c5) s.length (ints s)) := own_base ho5 (by first | exact Nat.le_refl _ | omega | (simp; done) | (simp; omega)); have O5B := Lib.hid ho5; (first | (have zg : Blk w5 w4.heap.size 3 (ints (List.replicate s.length 0)).toArray := Blk.below (by first | exact Blk.new w4 _ _ | exact (Blk.new w4 _ _).alloc _) hb5 (by first | exact Nat.le_refl _ | omega | (simp; done) | (simp; omega))) | (have zg : Blk w5 (w4.heap.size + 1) 3 (ints (List.replicate s.length 0)).toArray := Blk.below (by have q := Blk.new (w4.alloc (.cells #[.slice none 0 0, .slice none 0 0, .int .i64 0] 25)) 3 (ints (List.replicate s.length 0)).toArray; rw [World.size_alloc] at q; exact q) hb5 (by first | exact Nat.le_refl _ | omega | (simp; done) | (simp; omega))) | skip); (first | (have zP : Blk w5 w4.heap.size 25 #[.slice none 0 0, .slice none 0 0, .int .i64 0] := Blk.below (by first | exact Blk.new w4 _ _ | exact (Blk.new w4 _ _).alloc _) hb5 (by first | exact Nat.le_refl _ | omega | (simp; done) | (simp; omega)); have zPl := zP.lt; obtain ⟨p0, p1, p2, pf0, pf1, pf2⟩ := blk3 zP) | (have zP : Blk w5 (w4.heap.size + 1) 25 #[.slice none 0 0, .slice none 0 0, .int .i64 0] := Blk.below (by have q := Blk.new (w4.alloc (.cells (ints (List.replicate s.length 0)).toArray 3)) 25 #[.slice none 0 0, .slice none 0 0, .int .i64 0]; rw [World.size_alloc] at q; exact q) hb5 (by first | exact Nat.le_refl _ | omega | (simp; done) | (simp; omega)); have zPl := zP.lt; obtain ⟨p0, p1, p2, pf0, pf1, pf2⟩ := blk3 zP) | skip); have k0 := KS.out _ bz5; replace ho5 := Lib.hid ho5))
    · go_wp2
      go_meet
      refine ⟨_, w5.heap.size, c5, o5, rfl, ?_, ?_, ⟨?_, ?_⟩, ⟨?_, ?_⟩, ?_⟩
      · exact blk_new1 w5 _ _ _
      · exact (Blk.new w5 _ _).alloc _
      · exact (O5.out.alloc _).alloc _
      · intro g e; subst e; have q1 := (O5B.out.lt g rfl).1; have q2 := (O5B.out.lt g rfl).2; (try simp at q1); omega
      · first | exact Nat.le_refl _ | exact Nat.le_succ _ | omega | (simp; done) | (simp; omega)
      · first | exact Nat.le_refl _ | exact Nat.le_succ _ | omega | (simp; done) | (simp; omega)
      · exact (bz5.alloc s5 _).alloc (by simp; omega) _
    · go_wp2
      go_meet
      refine ⟨_, w5.heap.size + 1, c5, o5, rfl, ?_, ?_, ⟨?_, ?_⟩, ⟨?_, ?_⟩, ?_⟩
      · exact (Blk.new w5 _ _).alloc _
      · exact blk_new1 w5 _ _ _
      · exact (O5.out.alloc _).alloc _
      · intro g e; subst e; have q1 := (O5B.out.lt g rfl).1; have q2 := (O5B.out.lt g rfl).2; (try simp at q1); omega
      · first | exact Nat.le_refl _ | exact Nat.le_succ _ | omega | (simp; done) | (simp; omega)
      · first | exact Nat.le_refl _ | exact Nat.le_succ _ | omega | (simp; done) | (simp; omega)
      · exact (bz5.alloc s5 _).alloc (by simp; omega) _
    · go_wp2
      go_meet
      refine ⟨_, w4.heap.size, c5, o5, rfl, ?_, ?_, ⟨?_, ?_⟩, ⟨?_, ?_⟩, ?_⟩
      · exact Blk.new w5 _ _
      · exact zg.alloc _
      · exact O5.out.alloc _
      · intro g e; subst e; have q1 := (O5B.out.lt g rfl).1; have q2 := (O5B.out.lt g rfl).2; (try simp at q1); omega
      · first | exact Nat.le_refl _ | exact Nat.le_succ _ | omega | (simp; done) | (simp; omega)
      · first | exact Nat.le_refl _ | exact Nat.le_succ _ | omega | (simp; done) | (simp; omega)
      · exact bz5.alloc s5 _
    · go_wp2
      go_meet
      refine ⟨_, w4.heap.size, c5, o5, rfl, ?_, ?_, ⟨?_, ?_⟩, ⟨?_, ?_⟩, ?_⟩
      · exact ((zP.set_ 0 _).set_ 1 _).set_ 2 _
      · exact blk_box3 zg zP _ _ _
      · exact own_box O5.out zP _ _ _
      · intro g e; subst e; have q1 := (O5B.out.lt g rfl).1; have q2 := (O5B.out.lt g rfl).2; (try simp at q1); omega
      · first | exact Nat.le_refl _ | exact Nat.le_succ _ | omega | (simp; done) | (simp; omega)
      · first | exact Nat.le_refl _ | exact Nat.le_succ _ | omega | (simp; done) | (simp; omega)
      · exact Below.box bz5 (Nat.le_succ _) _ _ _
    · go_wp2
      go_meet
      refine ⟨_, w5.heap.size, c5, o5, rfl, ?_, ?_, ⟨?_, ?_⟩, ⟨?_, ?_⟩, ?_⟩
      · exact (((zP.set_ 0 _).set_ 1 _).set_ 2 _).alloc _
      · have q := Blk.new (((w5.setCell ⟨w4.heap.size, 0, none⟩ (.slice o5 s.length c5)).setCell ⟨w4.heap.size, 1, none⟩ (.slice (some ⟨w5.heap.size, 0, none⟩) s.length s.length)).setCell ⟨w4.heap.size, 2, none⟩ (.int .i64 off)) 3 (ints (List.replicate s.length 0)).toArray
        rw [show (((w5.setCell ⟨w4.heap.size, 0, none⟩ (.slice o5 s.length c5)).setCell ⟨w4.heap.size, 1, none⟩ (.slice (some ⟨w5.heap.size, 0, none⟩) s.length s.length)).setCell ⟨w4.heap.size, 2, none⟩ (.int .i64 off)).heap.size = w5.heap.size by simp] at q
        exact q
      · exact (own_box O5.out zP _ _ _).alloc _
      · intro g e; subst e; have q1 := (O5B.out.lt g rfl).1; have q2 := (O5B.out.lt g rfl).2; (try simp at q1); omega
      · first | exact Nat.le_refl _ | exact Nat.le_succ _ | omega | (simp; done) | (simp; omega)
      · first | exact Nat.le_refl _ | exact Nat.le_succ _ | omega | (simp; done) | (simp; omega)
      · exact (Below.box bz5 (Nat.le_refl _) _ _ _).alloc (by simpa using s5) _
    · go_wp2
      go_meet
      refine ⟨_, w4.heap.size + 1, c5, o5, rfl, ?_, ?_, ⟨?_, ?_⟩, ⟨?_, ?_⟩, ?_⟩
      · exact ((zP.set_ 0 _).set_ 1 _).set_ 2 _
      · exact blk_box3 zg zP _ _ _
      · exact own_box O5.out zP _ _ _
      · intro g e; subst e; have q1 := (O5B.out.lt g rfl).1; have q2 := (O5B.out.lt g rfl).2; (try simp at q1); omega
      · first | exact Nat.le_refl _ | exact Nat.le_succ _ | omega | (simp; done) | (simp; omega)
      · first | exact Nat.le_refl _ | exact Nat.le_succ _ | omega | (simp; done) | (simp; omega)
      · exact Below.box bz5 (Nat.le_refl _) _ _ _
  case rest =>
    obtain ⟨P, gm, c5, o5, rfl, hP, hgm, HO, HL, HB⟩ := hcut
    obtain ⟨t0, t1, t2, _⟩ := blk3 hP
    have HP := Lib.hid hP
    have YF := Lib.hid (Y1.out.below HB.out (by have := Y1.out.lt; omega))
    have Y0F := Lib.hid (Y0.out.below HB.out (by omega))
    obtain ⟨c0, c1, c2, _⟩ := blk3 Y0F.out
    clear hP
    go_wp2
    have g5 := hgm.lt
    have pl := HP.out.lt
    have nPg := blk_apart hgm HP.out
    go_loopw [6] (fun s6 wr => ∃ k : Nat, k ≤ sh.length ∧ s6 = .int .i64 k ∧ Hid (Blk wr gm 3 (ints (wsn sh st s k)).toArray) ∧ Hid (wc.grownBy wr (some gm))) (fun s6 _ => sh.length - (intOf s6).toNat)
    case atStart => exact ⟨0, Nat.zero_le _, rfl, hgm, World.grownBy.refl _ _⟩
    case round =>
      obtain ⟨k, hk, rfl, hw, hG⟩ := hrel
      have wl := HL.out
      have bl := HB.out.size
      have gold : ∀ (b i : Nat) (v : Value), b < w.heap.size → w.cell? ⟨b, i, none⟩ = some v → wr.cell? ⟨b, i, none⟩ = some v := fun b i v h1 h2 =>
        grown_cell hG.out (by omega) (by omega) ((HB.out.cell (p := ⟨b, i, none⟩) (by show b < _; omega)).trans ((bb4.cell (p := ⟨b, i, none⟩) h1).trans h2))
      have gbox := fun (b i : Nat) (v : Value) (h1 : b < wc.heap.size) (h2 : b ≠ gm) (h3 : wc.cell? ⟨b, i, none⟩ = some v) => grown_cell (i := i) hG.out h1 h2 h3
      have yp := blk3 HP.out
      have yb := blk3 Y0F.out
      have e0 := gbox w.heap.size 0 _ (by omega) (by omega) yb.1
      have e1 := gbox w.heap.size 1 _ (by omega) (by omega) yb.2.1
      have e2 := gbox P 1 _ pl (fun e => nPg e.symm) yp.2.1
      have GOLD := Lib.hid gold
      have KSB := Lib.hid (fun (W : World) (hW : wc.grownBy W (some gm)) => And.intro (grown_cell (i := 1) hW (by omega) (by omega) yb.2.1) (And.intro (grown_cell (i := 1) hW pl (fun e => nPg e.symm) yp.2.1) (fun (b i : Nat) (v : Value) (h1 : b < w.heap.size) (h2 : w.cell? ⟨b, i, none⟩ = some v) => grown_cell hW (by omega) (by omega) ((HB.out.cell (p := ⟨b, i, none⟩) (by show b < _; omega)).trans ((bb4.cell (p := ⟨b, i, none⟩) h1).trans h2)))))
      clear gold gbox yp yb
      by_cases hlt : k < sh.length
      · have ha := HAA.out
        have hls := HLS.out
        obtain ⟨bs, fs, rfl, ns, xs⟩ := HS.out k hlt
        obtain ⟨bt, ft, rfl, nt, xt⟩ := HT.out k (by omega)
        obtain ⟨ba, fa, rfl, na, xa⟩ := HA.out (a + k) (by omega)
        have xs' := GOLD.out _ _ _ ns xs
        have xt' := GOLD.out _ _ _ nt xt
        have xa' := GOLD.out _ _ _ na xa
        have xa2 : wr.cell? ⟨ba, fa + ((a : Int) + (k : Int)).toNat, none⟩ = some (.int .i64 (s.getD (a + k) 0)) := by rw [show ((a : Int) + (k : Int)).toNat = a + k by omega]; exact xa'
        have kc := hw.out.cell (a + k)
        rw [ints_at (by rw [wsn_len]; omega)] at kc
        have kf := hw.out.frozen (a + k)
        have akl : a + k < s.length := by omega
        have klt : k < st.length := by omega
        have HPUT : Hid (sh.getD k 0 = s.getD (a + k) 0 → wsn sh st s (k + 1) = (wsn sh st s k).set (a + k) (st.getD k 0)) := fun e => by rw [Nat.add_comm a k] at e ⊢; exact wsn_put (by omega) e
        have HSKIP : Hid (¬ sh.getD k 0 = s.getD (a + k) 0 → wsn sh st s (k + 1) = wsn sh st s k) := fun e => by rw [Nat.add_comm a k] at e; exact wsn_skip (by omega) e
        have KSW := Lib.hid (fun (W : World) (hW : wc.grownBy W (some gm)) => And.intro (KSB.out W hW).1 (And.intro (KSB.out W hW).2.1 ((KSB.out W hW).2.2 _ _ _ nt xt)))
        clear xs xt xa ha hls
        generalize (wsn sh st s k).getD (a + k) 0 = q0 at kc
        generalize sh.getD k 0 = d at *
        generalize s.getD (a + k) 0 = d2 at *
        generalize st.getD k 0 = q at *
        by_cases g : d = d2
        · subst g
          have R1 := Lib.hid (HPUT.out rfl)
          have e7 : (k : Int) + (s.length : Int) - (sh.length : Int) = ((a + k : Nat) : Int) := by have := HAA.out; omega
          go_wp2
          go_quiet (fail)
          go_wp2
          have n1 : ¬ gm = w.heap.size := by omega
          have n2 : ¬ gm = bt := by omega
          have i1 : (0 : Int) ≤ (a : Int) + (k : Int) := by omega
          have i2 : (a : Int) + (k : Int) < (s.length : Int) := by omega
          have e8 : ((a : Int) + (k : Int)).toNat = a + k := by omega
          go_region_held3 (fun W => W.cell? ⟨w.heap.size, 1, none⟩ = some (.slice (some ⟨bt, ft, none⟩) st.length ct) ∧ W.cell? ⟨P, 1, none⟩ = some (.slice (some ⟨gm, 0, none⟩) s.length s.length) ∧ W.cell? ⟨bt, ft + k, none⟩ = some (.int .i64 q)) (go_keep) (fail)
          go_wp2
          refine ⟨⟨k + 1, by omega, by go_num, ?_, ?_⟩, by simp [intOf]; omega⟩
          · rw [R1.out]
            exact Blk.put hw.out (a + k) q
          · exact grown_put (by first | exact hG.out | exact grown_drw hG.out _ | exact grown_drw (grown_drw hG.out _) _) _
        · have R1 := Lib.hid (HSKIP.out g)
          have g' : (d == d2) = false := by rw [beq_eq_false_iff_ne]; exact g
          have e7 : (k : Int) + (s.length : Int) - (sh.length : Int) = ((a + k : Nat) : Int) := by have := HAA.out; omega
          clear g
          go_wp2
          go_quiet (fail)
          go_wp2
          refine ⟨⟨k + 1, by omega, by go_num, ?_, ?_⟩, by simp [intOf]; omega⟩
          · rw [R1.out]
            exact hw.out
          · first | exact grown_drw hG.out _ | exact hG.out
      · obtain rfl : k = sh.length := by omega
        have hls : (st.length : Int) = (sh.length : Int) := by have := HLS.out; omega
        have dF := Lib.hid ((YF.out.kept hG.out (fun e => blk_apart hgm YF.out (Option.some.inj e).symm)))
        have pF := Lib.hid ((HP.out.kept hG.out (fun e => nPg (Option.some.inj e).symm)))
        obtain ⟨d0, d1, d2, f0, f1, f2⟩ := blk3 dF.out
        obtain ⟨t0, t1, t2, _⟩ := blk3 pF.out
        go_wp2
        refine bodyPost_ret (v := .agg #[.slice o5 s.length c5, .slice (some ⟨gm, 0, none⟩) s.length s.length, .int .i64 off]) (by simp [results, Try.results16, go_sem, d0, d1, d2]) rfl ?_
        have hbel : Below w4.heap.size w4 wr := HB.out.grown hG.out bl (fun k e => by cases e; exact wl.1)
        have hw2 : wr.ownsRow w4.heap.size 3 1 (.slice (some ⟨gm, 0, none⟩) s.length s.length) (wst sh st s).length (ints (wst sh st s)) := by
          have q := hw.out.owns (base := w4.heap.size) wl.1 (by rw [wsn_len]; omega)
          rw [wsn_len] at q
          unfold wst
          rw [wsn_len]
          exact q
        have ho : wr.ownsRow w4.heap.size 3 1 (.slice o5 s.length c5) s.length (ints s) := HO.out.1.kept hG.out (by
          cases o5 with
          | none => exact .inl rfl
          | some ad =>
            right
            intro e
            simp only [Value.ownBlock, Option.some.injEq] at e
            rcases HO.out.1.2 with ⟨e2, _⟩ | ⟨g, _, _, e2, _⟩
            · cases e2
            · simp only [Value.slice.injEq, Option.some.injEq] at e2
              rw [e2.1] at e
              exact HO.out.2 g (by rw [e2.1]) e)
        refine someW_end (sh := s) (st := wst sh st s) (Nat.le_succ _) (bb4.trans (hbel.mono s4)) dF.out rfl (by unfold wst; rw [wsn_len]) (Ov.base (base := w4.heap.size) ⟨ho, hw2, ?_⟩ s4)
        intro g e e2
        simp only [Value.ownBlock, Option.some.injEq] at e2
        rcases HO.out.1.2 with ⟨e3, _⟩ | ⟨g', _, _, e3, _⟩
        · simp only [Value.slice.injEq] at e3
          rw [e3.1] at e; simp [Value.ownBlock] at e
        · simp only [Value.slice.injEq] at e3
          rw [e3.1] at e
          simp only [Value.ownBlock, Option.some.injEq] at e
          exact HO.out.2 g' e3.1 (by omega)
end Go.Proofs.Ytdefgmkkkeemoaa
namespace Go.Proofs.Ytdefgmkkkeemoaa
open Go.RowKit Go.Shelf

/-- An element's lists and numbers. -/
structure Lk where
  sh : List Int
  st : List Int
  ax : List Int
  s : List Int
  off : Int
  A : Int
  B : Int
  C : Int
/-- A box that holds a view, if there is no error. -/
def VBx (W : World) (base B : Nat) (er : Int) (S T : List Int) (fo : Int) : Prop := ∃ ua ub fu, Blk W B 25 #[ua, ub, .int .i64 fu] ∧ (er = 0 → Ov W base ua ub S T ∧ fu = fo)
section
variable {W W' : World} {base B b : Nat} {er : Int} {S T : List Int} {fo : Int}
theorem VBx.next (h : VBx W base B er S T fo) (hb : Below W.heap.size W W') : VBx W' base B er S T fo := by
  obtain ⟨ua, ub, fu, h1, h2⟩ := h
  exact ⟨ua, ub, fu, h1.below hb h1.lt, fun e => ⟨(h2 e).1.below hb, (h2 e).2⟩⟩
theorem VBx.far {cs : Array Value} (h : VBx W base B er S T fo) (hb : Blk W b 25 cs) (hne : B ≠ b) (x y z : Value) : VBx (((W.setCell ⟨b, 0, none⟩ x).setCell ⟨b, 1, none⟩ y).setCell ⟨b, 2, none⟩ z) base B er S T fo := by
  obtain ⟨ua, ub, fu, h1, h2⟩ := h
  exact ⟨ua, ub, fu, ((h1.far (p := ⟨b, 0, none⟩) hne x).far (p := ⟨b, 1, none⟩) hne y).far (p := ⟨b, 2, none⟩) hne z, fun e => ⟨(h2 e).1.box hb x y z, (h2 e).2⟩⟩
theorem VBx.blk (h : VBx W base B er S T fo) : ∃ cs, Blk W B 25 cs := let ⟨_, _, _, h1, _⟩ := h; ⟨_, h1⟩
theorem vbx_put {_cs : Array Value} {x y z : Value} {v1 v2 : Value} (hb : Blk W B 25 #[x, y, z]) (ho : Ov W base v1 v2 S T) : VBx (((W.setCell ⟨B, 0, none⟩ v1).setCell ⟨B, 1, none⟩ v2).setCell ⟨B, 2, none⟩ (.int .i64 fo)) base B er S T fo :=
  ⟨v1, v2, fo, ((hb.set_ 0 v1).set_ 1 v2).set_ 2 _, fun _ => ⟨ho.box hb _ _ _, rfl⟩⟩
theorem vbx_new (he : ¬ er = 0) (h : Blk W B 25 #[.slice none 0 0, .slice none 0 0, .int .i64 0]) : VBx W base B er S T fo := ⟨_, _, _, h, fun e => absurd e he⟩
theorem VBx.mono {er' : Int} (h : VBx W base B er S T fo) (he : er' = 0 → er = 0) : VBx W base B er' S T fo := by
  obtain ⟨ua, ub, fu, h1, h2⟩ := h
  exact ⟨ua, ub, fu, h1, fun e => h2 (he e)⟩
end
/-- What ViewExact's round holds: the copy, and the five views that are asked for. -/
def Fr (p : Lk) (w3 : World) (b : Nat) (v1 v2 : Value) (e1 e2 e3 e4 e5 : Int) (W : World) : Prop :=
  Below w3.heap.size w3 W ∧ Blk W w3.heap.size 25 #[v1, v2, .int .i64 p.off] ∧ VBx W b b e1 (trl p.sh p.ax) (trl p.st p.ax) p.off ∧ VBx W b (b + 1) e2 (slv p.sh p.A p.B p.C) p.st (slo p.st p.off p.A p.B) ∧
    VBx W b (b + 1 + 1) e3 p.s (wst p.sh p.st p.s) p.off ∧ VBx W b (b + 1 + 1 + 1) e4 p.s (stl p.s) 0 ∧ VBx W b (b + 1 + 1 + 1 + 1) e5 p.s (stl p.s) 0 ∧ b + 5 ≤ W.heap.size ∧ w3.heap.size < b
section
variable {p : Lk} {w3 W W' : World} {b : Nat} {v1 v2 : Value} {e1 e2 e3 e4 e5 : Int}
theorem Fr.next (h : Fr p w3 b v1 v2 e1 e2 e3 e4 e5 W) (hb : Below W.heap.size W W') : Fr p w3 b v1 v2 e1 e2 e3 e4 e5 W' := by
  obtain ⟨h0, h1, h2, h3, h4, h5, h6, h7, h8⟩ := h
  exact ⟨h0.trans (hb.mono h0.size), h1.below hb h1.lt, h2.next hb, h3.next hb, h4.next hb, h5.next hb, h6.next hb, Nat.le_trans h7 hb.size, h8⟩
theorem Fr.below (h : Fr p w3 b v1 v2 e1 e2 e3 e4 e5 W) : Below w3.heap.size w3 W := h.1
theorem Fr.alloc (h : Fr p w3 b v1 v2 e1 e2 e3 e4 e5 W) (o : Obj) : Fr p w3 b v1 v2 e1 e2 e3 e4 e5 (W.alloc o) := h.next ((Below.refl _ _).alloc (Nat.le_refl _) o)
theorem Fr.mono {f1 f2 f3 f4 f5 : Int} (h : Fr p w3 b v1 v2 e1 e2 e3 e4 e5 W) (h1 : f1 = 0 → e1 = 0) (h2 : f2 = 0 → e2 = 0) (h3 : f3 = 0 → e3 = 0) (h4 : f4 = 0 → e4 = 0) (h5 : f5 = 0 → e5 = 0) : Fr p w3 b v1 v2 f1 f2 f3 f4 f5 W :=
  ⟨h.1, h.2.1, h.2.2.1.mono h1, h.2.2.2.1.mono h2, h.2.2.2.2.1.mono h3, h.2.2.2.2.2.1.mono h4, h.2.2.2.2.2.2.1.mono h5, h.2.2.2.2.2.2.2⟩
theorem Fr.box3 (h : Fr p w3 b v1 v2 e1 e2 e3 e4 e5 W) {B : Nat} {cs : Array Value} (hB : Blk W B 25 cs) (hb : b + 5 ≤ B) (x y z : Value) : Fr p w3 b v1 v2 e1 e2 e3 e4 e5 (((W.setCell ⟨B, 0, none⟩ x).setCell ⟨B, 1, none⟩ y).setCell ⟨B, 2, none⟩ z) := by
  obtain ⟨h0, h1, h2, h3, h4, h5, h6, h7, h8⟩ := h
  have hne : w3.heap.size ≠ B := by omega
  exact ⟨Below.box h0 (by omega) x y z, ((h1.far (p := ⟨B, 0, none⟩) hne x).far (p := ⟨B, 1, none⟩) hne y).far (p := ⟨B, 2, none⟩) hne z, h2.far hB (by omega) x y z, h3.far hB (by omega) x y z, h4.far hB (by omega) x y z, h5.far hB (by omega) x y z, h6.far hB (by omega) x y z, by simpa using h7, h8⟩
end
theorem Fr.put1 {p : Lk} {w3 W : World} {b : Nat} {v1 v2 : Value} {e1 e2 e3 e4 e5 : Int} (h : Fr p w3 b v1 v2 e1 e2 e3 e4 e5 W) {u1 u2 : Value} (f : Int) (ho : Ov W b u1 u2 (trl p.sh p.ax) (trl p.st p.ax)) : Fr p w3 b v1 v2 f e2 e3 e4 e5 (((W.setCell ⟨b, 0, none⟩ u1).setCell ⟨b, 1, none⟩ u2).setCell ⟨b, 2, none⟩ (.int .i64 (p.off))) := by
  obtain ⟨h0, h1, h2, h3, h4, h5, h6, h7, h8⟩ := h
  obtain ⟨xa, xb, xc, hx, _⟩ := h2
  have hne : w3.heap.size ≠ b := by omega
  exact ⟨Below.box h0 (by omega) _ _ _, ((h1.far (p := ⟨b, 0, none⟩) hne _).far (p := ⟨b, 1, none⟩) hne _).far (p := ⟨b, 2, none⟩) hne _, vbx_put (_cs := #[]) hx ho, h3.far hx (by omega) _ _ _, h4.far hx (by omega) _ _ _, h5.far hx (by omega) _ _ _, h6.far hx (by omega) _ _ _, by simpa using h7, h8⟩
theorem Fr.put2 {p : Lk} {w3 W : World} {b : Nat} {v1 v2 : Value} {e1 e2 e3 e4 e5 : Int} (h : Fr p w3 b v1 v2 e1 e2 e3 e4 e5 W) {u1 u2 : Value} (f : Int) (ho : Ov W b u1 u2 (slv p.sh p.A p.B p.C) (p.st)) : Fr p w3 b v1 v2 e1 f e3 e4 e5 (((W.setCell ⟨b + 1, 0, none⟩ u1).setCell ⟨b + 1, 1, none⟩ u2).setCell ⟨b + 1, 2, none⟩ (.int .i64 (slo p.st p.off p.A p.B))) := by
  obtain ⟨h0, h1, h2, h3, h4, h5, h6, h7, h8⟩ := h
  obtain ⟨xa, xb, xc, hx, _⟩ := h3
  have hne : w3.heap.size ≠ b + 1 := by omega
  exact ⟨Below.box h0 (by omega) _ _ _, ((h1.far (p := ⟨b + 1, 0, none⟩) hne _).far (p := ⟨b + 1, 1, none⟩) hne _).far (p := ⟨b + 1, 2, none⟩) hne _, h2.far hx (by omega) _ _ _, vbx_put (_cs := #[]) hx ho, h4.far hx (by omega) _ _ _, h5.far hx (by omega) _ _ _, h6.far hx (by omega) _ _ _, by simpa using h7, h8⟩
theorem Fr.put3 {p : Lk} {w3 W : World} {b : Nat} {v1 v2 : Value} {e1 e2 e3 e4 e5 : Int} (h : Fr p w3 b v1 v2 e1 e2 e3 e4 e5 W) {u1 u2 : Value} (f : Int) (ho : Ov W b u1 u2 (p.s) (wst p.sh p.st p.s)) : Fr p w3 b v1 v2 e1 e2 f e4 e5 (((W.setCell ⟨b + 1 + 1, 0, none⟩ u1).setCell ⟨b + 1 + 1, 1, none⟩ u2).setCell ⟨b + 1 + 1, 2, none⟩ (.int .i64 (p.off))) := by
  obtain ⟨h0, h1, h2, h3, h4, h5, h6, h7, h8⟩ := h
  obtain ⟨xa, xb, xc, hx, _⟩ := h4
  have hne : w3.heap.size ≠ b + 1 + 1 := by omega
  exact ⟨Below.box h0 (by omega) _ _ _, ((h1.far (p := ⟨b + 1 + 1, 0, none⟩) hne _).far (p := ⟨b + 1 + 1, 1, none⟩) hne _).far (p := ⟨b + 1 + 1, 2, none⟩) hne _, h2.far hx (by omega) _ _ _, h3.far hx (by omega) _ _ _, vbx_put (_cs := #[]) hx ho, h5.far hx (by omega) _ _ _, h6.far hx (by omega) _ _ _, by simpa using h7, h8⟩
theorem Fr.put4 {p : Lk} {w3 W : World} {b : Nat} {v1 v2 : Value} {e1 e2 e3 e4 e5 : Int} (h : Fr p w3 b v1 v2 e1 e2 e3 e4 e5 W) {u1 u2 : Value} (f : Int) (ho : Ov W b u1 u2 (p.s) (stl p.s)) : Fr p w3 b v1 v2 e1 e2 e3 f e5 (((W.setCell ⟨b + 1 + 1 + 1, 0, none⟩ u1).setCell ⟨b + 1 + 1 + 1, 1, none⟩ u2).setCell ⟨b + 1 + 1 + 1, 2, none⟩ (.int .i64 (0))) := by
  obtain ⟨h0, h1, h2, h3, h4, h5, h6, h7, h8⟩ := h
  obtain ⟨xa, xb, xc, hx, _⟩ := h5
  have hne : w3.heap.size ≠ b + 1 + 1 + 1 := by omega
  exact ⟨Below.box h0 (by omega) _ _ _, ((h1.far (p := ⟨b + 1 + 1 + 1, 0, none⟩) hne _).far (p := ⟨b + 1 + 1 + 1, 1, none⟩) hne _).far (p := ⟨b + 1 + 1 + 1, 2, none⟩) hne _, h2.far hx (by omega) _ _ _, h3.far hx (by omega) _ _ _, h4.far hx (by omega) _ _ _, vbx_put (_cs := #[]) hx ho, h6.far hx (by omega) _ _ _, by simpa using h7, h8⟩
theorem Fr.put5 {p : Lk} {w3 W : World} {b : Nat} {v1 v2 : Value} {e1 e2 e3 e4 e5 : Int} (h : Fr p w3 b v1 v2 e1 e2 e3 e4 e5 W) {u1 u2 : Value} (f : Int) (ho : Ov W b u1 u2 (p.s) (stl p.s)) : Fr p w3 b v1 v2 e1 e2 e3 e4 f (((W.setCell ⟨b + 1 + 1 + 1 + 1, 0, none⟩ u1).setCell ⟨b + 1 + 1 + 1 + 1, 1, none⟩ u2).setCell ⟨b + 1 + 1 + 1 + 1, 2, none⟩ (.int .i64 (0))) := by
  obtain ⟨h0, h1, h2, h3, h4, h5, h6, h7, h8⟩ := h
  obtain ⟨xa, xb, xc, hx, _⟩ := h6
  have hne : w3.heap.size ≠ b + 1 + 1 + 1 + 1 := by omega
  exact ⟨Below.box h0 (by omega) _ _ _, ((h1.far (p := ⟨b + 1 + 1 + 1 + 1, 0, none⟩) hne _).far (p := ⟨b + 1 + 1 + 1 + 1, 1, none⟩) hne _).far (p := ⟨b + 1 + 1 + 1 + 1, 2, none⟩) hne _, h2.far hx (by omega) _ _ _, h3.far hx (by omega) _ _ _, h4.far hx (by omega) _ _ _, h5.far hx (by omega) _ _ _, vbx_put (_cs := #[]) hx ho, by simpa using h7, h8⟩
/-- An element: seven lists, four numbers. -/
structure Ak where
  U : Value
  T : Value
  D : Value
  X : Value
  V : Value
  P : Value
  R : Value
  sh : List Int
  st : List Int
  ds : List Int
  ax : List Int
  s : List Int
  ts : List Int
  tds : List Int
  off : Int
  A : Int
  B : Int
  C : Int
def Ak.ok (w : World) (e : Ak) : Prop := (Ld w e.U e.sh ∧ Ld w e.T e.st ∧ Ld w e.D e.ds ∧ Ld w e.X e.ax ∧ Ld w e.V e.s ∧ Ld w e.P e.ts ∧ Ld w e.R e.tds) ∧
  (e.sh.length ≤ 9223372036854775807 ∧ e.st.length ≤ 17592186044000 ∧ e.ds.length ≤ 9223372036854775807 ∧ e.ax.length ≤ 9223372036854775807 ∧ e.s.length ≤ 9223372036854775807 ∧ e.ts.length ≤ 9223372036854775807 ∧ e.tds.length ≤ 9223372036854775807) ∧
  (-9223372036854775808 ≤ e.A ∧ e.A ≤ 9223372036854775807) ∧ (-9223372036854775808 ≤ e.B ∧ e.B ≤ 9223372036854775807) ∧ (-9223372036854775808 ≤ e.C ∧ e.C ≤ 9223372036854775807) ∧ (-9223372036854775808 ≤ e.off ∧ e.off ≤ 9223372036854775807)
def AkAt (w : World) (b p : Nat) (e : Ak) : Prop := w.cell? ⟨b, p, none⟩ = some e.U ∧ w.cell? ⟨b, p + 1, none⟩ = some e.T ∧ w.cell? ⟨b, p + 2, none⟩ = some (.int .i64 e.off) ∧ w.cell? ⟨b, p + 3, none⟩ = some e.D ∧ w.cell? ⟨b, p + 4, none⟩ = some e.X ∧ w.cell? ⟨b, p + 5, none⟩ = some e.V ∧
  w.cell? ⟨b, p + 6, none⟩ = some (.int .i64 e.A) ∧ w.cell? ⟨b, p + 7, none⟩ = some (.int .i64 e.B) ∧ w.cell? ⟨b, p + 8, none⟩ = some (.int .i64 e.C) ∧ w.cell? ⟨b, p + 9, none⟩ = some e.P ∧ w.cell? ⟨b, p + 10, none⟩ = some e.R
theorem AkAt.below {w W : World} {b p : Nat} {e : Ak} (h : AkAt w b p e) (hB : Below w.heap.size w W) (hb : b < w.heap.size) : AkAt W b p e := by
  obtain ⟨h0, h1, h2, h3, h4, h5, h6, h7, h8, h9, h10⟩ := h
  have k : ∀ (i : Nat) (v : Value), w.cell? ⟨b, i, none⟩ = some v → W.cell? ⟨b, i, none⟩ = some v := fun i v hh => (hB.cell (p := ⟨b, i, none⟩) hb).trans hh
  exact ⟨k _ _ h0, k _ _ h1, k _ _ h2, k _ _ h3, k _ _ h4, k _ _ h5, k _ _ h6, k _ _ h7, k _ _ h8, k _ _ h9, k _ _ h10⟩
theorem tre_f {sh st : List Int} {off : Int} {ax : List Int} (h : vwb sh st off 65536 = false) : tre sh st off ax = 1 := by unfold tre; rw [h]; rfl
theorem tre_t {sh st : List Int} {off : Int} {ax : List Int} (h : vwb sh st off 65536 = true) : tre sh st off ax = if axs ax sh.length then 0 else 2 := by unfold tre; rw [h]; rfl
theorem sle_f {sh st : List Int} {off x y z : Int} (h : vwb sh st off 65536 = false) : sle sh st off x y z = 1 := by unfold sle; rw [h]; rfl
theorem sle_t {sh st : List Int} {off x y z : Int} (h : vwb sh st off 65536 = true) : sle sh st off x y z = if slb sh x y z then 0 else 2 := by unfold sle; rw [h]; rfl
theorem Fr.start {p : Lk} {w3 w4 : World} {v1 v2 : Value} (hB : Below w3.heap.size w3 w4) (hK : Blk w4 w3.heap.size 25 #[v1, v2, .int .i64 p.off]) : Fr p w3 w4.heap.size v1 v2 1 1 1 1 1
    (((((w4.alloc (.cells #[.slice none 0 0, .slice none 0 0, .int .i64 0] 25)).alloc (.cells #[.slice none 0 0, .slice none 0 0, .int .i64 0] 25)).alloc (.cells #[.slice none 0 0, .slice none 0 0, .int .i64 0] 25)).alloc (.cells #[.slice none 0 0, .slice none 0 0, .int .i64 0] 25)).alloc (.cells #[.slice none 0 0, .slice none 0 0, .int .i64 0] 25)) := by
  have n1 := fun (W : World) (n : Nat) (h : W.heap.size = n) => (h ▸ Blk.new W 25 #[.slice none 0 0, .slice none 0 0, .int .i64 0] : Blk (W.alloc (.cells #[.slice none 0 0, .slice none 0 0, .int .i64 0] 25)) n 25 #[.slice none 0 0, .slice none 0 0, .int .i64 0])
  have hlt := hK.lt
  refine ⟨((((hB.alloc hB.size _).alloc (by simp; omega) _).alloc (by simp; omega) _).alloc (by simp; omega) _).alloc (by simp; omega) _, ((((hK.alloc _).alloc _).alloc _).alloc _).alloc _, vbx_new (by decide) ?_, vbx_new (by decide) ?_, vbx_new (by decide) ?_, vbx_new (by decide) ?_, vbx_new (by decide) ?_, by simp, hlt⟩
  · exact ((((n1 _ _ rfl).alloc _).alloc _).alloc _).alloc _
  · exact (((n1 _ _ (by simp)).alloc _).alloc _).alloc _
  · exact ((n1 _ _ (by simp)).alloc _).alloc _
  · exact (n1 _ _ (by simp)).alloc _
  · exact n1 _ _ (by simp)
end Go.Proofs.Ytdefgmkkkeemoaa
