/-
  view.Lay.
  view.Lay, where it refuses.
  Of the references that the laws of package view call: words copied and spoilt, where an index stands.
-/
import Derived.BigQuiet
import Derived.Deep.DeepBigQuietO
import Derived.Test.YtdcmcfmodbdhaaaM07
import Derived.Test.YtdcmcfmodbdhaaaM09
import Derived.Test.YtdcmcfmodbdhaaaM11
namespace Go.Proofs.Ytdcmcfmodbdhaaa
open Go.RowKit Go.Shelf
attribute [local go_sem] Oper.semAt_some

set_option maxRecDepth 100000 in
set_option maxHeartbeats 20000000 in
theorem lay_ok (vs vt vp vr vd : Value) (sh st tds ls : List Int) (off : Int) (N : Nat) (w : World) (hs : Ld w vs sh) (ht : Ld w vt st) (hp : Ld w vp sh) (hr : Ld w vr tds) (hd : Ld w vd ls) (hv : vwb sh st off ls.length = true) (hwd : wds ls = true) (htn : tnb sh tds = true) (hN : (N : Int) = prod sh) :
    Calls Try.prog 38 #[.agg #[vs, vt, .int .i64 off], .agg #[vp, vr], vd] w (if dup sh st off N then SomeLd w 2 [] else SomeLd w 0 (lys sh st off ls tds N)) := by
  obtain ⟨R, hR⟩ : ∃ R : Ending → World → Prop, R = if dup sh st off N then SomeLd w 2 [] else SomeLd w 0 (lys sh st off ls tds N) := ⟨_, rfl⟩
  rw [← hR]
  have HR := Lib.hid hR
  clear hR
  have hVw := vwb_iff.1 hv
  have l4 := may_len hVw.1
  have hls : ls.length ≤ 65536 := by have := hVw.2.2.2.2.1; omega
  have hls1 : 1 ≤ ls.length := by have := hVw.2.2.2.1; have := hVw.2.2.2.2.2.1; omega
  have hN6 : 1 ≤ N ∧ N ≤ 65536 := by have := may_prod hVw.1; omega
  have htl : tds.length = N := by
    unfold tnb at htn
    simp only [Bool.and_eq_true, decide_eq_true_eq] at htn
    omega
  obtain ⟨i0, hi0, hz0, hz1, hz2⟩ := info_parts infoB
  obtain ⟨w3, hw3⟩ : ∃ w3, w3 = (((w.alloc (.cells #[vs, vt, .int .i64 off] 25)).alloc (.cells #[vp, vr] 28)).alloc (.cells #[.slice none 0 0] 26)).alloc (.cells #[.int .i64 0] 42) := ⟨_, rfl⟩
  have hsz : w3.heap.size = w.heap.size + 4 := by rw [hw3]; simp
  have B3 : Below w.heap.size w w3 := by rw [hw3]; exact ((((Below.refl _ _).alloc (Nat.le_refl _) _).alloc (by simp) _).alloc (by simp; omega) _).alloc (by simp; omega) _
  have K0 : Hid (Blk w3 w.heap.size 25 #[vs, vt, .int .i64 off]) := by rw [hw3]; exact (((Blk.new w _ _).alloc _).alloc _).alloc _
  have K1 : Hid (Blk w3 (w.heap.size + 1) 28 #[vp, vr]) := by rw [hw3]; exact ((blk_new1 w _ _ _).alloc _).alloc _
  have K2 : Hid (Blk w3 (w.heap.size + 2) 26 #[.slice none 0 0]) := by
    rw [hw3]
    have q := Blk.new ((w.alloc (.cells #[vs, vt, .int .i64 off] 25)).alloc (.cells #[vp, vr] 28)) 26 #[.slice none 0 0]
    rw [World.size_alloc, World.size_alloc] at q
    exact q.alloc _
  have K3 : Hid (Blk w3 (w.heap.size + 3) 42 #[.int .i64 0]) := by
    rw [hw3]
    have q := Blk.new (((w.alloc (.cells #[vs, vt, .int .i64 off] 25)).alloc (.cells #[vp, vr] 28)).alloc (.cells #[.slice none 0 0] 26)) 42 #[.int .i64 0]
    rwa [World.size_alloc, World.size_alloc, World.size_alloc] at q
  have C1 : Hid (∀ n, w3.heap.size = n → Calls Try.prog 28 #[.agg #[vs, vt, .int .i64 off], .int .i64 (ls.length : Int)] w3 fun e w' => e = .returned (.int .i64 0) ∧ Below n w3 w') := fun n hn => by
    subst hn
    have := vcheck_any vs vt sh st off ls.length w3 (hs.below B3) (ht.below B3) (by omega) (by have := hVw.2.1; omega)
    rwa [hv, frm_t] at this
  replace C1 := Lib.hid (C1.out (w.heap.size + 4) hsz)
  have C2 : Hid (∀ W, Below w.heap.size w W → Calls Try.prog 61 #[vd] W fun e w' => e = .returned (.bool true) ∧ W = w') := Lib.hid (fun W hW => by have := arewords_any vd ls W (hd.below hW) (by omega); rwa [hwd] at this)
  have C3 : Hid (∀ W, Below w.heap.size w W → Calls Try.prog 63 #[.agg #[vp, vr]] W fun e w' => e = .returned (.bool true) ∧ Below W.heap.size W w') := Lib.hid (fun W hW => by have := istensor_any vp vr sh tds W (hp.below hW) (hr.below hW) (by omega) (by omega); rwa [htn] at this)
  have C4 : Hid (∀ W, Below w.heap.size w W → Calls Try.prog 54 #[vp, vs] W fun e w' => e = .returned (.bool true) ∧ Below W.heap.size W w') := Lib.hid (fun W hW => by have := equal_any vp vs sh sh W (hp.below hW) (hs.below hW) (by omega) (by omega); rwa [show decide (sh = sh) = true by simp] at this)
  have C5 := Lib.hid (fun (W : World) (hW : Below w.heap.size w W) => clonew_any vd ls W (hd.below hW) (by omega))
  have HSV := Lib.hid (And.intro hs (And.intro ht (And.intro hp (And.intro hr hd))))
  obtain ⟨o1, n1, rfl, _, _⟩ := id hs
  obtain ⟨o2, n2, rfl, _, _⟩ := id ht
  obtain ⟨o3, n3, rfl, _, _⟩ := id hp
  obtain ⟨o4, n4, rfl, _, _⟩ := id hr
  obtain ⟨o5, n5, rfl, _, _⟩ := id hd
  have HW := Lib.hid hw3
  have HV := Lib.hid (And.intro hVw (And.intro hN htl))
  rw [hw3] at C1
  clear hw3 hs ht hp hr hd hv hwd htn hVw hN htl
  have mk : ∀ W : World, (Instr.makeSlice 83 (.int .i64 (ls.length : Int)) (.int .i64 (ls.length : Int))).run Try.prog W = .ok (.slice (some ⟨W.heap.size, 0, none⟩) ls.length ls.length) (W.alloc (.cells (bools (List.replicate ls.length false)).toArray 4)) := by
    intro W
    have := run_make (w := W) 83 4 i0 (.bool false) Try.underlying83 hi0 hz0 .i64 .i64 ls.length ls.length (by omega) (by omega) (by rw [hz2]; omega) (by omega)
    rw [this, hz1]
    rw [show (Value.bool false).cells = #[.bool false] from rfl, made_bools]; simp
  refine (callsIn_wide (n := 9)).1 ?_
  refine callsIn_of_wp_marks Try.func38 rfl trivial ?_
  simp only [Try.ntmps38, List.size_toArray, List.length_cons, List.length_nil, Nat.reduceAdd, Nat.reduceSub, Array.replicate_succ, Array.replicate_zero, List.push_toArray, List.append_toArray, List.nil_append, List.cons_append]
  refine wpIn_wide.2 ?_
  go_upto_region 5 with (first
    | (go_at_call 28; (with_reducible refine C1.out.mono ?_); rintro e w4 ⟨rfl, hb4⟩; rw [← HW.out] at hb4; have b4 := B3.trans (hb4.mono (by omega)); replace K0 := Lib.hid (K0.out.below hb4 (by omega)); replace K1 := Lib.hid (K1.out.below hb4 (by omega)); replace K2 := Lib.hid (K2.out.below hb4 (by omega)); replace K3 := Lib.hid (K3.out.below hb4 (by omega)); obtain ⟨c0, c1, c2, _⟩ := blk3 K0.out; obtain ⟨d0, d1, _⟩ := blk2 K1.out; have k0l := K0.out.lt; have k1l := K1.out.lt; have k2l := K2.out.lt; have k3l := K3.out.lt; clear hb4)
    | (go_at_call 61; (with_reducible refine (C2.out _ b4).mono ?_); rintro e w' ⟨rfl, rfl⟩)
    | (go_at_call 63; (with_reducible refine (C3.out _ b4).mono ?_); rintro e w5 ⟨rfl, hb5⟩; have b5 := b4.trans (hb5.mono b4.size); replace K0 := Lib.hid (K0.out.below hb5 k0l); replace K1 := Lib.hid (K1.out.below hb5 k1l); replace K2 := Lib.hid (K2.out.below hb5 k2l); replace K3 := Lib.hid (K3.out.below hb5 k3l); obtain ⟨c0, c1, c2, _⟩ := blk3 K0.out; obtain ⟨d0, d1, _⟩ := blk2 K1.out; replace k0l := K0.out.lt; replace k1l := K1.out.lt; replace k2l := K2.out.lt; replace k3l := K3.out.lt; clear hb5)
    | (go_at_call 54; (with_reducible refine (C4.out _ b5).mono ?_); rintro e w6 ⟨rfl, hb6⟩; have b6 := b5.trans (hb6.mono b5.size); replace K0 := Lib.hid (K0.out.below hb6 k0l); replace K1 := Lib.hid (K1.out.below hb6 k1l); replace K2 := Lib.hid (K2.out.below hb6 k2l); replace K3 := Lib.hid (K3.out.below hb6 k3l); obtain ⟨c0, c1, c2, _⟩ := blk3 K0.out; obtain ⟨d0, d1, _⟩ := blk2 K1.out; replace k0l := K0.out.lt; replace k1l := K1.out.lt; replace k2l := K2.out.lt; replace k3l := K3.out.lt; clear hb6))
  have k6 := b6.size
  have R6 := Lib.hid (Below.refl w6.heap.size w6)
  go_cut [8, 9] from 33 to 37 (fun s8 s9 wx => ∃ (b8 b9 gT cL : Nat) (oL : Option Addr), s8 = .pointer (some ⟨b8, 0, none⟩) ∧ s9 = .pointer (some ⟨b9, 0, none⟩) ∧ Hid (Blk wx b8 26 #[.slice oL ls.length cL] ∧ Blk wx b9 83 #[.slice (some ⟨gT, 0, none⟩) ls.length ls.length] ∧ Blk wx gT 4 (bools (List.replicate ls.length false)).toArray ∧ wx.ownsRow w6.heap.size 2 1 (.slice oL ls.length cL) ls.length (ints ls)) ∧ Hid (w6.heap.size ≤ b8 ∧ w6.heap.size ≤ b9 ∧ w6.heap.size ≤ gT) ∧ Hid (Below w6.heap.size w6 wx))
  case first => as_aux_lemma =>
    go_region_held3 (fun _ => True) (trivial)
      (first | (go_at_call 64; (with_reducible refine Go.Calls.mono (C5.out _ ?_) ?_); (· repeat (first | assumption | exact Nat.le_refl _ | exact Nat.le_succ _ | exact Below.refl _ _ | apply below_drew1 | (refine Below.alloc ?_ ?_ _) | omega | (simp only [World.size_alloc]; omega) | (simp; done) | (simp; omega))); rintro e w7 ⟨oL, cL, rfl, ho, _, hb⟩; have bz7 : Below w6.heap.size w6 w7 := (by refine Below.trans ?_ (hb.mono ?_); (· repeat (first | assumption | exact Nat.le_refl _ | exact Nat.le_succ _ | exact Below.refl _ _ | apply below_drew1 | (refine Below.alloc ?_ ?_ _) | omega | (simp only [World.size_alloc]; omega) | (simp; done) | (simp; omega))); (· repeat (first | assumption | exact Nat.le_refl _ | exact Nat.le_succ _ | exact Below.refl _ _ | apply below_drew1 | (refine Below.alloc ?_ ?_ _) | omega | (simp only [World.size_alloc]; omega) | (simp; done) | (simp; omega)))); have s7 := hb.size; have O7 : Hid (w7.ownsRow w6.heap.size 2 1 (.slice oL ls.length cL) ls.length (ints ls)) := own_base ho (by repeat (first | assumption | exact Nat.le_refl _ | exact Nat.le_succ _ | exact Below.refl _ _ | apply below_drew1 | (refine Below.alloc ?_ ?_ _) | omega | (simp only [World.size_alloc]; omega) | (simp; done) | (simp; omega))); have KP7 := Lib.hid (fun (b : Nat) (t : TypeId) (cs : Array Value) (h : Blk _ b t cs) => h.below hb h.lt); (try simp at s7); (first | (refine cutP (p := Blk w7 (w6.heap.size) 26 #[.slice none 0 0]) ?_ ?_; (· refine KP7.out _ _ _ ?_; (repeat (first | (refine blk_at ?_; (first | rfl | (simp; done))) | refine Blk.alloc ?_ _)); done); intro zA0; have cA0 := zA0.cell 0; have fA0 := zA0.frozen 0; have lA0 := zA0.lt; replace zA0 := Lib.hid zA0) | skip); (first | (refine cutP (p := Blk w7 (w6.heap.size + 1) 26 #[.slice none 0 0]) ?_ ?_; (· refine KP7.out _ _ _ ?_; (repeat (first | (refine blk_at ?_; (first | rfl | (simp; done))) | refine Blk.alloc ?_ _)); done); intro zA1; have cA1 := zA1.cell 0; have fA1 := zA1.frozen 0; have lA1 := zA1.lt; replace zA1 := Lib.hid zA1) | skip); (first | (refine cutP (p := Blk w7 (w6.heap.size + 1 + 1) 26 #[.slice none 0 0]) ?_ ?_; (· refine KP7.out _ _ _ ?_; (repeat (first | (refine blk_at ?_; (first | rfl | (simp; done))) | refine Blk.alloc ?_ _)); done); intro zA2; have cA2 := zA2.cell 0; have fA2 := zA2.frozen 0; have lA2 := zA2.lt; replace zA2 := Lib.hid zA2) | skip); (first | (refine cutP (p := Blk w7 (w6.heap.size) 83 #[.slice none 0 0]) ?_ ?_; (· refine KP7.out _ _ _ ?_; (repeat (first | (refine blk_at ?_; (first | rfl | (simp; done))) | refine Blk.alloc ?_ _)); done); intro zB0; have cB0 := zB0.cell 0; have fB0 := zB0.frozen 0; have lB0 := zB0.lt; replace zB0 := Lib.hid zB0) | skip); (first | (refine cutP (p := Blk w7 (w6.heap.size + 1) 83 #[.slice none 0 0]) ?_ ?_; (· refine KP7.out _ _ _ ?_; (repeat (first | (refine blk_at ?_; (first | rfl | (simp; done))) | refine Blk.alloc ?_ _)); done); intro zB1; have cB1 := zB1.cell 0; have fB1 := zB1.frozen 0; have lB1 := zB1.lt; replace zB1 := Lib.hid zB1) | skip); (first | (refine cutP (p := Blk w7 (w6.heap.size + 1 + 1) 83 #[.slice none 0 0]) ?_ ?_; (· refine KP7.out _ _ _ ?_; (repeat (first | (refine blk_at ?_; (first | rfl | (simp; done))) | refine Blk.alloc ?_ _)); done); intro zB2; have cB2 := zB2.cell 0; have fB2 := zB2.frozen 0; have lB2 := zB2.lt; replace zB2 := Lib.hid zB2) | skip); (first | (refine cutP (p := Blk w7 (w6.heap.size) 4 (bools (List.replicate ls.length false)).toArray) ?_ ?_; (· refine KP7.out _ _ _ ?_; (repeat (first | (refine blk_at ?_; (first | rfl | (simp; done))) | refine Blk.alloc ?_ _)); done); intro zT0; have cT0 := zT0.cell 0; have fT0 := zT0.frozen 0; have lT0 := zT0.lt; replace zT0 := Lib.hid zT0) | skip); (first | (refine cutP (p := Blk w7 (w6.heap.size + 1) 4 (bools (List.replicate ls.length false)).toArray) ?_ ?_; (· refine KP7.out _ _ _ ?_; (repeat (first | (refine blk_at ?_; (first | rfl | (simp; done))) | refine Blk.alloc ?_ _)); done); intro zT1; have cT1 := zT1.cell 0; have fT1 := zT1.frozen 0; have lT1 := zT1.lt; replace zT1 := Lib.hid zT1) | skip); (first | (refine cutP (p := Blk w7 (w6.heap.size + 1 + 1) 4 (bools (List.replicate ls.length false)).toArray) ?_ ?_; (· refine KP7.out _ _ _ ?_; (repeat (first | (refine blk_at ?_; (first | rfl | (simp; done))) | refine Blk.alloc ?_ _)); done); intro zT2; have cT2 := zT2.cell 0; have fT2 := zT2.frozen 0; have lT2 := zT2.lt; replace zT2 := Lib.hid zT2) | skip); clear ho hb))
    all_goals
      go_wp2
      go_meet
      all_goals
        clear hls hls1 hN6 l4 hsz k6 B3 b4 b5 b6 k0l k1l k2l k3l c0 c1 c2 d0 d1 mk hi0 hz0 hz1 hz2
        refine ⟨_, _, ?_, cL, oL, rfl, rfl, ⟨?_, ?_, ?_, ?_⟩, ⟨?_, ?_, ?_⟩, ?_⟩
        rotate_left
        · (repeat (first | ((with_reducible refine blk_at ?_); (first | (with_reducible rfl) | (simp; done))) | (with_reducible exact zA0.out) | (with_reducible exact zA1.out) | (with_reducible exact zA2.out) | (with_reducible exact zB0.out) | (with_reducible exact zB1.out) | (with_reducible exact zB2.out) | (with_reducible exact zT0.out) | (with_reducible exact zT1.out) | (with_reducible exact zT2.out) | (with_reducible refine blk_set1 ?_) | ((with_reducible refine blk_far ?_ ?_); (intro hh; omega)) | (with_reducible refine Blk.alloc ?_ _))); done
        · (repeat (first | ((with_reducible refine blk_at ?_); (first | (with_reducible rfl) | (simp; done))) | (with_reducible exact zA0.out) | (with_reducible exact zA1.out) | (with_reducible exact zA2.out) | (with_reducible exact zB0.out) | (with_reducible exact zB1.out) | (with_reducible exact zB2.out) | (with_reducible exact zT0.out) | (with_reducible exact zT1.out) | (with_reducible exact zT2.out) | (with_reducible refine blk_set1 ?_) | ((with_reducible refine blk_far ?_ ?_); (intro hh; omega)) | (with_reducible refine Blk.alloc ?_ _))); done
        · (repeat (first | ((with_reducible refine blk_at ?_); (first | (with_reducible rfl) | (simp; done))) | (with_reducible exact zA0.out) | (with_reducible exact zA1.out) | (with_reducible exact zA2.out) | (with_reducible exact zB0.out) | (with_reducible exact zB1.out) | (with_reducible exact zB2.out) | (with_reducible exact zT0.out) | (with_reducible exact zT1.out) | (with_reducible exact zT2.out) | (with_reducible refine blk_set1 ?_) | ((with_reducible refine blk_far ?_ ?_); (intro hh; omega)) | (with_reducible refine Blk.alloc ?_ _))); done
        · (repeat (first | (with_reducible exact O7.out) | ((with_reducible refine own_setL ?_ ?_); (focus ((repeat (first | ((with_reducible refine blk_at ?_); (first | (with_reducible rfl) | (simp; done))) | (with_reducible exact zA0.out) | (with_reducible exact zA1.out) | (with_reducible exact zA2.out) | (with_reducible exact zB0.out) | (with_reducible exact zB1.out) | (with_reducible exact zB2.out) | (with_reducible exact zT0.out) | (with_reducible exact zT1.out) | (with_reducible exact zT2.out) | (with_reducible refine blk_set1 ?_) | ((with_reducible refine blk_far ?_ ?_); (intro hh; omega)) | (with_reducible refine Blk.alloc ?_ _))); done))) | ((with_reducible refine own_setB ?_ ?_); (focus ((repeat (first | ((with_reducible refine blk_at ?_); (first | (with_reducible rfl) | (simp; done))) | (with_reducible exact zA0.out) | (with_reducible exact zA1.out) | (with_reducible exact zA2.out) | (with_reducible exact zB0.out) | (with_reducible exact zB1.out) | (with_reducible exact zB2.out) | (with_reducible exact zT0.out) | (with_reducible exact zT1.out) | (with_reducible exact zT2.out) | (with_reducible refine blk_set1 ?_) | ((with_reducible refine blk_far ?_ ?_); (intro hh; omega)) | (with_reducible refine Blk.alloc ?_ _))); done))) | (with_reducible refine World.ownsRow.alloc ?_ _))); done
        · first | omega | (simp; omega)
        · first | omega | (simp; omega)
        · first | omega | (simp; omega)
        · show Below w6.heap.size w6 _; (repeat (first | (with_reducible assumption) | (with_reducible refine Below.setCell ?_ ?_ _) | (with_reducible refine Below.alloc ?_ ?_ _) | (simp only [World.size_alloc, World.size_setCell]; omega) | (show w6.heap.size ≤ _; omega) | (simp; omega))); done
  case rest => as_aux_lemma =>
    obtain ⟨b8, b9, gT, cL, oL, rfl, rfl, H5, HS, BW⟩ := hcut
    obtain ⟨gL, rfl⟩ := own_some H5.out.2.2.2 (by omega)
    obtain ⟨w8, hw8⟩ : ∃ w8, w8 = wc := ⟨wc, rfl⟩
    subst hw8
    have hL1 : LyI b8 b9 gL gT ls.length cL w6 sh st off ls tds 0 w8 := ⟨H5.out.1, H5.out.2.1, H5.out.2.2.2, H5.out.2.2.1, BW.out, fun i hi => absurd hi (Nat.not_lt_zero _)⟩
    have HL := Lib.hid hL1
    have HB6 := Lib.hid b6
    have gl8 := (H5.out.2.2.2.lt gL rfl).2
    have gl6 := (H5.out.2.2.2.lt gL rfl).1
    have gt8 := H5.out.2.2.1.lt
    have b88 := H5.out.1.lt
    have b98 := H5.out.2.1.lt
    have gt6 := HS.out.2.2
    have NLT : Hid (¬ gL = gT) := own_blk_ne H5.out.2.2.2 H5.out.2.2.1 (by decide)
    obtain ⟨c0, c1, c2, _⟩ := blk3 (K0.out.below BW.out k0l)
    clear hL1 H5 B3 b4 b5 C1 C2 C3 C4 C5 R6 d0 d1
    go_wp2_with (first | (go_at_call 62; (with_reducible refine (placesf_any _ _ _ _).mono ?_); rintro e w9 ⟨rfl, hw9⟩))
    have s9 : w9.heap.size = w8.heap.size + 1 := by rw [← hw9]; simp
    have HV9 : Hid (Blk w9 w8.heap.size 25 #[.slice o1 sh.length n1, .slice o2 st.length n2, .int .i64 off]) := by rw [← hw9]; exact Blk.new w8 _ _
    have HB9 : Hid (Below w8.heap.size w8 w9) := by rw [← hw9]; exact (Below.refl _ _).alloc (Nat.le_refl _) _
    have B69 := Lib.hid (BW.out.trans (HB9.out.mono BW.out.size))
    have B09 := Lib.hid (HB6.out.trans (B69.out.mono k6))
    have s68 := BW.out.size
    have HL9 : Hid (LyI b8 b9 gL gT ls.length cL w6 sh st off ls tds 0 w9) := by
      obtain ⟨h1, h2, h3, h4, _, h6⟩ := HL.out
      exact ⟨h1.below HB9.out h1.lt, h2.below HB9.out h2.lt, Below.keepOwn h3 HB9.out (Nat.le_refl _), h4.below HB9.out h4.lt, B69.out, h6⟩
    clear hw9
    refine (wpIn_wide (n := 9)).1 ?_
    refine wpIn_rangeFunc_told2 (F := Fence.wide) (n := 9) rfl (by decide) (gf := 74) (lb := #[.pointer (some ⟨w8.heap.size, 0, none⟩)]) rfl trivial (enters_of Try.func74 (by kernel_rfl) rfl)
      (places1_told 8 (by decide) (fun j => j < w9.heap.size ∧ j ≠ gL ∧ j ≠ gT) w8.heap.size (.slice o1 sh.length n1) (.slice o2 st.length n2) sh st off N w9 HV9.out (HSV.out.1.below B09.out) (HSV.out.2.1.below B09.out) HV.out.1.1 HV.out.1.2.1 HV.out.1.2.2.1 HV.out.1.2.2.2.1 (by have h1 := HV.out.1.2.2.2.2.1; have h2 := HV.out.1.2.2.2.2.2.2; omega) HV.out.2.1 ⟨by omega, by omega, by omega⟩ ?hTS)
      KV.trans ?keepb (fun _ => rfl)
      (fun pre W => LyI b8 b9 gL gT ls.length cL w6 sh st off ls tds pre.length W)
      (fun cd _ W => cd = .ret ∧ dup sh st off N = true ∧ Blk W (w.heap.size + 2) 26 #[.slice none 0 0] ∧ Blk W (w.heap.size + 3) 42 #[.int .i64 2] ∧ Below w.heap.size w W)
      ?ownI ?ownX ?ownT HL9.out ?a1 ?assign ?body ?done ?stop
    case hTS =>
      intro i hi
      obtain ⟨o, c, e, _, hx⟩ := HSV.out.2.1
      obtain ⟨b, f, rfl, hb, _⟩ := hx i hi
      exact ⟨b, f, c, e, by omega, by omega, by omega⟩
    case keepb =>
      intro X k o o' hk ho hc _
      refine ⟨fun j hj => World.putObj_heap_other (by omega), fun j cs t fz e ht => World.putObj_heap_other (fun e2 => ?_)⟩
      subst e2
      rw [ho] at e
      cases e
      cases hc
    case ownI => exact lyi_own b8 b9 gL gT ls.length cL w6 sh st off ls tds w9.heap.size (by omega)
    case ownX =>
      rintro cd s X Y row ⟨e, h0, h1, h2, h3⟩ hg hr
      have hc : ∀ r, row = some r → ∃ o : Obj, X.heap[r]? = some o ∧ o.isCells = false := fun r e => (hr r e).2
      exact ⟨e, h0, blk_own (β := Unit) _ _ (fun _ => _) () X Y row h1 hg hc, blk_own (β := Unit) _ _ (fun _ => _) () X Y row h2 hg hc, h3.grown hg h3.size (fun k e => by have := (hr k e).1; omega)⟩
    case ownT => exact fun pre x _ _ _ _ h _ _ => h
    case assign =>
      intro l2 x X K hK
      unfold plc
      gi_wp2
      exact hK
    case body =>
      rintro l2 pre x X hI hlt hx
      obtain rfl : x = pre.length := hx
      have HI := Lib.hid hI
      have hp := may_pos HV.out.1.1
      have hN := HV.out.2.1
      have hat : ∀ k, k < N → 0 ≤ plat sh st off k ∧ plat sh st off k < ls.length := fun k hk => vw_at HV.out.1 (atl_inx sh (k : Nat) hp (by omega) (by omega))
      obtain ⟨P, hP⟩ := Int.eq_ofNat_of_zero_le (hat _ hlt).1
      have hP2 : off + dot st (atl sh (pre.length : Nat)) = (P : Int) := hP
      have hPl : P < ls.length := by have := (hat _ hlt).2; omega
      have HP := Lib.hid (And.intro hP hPl)
      have HH : Hid ((tks sh st off ls.length pre.length).getD P false = hit sh st off pre.length) := tks_hit (fun i hi => (hat i (by omega)).1) hP hPl
      rw [hP2]
      obtain ⟨hi1, hi2, hi3, hi4, hi5, _⟩ := id hI
      have e9 := hi2.cell 0
      have e8 := hi1.cell 0
      have kT := (hi4.cell P).trans (bools_at (by rw [tks_len]; exact hPl))
      have fT := hi4.frozen P
      rw [HH.out] at kT
      have hPn : (P : Int) < (ls.length : Int) := by omega
      have h0P : (0 : Int) ≤ (P : Int) := by omega
      have k62 := K2.out.below hi5 k2l
      have k63 := K3.out.below hi5 k3l
      obtain ⟨r0, rf0⟩ := And.intro (k62.cell 0) (k62.frozen 0)
      obtain ⟨r1, rf1⟩ := And.intro (k63.cell 0) (k63.frozen 0)
      cases hh : hit sh st off pre.length with
      | true =>
        rw [hh] at kT
        have HD := Lib.hid (dup_yes hlt hh)
        have XE := Lib.hid (And.intro k62 (And.intro k63 (HB6.out.trans (hi5.mono k6))))
        clear hI hi1 hi2 hi3 hi4 hi5 hh hP hP2 hat hp hN k62 k63
        gi_wp2
        refine ⟨⟨by simp, fun j o hj ho _ => ?_⟩, rfl, HD.out, ?_, ?_, ?_⟩
        · exact ((Below.heap_setCell _ _ _ j (show ¬ j = w.heap.size + 3 by omega)).trans (Below.heap_setCell _ _ _ j (show ¬ j = w.heap.size + 2 by omega))).trans ho
        · exact (XE.out.1.set_ 0 _).far (p := ⟨w.heap.size + 3, 0, none⟩) (by show ¬ w.heap.size + 2 = w.heap.size + 3; omega) _
        · exact (XE.out.2.1.far (p := ⟨w.heap.size + 2, 0, none⟩) (by show ¬ w.heap.size + 3 = w.heap.size + 2; omega) _).set_ 0 _
        · exact (XE.out.2.2.setCell (p := ⟨w.heap.size + 2, 0, none⟩) (by show w.heap.size ≤ w.heap.size + 2; omega) _).setCell (p := ⟨w.heap.size + 3, 0, none⟩) (by show w.heap.size ≤ w.heap.size + 3; omega) _
      | false =>
        rw [hh] at kT
        have kL := own_cell (i := P) (show X.ownsRow w6.heap.size 2 1 (.slice (some ⟨gL, 0, none⟩) (lys sh st off ls tds pre.length).length cL) (lys sh st off ls tds pre.length).length (ints (lys sh st off ls tds pre.length)) by rw [lys_len]; exact hi3) (by rw [lys_len]; exact hPl)
        have fL := own_frozen hi3 P
        obtain ⟨o4', n4', e4, _, hx4⟩ := HSV.out.2.2.2.1
        simp only [Value.slice.injEq] at e4
        obtain ⟨rfl, _, rfl⟩ := e4
        obtain ⟨b4, f4, rfl, hb4, hc4⟩ := hx4 pre.length (by have := HV.out.2.2; omega)
        have kD := ((HB6.out.trans (hi5.mono k6)).cell (p := ⟨b4, f4 + pre.length, none⟩) hb4).trans hc4
        obtain ⟨_, d1, _⟩ := blk2 (K1.out.below hi5 k1l)
        have na := own_blk_ne hi3 hi1 (by decide)
        have nb := own_blk_ne hi3 hi2 (by decide)
        have tb : ∀ {b : Nat} {u : TypeId} {cs : Array Value}, Blk X b u cs → 4 ≠ u → ¬ gT = b := fun {b u cs} hb hne e => by
          subst e
          have := hi4.symm.trans hb
          simp only [Option.some.injEq, Obj.cells.injEq] at this
          exact hne this.2.1
        have nc := tb hi1 (by decide)
        have nd := tb hi2 (by decide)
        have ne1 : ¬ b4 = gL := by omega
        have ne2 : ¬ b4 = gT := by omega
        have ne3 : ¬ w.heap.size + 1 = gL := by omega
        have ne4 : ¬ w.heap.size + 1 = gT := by omega
        have na' : ¬ b8 = gL := fun e => na e.symm
        have nb' : ¬ b9 = gL := fun e => nb e.symm
        have nc' : ¬ b8 = gT := fun e => nc e.symm
        have nd' : ¬ b9 = gT := fun e => nd e.symm
        have nl := NLT.out
        have nl' : ¬ gT = gL := fun e => NLT.out e.symm
        have hkn : (pre.length : Int) < (tds.length : Int) := by have := HV.out.2.2; omega
        have hk0 : (0 : Int) ≤ (pre.length : Int) := by omega
        generalize hy : tds.getD pre.length 0 = y at *
        generalize (lys sh st off ls tds pre.length).getD P 0 = z0 at *
        have RS := Lib.hid (ly_step (B := w9.heap.size) HI.out HP.out.1 HP.out.2 rfl hy hh gt6)
        clear hI hi1 hi2 hi3 hi4 hi5 hh hP hP2 hat hp hN k62 k63 tb hx4 hc4 r0 r1 rf0 rf1
        gi_wp2
        refine wpIn_mono (region_in (S := fun W => W.cell? ⟨b8, 0, none⟩ = some (.slice (some ⟨gL, 0, none⟩) ls.length cL) ∧ W.cell? ⟨b9, 0, none⟩ = some (.slice (some ⟨gT, 0, none⟩) ls.length ls.length) ∧ W.cell? ⟨w.heap.size + 1, 1, none⟩ = some (.slice (some ⟨b4, f4, none⟩) tds.length n4) ∧ W.cell? ⟨b4, f4 + pre.length, none⟩ = some (.int .i64 y)) (R := fun W => KeepsFrom w9.heap.size X W ∧ KV (fun j => j < w9.heap.size ∧ j ≠ gL ∧ j ≠ gT) X W ∧ LyI b8 b9 gL gT ls.length cL w6 sh st off ls tds (pre.length + 1) W) (by kernel_rfl) (by kernel_rfl) ?_ (fun hHeld => ?_)) ?_
        · exact ⟨e8, e9, d1, kD⟩
        · have hHd := hHeld
          simp only [List.size_toArray, List.length_cons, List.length_nil, Nat.reduceAdd, Array.replicate_succ, Array.replicate_zero, List.push_toArray, List.nil_append, List.cons_append]
          (refine wpAnyH_take (i := 0) (oi := ⟨some 46, _, _, _, _, _⟩) (v := ?v0) rfl (by kernel_rfl) (by kernel_rfl) (by kernel_rfl) (fun _ _ _ h => h) (Or.inl ⟨by rfl, ?hy0⟩) (by assumption) ?rest0; (case hy0 => ((intro w hSw); (try dsimp only at hSw); go_simp; first | done | (with_reducible rfl))))
          (try simp only [Act.put, List.setIfInBounds_toArray, List.set_cons_zero, List.set_cons_succ])
          (refine wpAnyH_take (i := 1) (oi := ⟨some 47, _, _, _, _, _⟩) (v := ?v1) rfl (by kernel_rfl) (by kernel_rfl) (by kernel_rfl) (fun _ _ _ h => h) (Or.inl ⟨by rfl, ?hy1⟩) (by assumption) ?rest1; (case hy1 => ((intro w hSw); (try dsimp only at hSw); go_simp; first | done | (with_reducible rfl))))
          (try simp only [Act.put, List.setIfInBounds_toArray, List.set_cons_zero, List.set_cons_succ])
          (refine wpAnyH_take (i := 2) (oi := ⟨some 48, _, _, _, _, _⟩) (v := ?v2) rfl (by kernel_rfl) (by kernel_rfl) (by kernel_rfl) (fun _ _ _ h => h) (Or.inl ⟨by rfl, ?hy2⟩) (by assumption) ?rest2; (case hy2 => ((intro w hSw); (try dsimp only at hSw); go_simp; first | done | (with_reducible rfl))))
          (try simp only [Act.put, List.setIfInBounds_toArray, List.set_cons_zero, List.set_cons_succ])
          (refine wpAnyH_take (i := 3) (oi := ⟨some 49, _, _, _, _, _⟩) (v := ?v3) rfl (by kernel_rfl) (by kernel_rfl) (by kernel_rfl) (fun _ _ _ h => h) (Or.inl ⟨by rfl, ?hy3⟩) (by assumption) ?rest3; (case hy3 => ((intro w hSw); (try dsimp only at hSw); go_simp; first | done | (with_reducible rfl))))
          (try simp only [Act.put, List.setIfInBounds_toArray, List.set_cons_zero, List.set_cons_succ])
          (refine wpAnyH_take (i := 4) (oi := ⟨some 50, _, _, _, _, _⟩) (v := ?v4) rfl (by kernel_rfl) (by kernel_rfl) (by kernel_rfl) (fun _ _ _ h => h) (Or.inl ⟨by rfl, ?hy4⟩) (by assumption) ?rest4; (case hy4 => ((intro w hSw); (try dsimp only at hSw); go_simp; first | done | (with_reducible rfl))))
          (try simp only [Act.put, List.setIfInBounds_toArray, List.set_cons_zero, List.set_cons_succ])
          (refine wpAnyH_take (i := 5) (oi := ⟨some 51, _, _, _, _, _⟩) (v := ?v5) rfl (by kernel_rfl) (by kernel_rfl) (by kernel_rfl) (fun _ _ _ h => h) (Or.inl ⟨by rfl, ?hy5⟩) (by assumption) ?rest5; (case hy5 => ((intro w hSw); (try dsimp only at hSw); go_simp; first | done | (with_reducible rfl))))
          (try simp only [Act.put, List.setIfInBounds_toArray, List.set_cons_zero, List.set_cons_succ])
          (refine wpAnyH_take (i := 6) (oi := ⟨some 52, _, _, _, _, _⟩) (v := ?v6) rfl (by kernel_rfl) (by kernel_rfl) (by kernel_rfl) (fun _ _ _ h => h) (Or.inl ⟨by rfl, ?hy6⟩) (by assumption) ?rest6; (case hy6 => ((intro w hSw); (try dsimp only at hSw); go_simp; first | done | (with_reducible rfl))))
          (try simp only [Act.put, List.setIfInBounds_toArray, List.set_cons_zero, List.set_cons_succ])
          (refine wpAnyH_take (i := 7) (oi := ⟨some 53, _, _, _, _, _⟩) (v := ?v7) rfl (by kernel_rfl) (by kernel_rfl) (by kernel_rfl) (fun _ _ _ h => h) (Or.inl ⟨by rfl, ?hy7⟩) (by assumption) ?rest7; (case hy7 => ((intro w hSw); (try dsimp only at hSw); go_simp; first | done | (with_reducible rfl))))
          (try simp only [Act.put, List.setIfInBounds_toArray, List.set_cons_zero, List.set_cons_succ])
          (refine wpAnyH_take (i := 8) (oi := ⟨some 54, _, _, _, _, _⟩) (v := ?v8) rfl (by kernel_rfl) (by kernel_rfl) (by kernel_rfl) (fun _ _ _ h => h) (Or.inl ⟨by rfl, ?hy8⟩) (by assumption) ?rest8; (case hy8 => ((intro w hSw); (try dsimp only at hSw); go_simp; first | done | (with_reducible rfl))))
          (try simp only [Act.put, List.setIfInBounds_toArray, List.set_cons_zero, List.set_cons_succ])
          (refine wpAnyH_take (i := 9) (oi := ⟨some 55, _, _, _, _, _⟩) (v := ?v9) rfl (by kernel_rfl) (by kernel_rfl) (by kernel_rfl) (fun _ _ _ h => h) (Or.inl ⟨by rfl, ?hy9⟩) (by assumption) ?rest9; (case hy9 => ((intro w hSw); (try dsimp only at hSw); go_simp; first | done | (with_reducible rfl))))
          (try simp only [Act.put, List.setIfInBounds_toArray, List.set_cons_zero, List.set_cons_succ])
          refine wpAnyH_ready (rs := [10]) (by kernel_rfl) (by simp) ?_
          refine AllReadyH.cons (o := ⟨none, _, _, _, _, _⟩) rfl (fun K hK => ?_) AllReadyH.nil
          go_simp
          refine hK.out _ _ ?_ (fun hHeld => ?_)
          · (try dsimp only)
            first | assumption | (simp [go_sem, *]; done) | exact SK.out
          clear hK K
          (try simp only [List.setIfInBounds_toArray, List.set_cons_zero, List.set_cons_succ])
          refine wpAnyH_ready (rs := [11]) (by kernel_rfl) (by simp) ?_
          refine AllReadyH.cons (o := ⟨some 56, _, _, _, _, _⟩) rfl (fun K hK => ?_) AllReadyH.nil
          go_simp
          refine hK.out _ _ ?_ (fun hHeld => ?_)
          · (try dsimp only)
            first | assumption | (simp [go_sem, *]; done) | exact SK.out
          clear hK K
          (try simp only [List.setIfInBounds_toArray, List.set_cons_zero, List.set_cons_succ])
          refine wpAnyH_ready (rs := [12]) (by kernel_rfl) (by simp) ?_
          refine AllReadyH.cons (o := ⟨none, _, _, _, _, _⟩) rfl (fun K hK => ?_) AllReadyH.nil
          go_simp
          refine hK.out _ _ ?_ (fun hHeld => ?_)
          · (try dsimp only)
            first | assumption | (simp [go_sem, *]; done) | exact SK.out
          clear hK K
          (try simp only [List.setIfInBounds_toArray, List.set_cons_zero, List.set_cons_succ])
          refine wpAnyH_done (by kernel_rfl) ?_ _
          exact ⟨rfl, ⟨RS.out.1.size, RS.out.1.same⟩, ⟨RS.out.2.1.1, RS.out.2.1.2⟩, ly_drew RS.out.2.2⟩
        · rintro e a3 W3 ⟨rfl, hR⟩
          have e1 : (pre ++ [pre.length]).length = pre.length + 1 := by simp
          exact ⟨hR.1, hR.2.1, by show LyI _ _ _ _ _ _ _ _ _ _ _ _ (pre ++ [pre.length]).length _; rw [e1]; exact hR.2.2⟩
    case done =>
      rintro D ys X hD hys hI hK
      have hys' : ys.length = N := hys
      obtain ⟨hi1, hi2, hi3, hi4, hi5, hi6⟩ := id hI
      have hdup : dup sh st off N = false := dup_no (fun k hk => hi6 k (by omega))
      have HD := Lib.hid hdup
      have e8 := hi1.cell 0
      have k62 := K2.out.below hi5 k2l
      have k63 := K3.out.below hi5 k3l
      obtain ⟨r0, rf0⟩ := And.intro (k62.cell 0) (k62.frozen 0)
      obtain ⟨r1, rf1⟩ := And.intro (k63.cell 0) (k63.frozen 0)
      rw [hys'] at hi3
      have HX := Lib.hid (And.intro hi3 (And.intro hi5 (And.intro k62 (And.intro k63 hK))))
      have E1 := Lib.hid (lay_end hi3 k62 k63 hK rfl (.slice (some ⟨gL, 0, none⟩) ls.length cL) (.int .i64 0) (.deferred none))
      have hDa : ¬ D = w.heap.size + 2 := by omega
      have hDb : ¬ D = w.heap.size + 3 := by omega
      have hK2 : ((X.setCell ⟨w.heap.size + 2, 0, none⟩ (.slice (some ⟨gL, 0, none⟩) ls.length cL)).setCell ⟨w.heap.size + 3, 0, none⟩ (.int .i64 0)).heap[D]? = some (.deferred (some [])) := ((Below.heap_setCell _ _ _ _ hDb).trans (Below.heap_setCell _ _ _ _ hDa)).trans hK
      have e3 : Below w.heap.size w (((X.setCell ⟨w.heap.size + 2, 0, none⟩ (.slice (some ⟨gL, 0, none⟩) ls.length cL)).setCell ⟨w.heap.size + 3, 0, none⟩ (.int .i64 0)).putObj D (.deferred none)) := (((HB6.out.trans (hi5.mono k6)).setCell (p := ⟨w.heap.size + 2, 0, none⟩) (by show w.heap.size ≤ w.heap.size + 2; omega) _).setCell (p := ⟨w.heap.size + 3, 0, none⟩) (by show w.heap.size ≤ w.heap.size + 3; omega) _).trans (belowK_b (w := w) (Nat.le_refl _) _ D _ (.deferred none) (by omega) hK2 rfl rfl)
      have q1 : Blk (((X.setCell ⟨w.heap.size + 2, 0, none⟩ (.slice (some ⟨gL, 0, none⟩) ls.length cL)).setCell ⟨w.heap.size + 3, 0, none⟩ (.int .i64 0)).putObj D (.deferred none)) (w.heap.size + 2) 26 #[.slice (some ⟨gL, 0, none⟩) ls.length cL] := ((k62.set_ 0 _).far (p := ⟨w.heap.size + 3, 0, none⟩) (by show ¬ w.heap.size + 2 = w.heap.size + 3; omega) _).kept (grownBy_putObj' _ D _) (by intro e; cases e; omega)
      have q2 : Blk (((X.setCell ⟨w.heap.size + 2, 0, none⟩ (.slice (some ⟨gL, 0, none⟩) ls.length cL)).setCell ⟨w.heap.size + 3, 0, none⟩ (.int .i64 0)).putObj D (.deferred none)) (w.heap.size + 3) 42 #[.int .i64 0] := ((k63.far (p := ⟨w.heap.size + 2, 0, none⟩) (by show ¬ w.heap.size + 3 = w.heap.size + 2; omega) _).set_ 0 _).kept (grownBy_putObj' _ D _) (by intro e; cases e; omega)
      have Q := Lib.hid (And.intro (q1.cell 0) (q2.cell 0))
      have E3 := Lib.hid e3
      have HK2 := Lib.hid hK2
      clear hI hi1 hi2 hi3 hi4 hi5 hi6 hK k62 k63 hys hys' hdup q1 q2 e3 hK2
      go_wp2
      refine ⟨by simp, .inl ⟨_, _, rfl, run_takeDeferred HK2.out, ?_⟩⟩
      have p0 := Q.out.1
      have p1 := Q.out.2
      refine ⟨.tuple #[.slice (some ⟨gL, 0, none⟩) ls.length cL, .int .i64 0], by simp [results, Try.results38, go_sem, p0, p1], ?_⟩
      rw [HR.out, if_neg (by rw [HD.out]; decide)]
      exact ⟨some ⟨gL, 0, none⟩, cL, by rw [lys_len], by rw [lys_len]; exact own_base E1.out k6, E3.out⟩
    case stop =>
      rintro D cd pre X hD hpre ⟨rfl, hdup, h1, h2, h3⟩ hK
      have HD := Lib.hid hdup
      have e1 := h1.kept (grownBy_putObj' X D (.deferred none)) (by intro e; cases e; rw [show X.heap[_]? = _ from h1] at hK; cases hK)
      have e2 := h2.kept (grownBy_putObj' X D (.deferred none)) (by intro e; cases e; rw [show X.heap[_]? = _ from h2] at hK; cases hK)
      have e3 : Below w.heap.size w (X.putObj D (.deferred none)) := h3.trans (belowK_b (w := w) (Nat.le_refl _) _ D _ (.deferred none) (by omega) hK rfl rfl)
      have p0 := e1.cell 0
      have p1 := e2.cell 0
      have HE := Lib.hid e3
      have HK := Lib.hid hK
      clear e1 e2 e3 hK h1 h2 h3 hdup
      gi_wp2
      go_wp2
      refine ⟨by simp, .inl ⟨_, _, rfl, run_takeDeferred HK.out, ?_⟩⟩
      refine ⟨.tuple #[.slice none 0 0, .int .i64 2], by simp [results, Try.results38, go_sem, p0, p1], ?_⟩
      rw [HR.out, if_pos HD.out]
      exact ⟨none, 0, rfl, World.ownsRow_nil _ _ _ _, HE.out⟩
end Go.Proofs.Ytdcmcfmodbdhaaa
namespace Go.Proofs.Ytdcmcfmodbdhaaa
open Go.RowKit Go.Shelf
attribute [local go_sem] Oper.semAt_some

/-- Lay's error. -/
def lye (sh st ts tds ls : List Int) (off : Int) (N : Nat) : Int := if vwb sh st off ls.length && wds ls && tnb ts tds then (if decide (ts = sh) then (if dup sh st off N then 2 else 0) else 2) else 1
set_option maxRecDepth 100000 in
set_option maxHeartbeats 20000000 in
theorem lay_no (er : Int) (vs vt vp vr vd : Value) (sh st ts tds ls : List Int) (off : Int) (w : World) (hs : Ld w vs sh) (ht : Ld w vt st) (hp : Ld w vp ts) (hr : Ld w vr tds) (hd : Ld w vd ls)
    (l1 : sh.length ≤ 17592186044416) (l2 : st.length ≤ 17592186044416) (l3 : ls.length ≤ 17592186044416) (l4 : ts.length ≤ 17592186044416) (l5 : tds.length ≤ 17592186044416)
    (he : ((vwb sh st off ls.length && wds ls && tnb ts tds) = false ∧ er = 1) ∨ (vwb sh st off ls.length = true ∧ wds ls = true ∧ tnb ts tds = true ∧ ¬ ts = sh ∧ er = 2)) :
    Calls Try.prog 38 #[.agg #[vs, vt, .int .i64 off], .agg #[vp, vr], vd] w (SomeLd w er []) := by
  obtain ⟨w3, hw3⟩ : ∃ w3, w3 = (((w.alloc (.cells #[vs, vt, .int .i64 off] 25)).alloc (.cells #[vp, vr] 28)).alloc (.cells #[.slice none 0 0] 26)).alloc (.cells #[.int .i64 0] 42) := ⟨_, rfl⟩
  have hsz : w3.heap.size = w.heap.size + 4 := by rw [hw3]; simp
  have B3 : Below w.heap.size w w3 := by rw [hw3]; exact ((((Below.refl _ _).alloc (Nat.le_refl _) _).alloc (by simp) _).alloc (by simp; omega) _).alloc (by simp; omega) _
  have K0 : Hid (Blk w3 w.heap.size 25 #[vs, vt, .int .i64 off]) := by rw [hw3]; exact (((Blk.new w _ _).alloc _).alloc _).alloc _
  have K1 : Hid (Blk w3 (w.heap.size + 1) 28 #[vp, vr]) := by rw [hw3]; exact ((blk_new1 w _ _ _).alloc _).alloc _
  have K2 : Hid (Blk w3 (w.heap.size + 2) 26 #[.slice none 0 0]) := by
    rw [hw3]
    have q := Blk.new ((w.alloc (.cells #[vs, vt, .int .i64 off] 25)).alloc (.cells #[vp, vr] 28)) 26 #[.slice none 0 0]
    rw [World.size_alloc, World.size_alloc] at q
    exact q.alloc _
  have K3 : Hid (Blk w3 (w.heap.size + 3) 42 #[.int .i64 0]) := by
    rw [hw3]
    have q := Blk.new (((w.alloc (.cells #[vs, vt, .int .i64 off] 25)).alloc (.cells #[vp, vr] 28)).alloc (.cells #[.slice none 0 0] 26)) 42 #[.int .i64 0]
    rwa [World.size_alloc, World.size_alloc, World.size_alloc] at q
  have C1 : Hid (∀ n, w3.heap.size = n → Calls Try.prog 28 #[.agg #[vs, vt, .int .i64 off], .int .i64 (ls.length : Int)] w3 fun e w' => e = .returned (.int .i64 (frm (vwb sh st off ls.length))) ∧ Below n w3 w') := fun n hn => by
    subst hn
    exact vcheck_any vs vt sh st off ls.length w3 (hs.below B3) (ht.below B3) l1 l2
  replace C1 := Lib.hid (C1.out (w.heap.size + 4) hsz)
  have C2 := Lib.hid (fun (W : World) (hW : Below w.heap.size w W) => arewords_any vd ls W (hd.below hW) (by omega))
  have C3 := Lib.hid (fun (W : World) (hW : Below w.heap.size w W) => istensor_any vp vr ts tds W (hp.below hW) (hr.below hW) l4 l5)
  have C4 := Lib.hid (fun (W : World) (hW : Below w.heap.size w W) => equal_any vp vs ts sh W (hp.below hW) (hs.below hW) l4 l1)
  obtain ⟨o1, n1, rfl, _, _⟩ := id hs
  obtain ⟨o2, n2, rfl, _, _⟩ := id ht
  obtain ⟨o3, n3, rfl, _, _⟩ := id hp
  obtain ⟨o4, n4, rfl, _, _⟩ := id hr
  obtain ⟨o5, n5, rfl, _, _⟩ := id hd
  have HW := Lib.hid hw3
  rw [hw3] at C1
  clear hw3 hs ht hp hr hd
  have END : Hid (∀ (W : World), Below w.heap.size w W → Blk W (w.heap.size + 2) 26 #[.slice none 0 0] → Blk W (w.heap.size + 3) 42 #[.int .i64 0] → ∀ x : Int, Blk ((W.setCell ⟨w.heap.size + 2, 0, none⟩ (.slice none 0 0)).setCell ⟨w.heap.size + 3, 0, none⟩ (.int .i64 x)) (w.heap.size + 2) 26 #[.slice none 0 0] ∧ Blk ((W.setCell ⟨w.heap.size + 2, 0, none⟩ (.slice none 0 0)).setCell ⟨w.heap.size + 3, 0, none⟩ (.int .i64 x)) (w.heap.size + 3) 42 #[.int .i64 x] ∧ Below w.heap.size w ((W.setCell ⟨w.heap.size + 2, 0, none⟩ (.slice none 0 0)).setCell ⟨w.heap.size + 3, 0, none⟩ (.int .i64 x))) := Lib.hid (fun W hW h2 h3 x => ⟨(h2.set_ 0 _).far (p := ⟨w.heap.size + 3, 0, none⟩) (by show ¬ w.heap.size + 2 = w.heap.size + 3; omega) _, (h3.far (p := ⟨w.heap.size + 2, 0, none⟩) (by show ¬ w.heap.size + 3 = w.heap.size + 2; omega) _).set_ 0 _, (hW.setCell (p := ⟨w.heap.size + 2, 0, none⟩) (by show w.heap.size ≤ w.heap.size + 2; omega) _).setCell (p := ⟨w.heap.size + 3, 0, none⟩) (by show w.heap.size ≤ w.heap.size + 3; omega) _⟩)
  cases hv : vwb sh st off ls.length with
  | false =>
    obtain rfl : er = 1 := by
      rcases he with ⟨_, h⟩ | ⟨h, _⟩
      · exact h
      · rw [hv] at h; cases h
    rw [hv, frm_f] at C1
    clear he hv
    go_enter Try.func38, Try.ntmps38
    go_wp2_with (first | (go_at_call 28; (with_reducible refine C1.out.mono ?_); rintro e w4 ⟨rfl, hb4⟩; rw [← HW.out] at hb4; have b4 := B3.trans (hb4.mono (by omega)); have k0 : w.heap.size < w.heap.size + 4 := (by omega); have k1 : w.heap.size + 1 < w.heap.size + 4 := (by omega); have k2 : w.heap.size + 2 < w.heap.size + 4 := (by omega); have k3 : w.heap.size + 3 < w.heap.size + 4 := (by omega); replace K0 := Lib.hid (K0.out.below hb4 k0); replace K1 := Lib.hid (K1.out.below hb4 k1); replace K2 := Lib.hid (K2.out.below hb4 k2); replace K3 := Lib.hid (K3.out.below hb4 k3); obtain ⟨c0, c1, c2, _⟩ := blk3 K0.out; obtain ⟨d0, d1, _⟩ := blk2 K1.out; have g0 := K2.out.cell 0; have gf0 := K2.out.frozen 0; have g1 := K3.out.cell 0; have gf1 := K3.out.frozen 0; replace k0 := K0.out.lt; replace k1 := K1.out.lt; replace k2 := K2.out.lt; replace k3 := K3.out.lt; have BL := Lib.hid b4; clear hb4))
    obtain ⟨q0, q1, q2⟩ := END.out _ BL.out K2.out K3.out 1
    have p0 := q0.cell 0
    have p1 := q1.cell 0
    have Q2 := Lib.hid q2
    clear q0 q1 q2
    refine bodyPost_ret (v := .tuple #[.slice none 0 0, .int .i64 1]) (by simp [results, Try.results38, go_sem, p0, p1]) rfl ?_
    exact ⟨none, 0, rfl, World.ownsRow_nil _ _ _ _, Q2.out⟩
  | true =>
    rw [hv, frm_t] at C1
    cases hw : wds ls with
    | false =>
      obtain rfl : er = 1 := by
        rcases he with ⟨_, h⟩ | ⟨_, h, _⟩
        · exact h
        · rw [hw] at h; cases h
      rw [hw] at C2
      clear he hv hw
      go_enter Try.func38, Try.ntmps38
      go_wp2_with (first | (go_at_call 28; (with_reducible refine C1.out.mono ?_); rintro e w4 ⟨rfl, hb4⟩; rw [← HW.out] at hb4; have b4 := B3.trans (hb4.mono (by omega)); have k0 : w.heap.size < w.heap.size + 4 := (by omega); have k1 : w.heap.size + 1 < w.heap.size + 4 := (by omega); have k2 : w.heap.size + 2 < w.heap.size + 4 := (by omega); have k3 : w.heap.size + 3 < w.heap.size + 4 := (by omega); replace K0 := Lib.hid (K0.out.below hb4 k0); replace K1 := Lib.hid (K1.out.below hb4 k1); replace K2 := Lib.hid (K2.out.below hb4 k2); replace K3 := Lib.hid (K3.out.below hb4 k3); obtain ⟨c0, c1, c2, _⟩ := blk3 K0.out; obtain ⟨d0, d1, _⟩ := blk2 K1.out; have g0 := K2.out.cell 0; have gf0 := K2.out.frozen 0; have g1 := K3.out.cell 0; have gf1 := K3.out.frozen 0; replace k0 := K0.out.lt; replace k1 := K1.out.lt; replace k2 := K2.out.lt; replace k3 := K3.out.lt; have BL := Lib.hid b4; clear hb4) | (go_at_call 61; (with_reducible refine (C2.out _ b4).mono ?_); rintro e w' ⟨rfl, rfl⟩))
      obtain ⟨q0, q1, q2⟩ := END.out _ BL.out K2.out K3.out 1
      have p0 := q0.cell 0
      have p1 := q1.cell 0
      have Q2 := Lib.hid q2
      clear q0 q1 q2
      refine bodyPost_ret (v := .tuple #[.slice none 0 0, .int .i64 1]) (by simp [results, Try.results38, go_sem, p0, p1]) rfl ?_
      exact ⟨none, 0, rfl, World.ownsRow_nil _ _ _ _, Q2.out⟩
    | true =>
      rw [hw] at C2
      cases hn : tnb ts tds with
      | false =>
        obtain rfl : er = 1 := by
          rcases he with ⟨_, h⟩ | ⟨_, _, h, _⟩
          · exact h
          · rw [hn] at h; cases h
        rw [hn] at C3
        clear he hv hw hn
        go_enter Try.func38, Try.ntmps38
        go_wp2_with (first | (go_at_call 28; (with_reducible refine C1.out.mono ?_); rintro e w4 ⟨rfl, hb4⟩; rw [← HW.out] at hb4; have b4 := B3.trans (hb4.mono (by omega)); have k0 : w.heap.size < w.heap.size + 4 := (by omega); have k1 : w.heap.size + 1 < w.heap.size + 4 := (by omega); have k2 : w.heap.size + 2 < w.heap.size + 4 := (by omega); have k3 : w.heap.size + 3 < w.heap.size + 4 := (by omega); replace K0 := Lib.hid (K0.out.below hb4 k0); replace K1 := Lib.hid (K1.out.below hb4 k1); replace K2 := Lib.hid (K2.out.below hb4 k2); replace K3 := Lib.hid (K3.out.below hb4 k3); obtain ⟨c0, c1, c2, _⟩ := blk3 K0.out; obtain ⟨d0, d1, _⟩ := blk2 K1.out; have g0 := K2.out.cell 0; have gf0 := K2.out.frozen 0; have g1 := K3.out.cell 0; have gf1 := K3.out.frozen 0; replace k0 := K0.out.lt; replace k1 := K1.out.lt; replace k2 := K2.out.lt; replace k3 := K3.out.lt; have BL := Lib.hid b4; clear hb4) | (go_at_call 61; (with_reducible refine (C2.out _ b4).mono ?_); rintro e w' ⟨rfl, rfl⟩) | (go_at_call 63; (with_reducible refine (C3.out _ b4).mono ?_); rintro e w5 ⟨rfl, hb5⟩; have b5 := b4.trans (hb5.mono b4.size); replace K0 := Lib.hid (K0.out.below hb5 k0); replace K1 := Lib.hid (K1.out.below hb5 k1); replace K2 := Lib.hid (K2.out.below hb5 k2); replace K3 := Lib.hid (K3.out.below hb5 k3); obtain ⟨c0, c1, c2, _⟩ := blk3 K0.out; obtain ⟨d0, d1, _⟩ := blk2 K1.out; have g0 := K2.out.cell 0; have gf0 := K2.out.frozen 0; have g1 := K3.out.cell 0; have gf1 := K3.out.frozen 0; replace k0 := K0.out.lt; replace k1 := K1.out.lt; replace k2 := K2.out.lt; replace k3 := K3.out.lt; replace BL := Lib.hid b5; clear hb5))
        obtain ⟨q0, q1, q2⟩ := END.out _ BL.out K2.out K3.out 1
        have p0 := q0.cell 0
        have p1 := q1.cell 0
        have Q2 := Lib.hid q2
        clear q0 q1 q2
        refine bodyPost_ret (v := .tuple #[.slice none 0 0, .int .i64 1]) (by simp [results, Try.results38, go_sem, p0, p1]) rfl ?_
        exact ⟨none, 0, rfl, World.ownsRow_nil _ _ _ _, Q2.out⟩
      | true =>
        rw [hn] at C3
        obtain ⟨hne, rfl⟩ : ¬ ts = sh ∧ er = 2 := by
          rcases he with ⟨h, _⟩ | ⟨_, _, _, h⟩
          · rw [hv, hw, hn] at h; cases h
          · exact h
        rw [decide_eq_false hne] at C4
        clear he hv hw hn hne
        go_enter Try.func38, Try.ntmps38
        go_wp2_with (first | (go_at_call 28; (with_reducible refine C1.out.mono ?_); rintro e w4 ⟨rfl, hb4⟩; rw [← HW.out] at hb4; have b4 := B3.trans (hb4.mono (by omega)); have k0 : w.heap.size < w.heap.size + 4 := (by omega); have k1 : w.heap.size + 1 < w.heap.size + 4 := (by omega); have k2 : w.heap.size + 2 < w.heap.size + 4 := (by omega); have k3 : w.heap.size + 3 < w.heap.size + 4 := (by omega); replace K0 := Lib.hid (K0.out.below hb4 k0); replace K1 := Lib.hid (K1.out.below hb4 k1); replace K2 := Lib.hid (K2.out.below hb4 k2); replace K3 := Lib.hid (K3.out.below hb4 k3); obtain ⟨c0, c1, c2, _⟩ := blk3 K0.out; obtain ⟨d0, d1, _⟩ := blk2 K1.out; have g0 := K2.out.cell 0; have gf0 := K2.out.frozen 0; have g1 := K3.out.cell 0; have gf1 := K3.out.frozen 0; replace k0 := K0.out.lt; replace k1 := K1.out.lt; replace k2 := K2.out.lt; replace k3 := K3.out.lt; have BL := Lib.hid b4; clear hb4) | (go_at_call 61; (with_reducible refine (C2.out _ b4).mono ?_); rintro e w' ⟨rfl, rfl⟩) | (go_at_call 63; (with_reducible refine (C3.out _ b4).mono ?_); rintro e w5 ⟨rfl, hb5⟩; have b5 := b4.trans (hb5.mono b4.size); replace K0 := Lib.hid (K0.out.below hb5 k0); replace K1 := Lib.hid (K1.out.below hb5 k1); replace K2 := Lib.hid (K2.out.below hb5 k2); replace K3 := Lib.hid (K3.out.below hb5 k3); obtain ⟨c0, c1, c2, _⟩ := blk3 K0.out; obtain ⟨d0, d1, _⟩ := blk2 K1.out; have g0 := K2.out.cell 0; have gf0 := K2.out.frozen 0; have g1 := K3.out.cell 0; have gf1 := K3.out.frozen 0; replace k0 := K0.out.lt; replace k1 := K1.out.lt; replace k2 := K2.out.lt; replace k3 := K3.out.lt; replace BL := Lib.hid b5; clear hb5) | (go_at_call 54; (with_reducible refine (C4.out _ b5).mono ?_); rintro e w6 ⟨rfl, hb6⟩; have b6 := b5.trans (hb6.mono b5.size); replace K0 := Lib.hid (K0.out.below hb6 k0); replace K1 := Lib.hid (K1.out.below hb6 k1); replace K2 := Lib.hid (K2.out.below hb6 k2); replace K3 := Lib.hid (K3.out.below hb6 k3); obtain ⟨c0, c1, c2, _⟩ := blk3 K0.out; obtain ⟨d0, d1, _⟩ := blk2 K1.out; have g0 := K2.out.cell 0; have gf0 := K2.out.frozen 0; have g1 := K3.out.cell 0; have gf1 := K3.out.frozen 0; replace k0 := K0.out.lt; replace k1 := K1.out.lt; replace k2 := K2.out.lt; replace k3 := K3.out.lt; replace BL := Lib.hid b6; clear hb6))
        obtain ⟨q0, q1, q2⟩ := END.out _ BL.out K2.out K3.out 2
        have p0 := q0.cell 0
        have p1 := q1.cell 0
        have Q2 := Lib.hid q2
        clear q0 q1 q2
        refine bodyPost_ret (v := .tuple #[.slice none 0 0, .int .i64 2]) (by simp [results, Try.results38, go_sem, p0, p1]) rfl ?_
        exact ⟨none, 0, rfl, World.ownsRow_nil _ _ _ _, Q2.out⟩
end Go.Proofs.Ytdcmcfmodbdhaaa
namespace Go.Proofs.Ytdcmcfmodbdhaaa
open Go.RowKit

set_option maxRecDepth 100000 in
set_option maxHeartbeats 4000000 in
theorem wordso_any (base : Nat) (v : Value) (ls : List Int) (w : World) (h : w.ownsRow base 2 1 v ls.length (ints ls)) (hb : base ≤ w.heap.size) (hl : ls.length ≤ 65536) :
    Calls Try.prog 42 #[v] w fun e w' => e = .returned (.tuple #[]) ∧ w.grownBy w' v.ownBlock := by
  obtain ⟨i0, hi0, hz0, hz1, hz2⟩ := info_parts infoW
  obtain ⟨n, hn⟩ : ∃ n, n = ls.length := ⟨_, rfl⟩
  have HLN := Lib.hid hn
  rw [← hn] at h hl
  clear hn
  obtain ⟨o, c, rfl⟩ := own_len h
  have H0 : Hid (w.ownsRow base 2 1 (.slice o n c) n (ints ls)) := h
  have HF := Lib.hid (fun (h0 : 0 < n) => own_some h h0)
  clear h
  go_enter Try.func42, Try.ntmps42
  go_wp2
  go_loopw [2] (fun s2 wr => ∃ (k : Nat) (L : List Int), k ≤ n ∧ s2 = .int .i64 k ∧ Hid (L.length = n) ∧ Hid (wr.ownsRow base 2 1 (.slice o n c) n (ints L)) ∧ Hid (w.grownBy wr (Value.slice o n c).ownBlock)) (fun s2 _ => n - (intOf s2).toNat)
  case atStart => exact ⟨0, ls, Nat.zero_le _, rfl, HLN.out.symm, H0.out, World.grownBy.refl _ _⟩
  case round =>
    obtain ⟨k, L, hk, rfl, HL, HO, HG⟩ := hrel
    by_cases hlt : k < n
    · obtain ⟨g, rfl⟩ := HF.out (by omega)
      have kc : wr.cell? ⟨g, k, none⟩ = some (.int .i64 (L.getD k 0)) := by
        have h1 := HO.out
        rw [← HL.out] at h1
        exact own_cell h1 (by have := HL.out; omega)
      have kf := own_frozen HO.out k
      generalize L.getD k 0 = x at kc
      go_wp2
      refine ⟨⟨k + 1, L.set k (-9999), by omega, by go_num, by have := HL.out; simpa [Hid] using this, own_put2 HO.out HL.out hlt _, grown_put HG.out _⟩, by simp [intOf]; omega⟩
    · go_wp2_with (at_builtin; refine wpList_append_own _ rfl _ _ 26 rfl base 2 i0 (.int .i64 0) 1 8 Try.underlying26 hi0 hz0 hz1 hz2 rfl (by decide) _ n (ints L) rfl (HO.out.alloc _) ⟨wr.heap.size, 0, none⟩ 1 1 [.int .i64 5] rfl rfl ?c1 ?c2 ?c3 ?c4 ?c5 ?_)
      case c1 => exact (cell_one_new _ _ _)
      case c2 => simp [Value.oneCell']
      case c3 => unfold maxLen; omega
      case c4 => omega
      case c5 => have := HG.out.size; simp; omega
      intro v' w9 _ hgrow _
      have h1 := HG.out
      have h2 : w.grownBy w9 (Value.slice o n c).ownBlock := ⟨hgrow.os.trans h1.os, hgrow.tape.trans h1.tape, hgrow.output.trans h1.output, Nat.le_trans h1.size (Nat.le_trans (by simp) hgrow.size), fun j hj hne => (hgrow.block j (by have := h1.size; simp; omega) hne).trans ((Below.heap_alloc _ _ _ (by have := h1.size; omega)).trans (h1.block j hj hne))⟩
      have H2 := Lib.hid h2
      clear h1 h2 hgrow
      go_wp2
      refine bodyPost_end (results_none rfl _ _ _) rfl ?_
      exact ⟨rfl, H2.out⟩

set_option maxRecDepth 100000 in
set_option maxHeartbeats 4000000 in
theorem copywords_any (v : Value) (ls : List Int) (w : World) (h : Ld w v ls) (ll : ls.length ≤ 17592186044000) :
    Calls Try.prog 36 #[v] w (SomeWd w ls) := by
  obtain ⟨i0, hi0, hz0, hz1, hz2⟩ := info_parts infoW
  obtain ⟨o, c, rfl, _, hx⟩ := h
  have HX := Lib.hid hx
  clear hx
  go_enter Try.func36, Try.ntmps36
  go_wp2
  go_loopw [3, 4] (fun s3 s4 wr => ∃ k : Nat, k ≤ ls.length ∧ s4 = .int .i64 k ∧ Hid (wr.ownsRow w.heap.size 2 1 s3 k (ints (ls.take k))) ∧ Below w.heap.size w wr) (fun _ s4 _ => ls.length - (intOf s4).toNat)
  case atStart => exact ⟨0, Nat.zero_le _, rfl, World.ownsRow_nil _ _ _ _, Below.refl _ _⟩
  case round =>
    obtain ⟨k, hk, rfl, HO, hB⟩ := hrel
    have hBs := hB.size
    by_cases hlt : k < ls.length
    · obtain ⟨b, f, rfl, hb, hc⟩ := HX.out k hlt
      have hc' : wr.cell? ⟨b, f + k, none⟩ = some (.int .i64 (ls.getD k 0)) := (hB.cell (p := ⟨b, f + k, none⟩) hb).trans hc
      have E : Hid (ints (ls.take (k + 1)) = ints (ls.take k) ++ [.int .i64 (ls.getD k 0)]) := by
        unfold Hid ints
        rw [List.take_succ_eq_append_getElem hlt, List.map_append]
        simp [List.getD, List.getElem?_eq_getElem hlt]
      clear hc
      generalize ls.getD k 0 = x at *
      go_wp2_with (at_builtin; refine wpList_append_own _ rfl _ _ 26 rfl w.heap.size 2 i0 (.int .i64 0) 1 8 Try.underlying26 hi0 hz0 hz1 hz2 rfl (by decide) _ k (ints (ls.take k)) rfl (HO.out.alloc _) ⟨wr.heap.size, 0, none⟩ 1 1 [.int .i64 x] rfl rfl ?c1 ?c2 ?c3 ?c4 ?c5 ?_)
      case c1 => exact (cell_one_new _ _ _)
      case c2 => simp [Value.oneCell']
      case c3 => unfold maxLen; omega
      case c4 => omega
      case c5 => simp; omega
      intro v' w9 hown1 hgrow _
      have hB9 : Below w.heap.size w w9 := (hB.alloc hBs _).grown hgrow (by simp; omega) (fun j hj => (HO.out.lt j hj).1)
      have h1 : Hid (w9.ownsRow w.heap.size 2 1 v' (k + 1) (ints (ls.take (k + 1)))) := by
        rw [Hid, E.out]; exact hown1
      clear hown1 hgrow
      go_wp2
      exact ⟨⟨k + 1, by omega, by go_num, h1, hB9⟩, by simp [intOf]; omega⟩
    · obtain rfl : k = ls.length := by omega
      have h1 := HO.out
      rw [List.take_length] at h1
      obtain ⟨o2, c2, rfl, hld⟩ := Ld.of_owns h1
      have H1 := Lib.hid (And.intro h1 hld)
      clear h1 hld HO
      go_wp2
      go_ret
      exact ⟨o2, c2, rfl, H1.out.1, H1.out.2, hB⟩

set_option maxRecDepth 100000 in
set_option maxHeartbeats 4000000 in
/-- Place. -/
theorem rplace_any (vs vt vi : Value) (st ix : List Int) (off : Int) (w : World) (ht : Ld w vt st) (hi : Ld w vi ix) (hl : st.length = ix.length) (l4 : st.length ≤ 4) (hst : sts st) (hnn : ∀ x ∈ ix, 0 ≤ x) (h0 : 0 ≤ off) (hT : off + dot st ix ≤ 65536) :
    Calls Try.prog 60 #[.agg #[vs, vt, .int .i64 off], vi] w fun e w' => e = .returned (.int .i64 (off + dot st ix)) ∧ Below w.heap.size w w' := by
  have B0 : Below w.heap.size w (w.alloc (.cells #[vs, vt, .int .i64 off] 25)) := (Below.refl _ _).alloc (Nat.le_refl _) _
  have K0 := Lib.hid (Blk.new w 25 #[vs, vt, .int .i64 off])
  obtain ⟨T, hTe⟩ : ∃ T, T = off + dot st ix := ⟨_, rfl⟩
  have hd0 := dot_nn (st := st) (i := ix) (fun s hs => (hst s hs).1) hnn
  have DS : Hid (Dt st ix T off 0) := ⟨Nat.zero_le _, h0, by simpa using hTe.symm⟩
  have hT2 : 0 ≤ T ∧ T ≤ 65536 := by omega
  have hoff : off ≤ 65536 := by omega
  rw [← hTe]
  have HD := Lib.hid (And.intro hst (And.intro hnn hl))
  have HB := Lib.hid B0
  obtain ⟨o1, c1, rfl, _, hx1⟩ := ht
  obtain ⟨o2, c2, rfl, _, hx2⟩ := hi
  have HX := Lib.hid (And.intro hx1 hx2)
  rw [← hl]
  clear hx1 hx2 hst hnn hd0 hTe hT hl B0
  go_enter Try.func60, Try.ntmps60
  go_wp2
  go_loopw [5, 6] (fun s5 s6 wr => ∃ (k : Nat) (p : Int), k ≤ st.length ∧ 0 ≤ p ∧ p ≤ 65536 ∧ s6 = .int .i64 k ∧ s5 = .int .i64 p ∧ Hid (Dt st ix T p k) ∧ Hid (Below w.heap.size w wr ∧ Blk wr w.heap.size 25 #[vs, .slice o1 st.length c1, .int .i64 off])) (fun _ s6 _ => st.length - (intOf s6).toNat)
  case atStart => exact ⟨0, off, Nat.zero_le _, h0, hoff, rfl, rfl, DS, HB.out, K0.out⟩
  case round =>
    obtain ⟨k, p, hk, p0, p1, rfl, rfl, HK, HW⟩ := hrel
    have hBW : Hid (Below w.heap.size w wr) := HW.out.1
    have KW : Hid (Blk wr w.heap.size 25 #[vs, .slice o1 st.length c1, .int .i64 off]) := HW.out.2
    have hmx : Try.prog.follows .mixedOrders = true := by kernel_rfl
    obtain ⟨_, x1, _⟩ := blk3 KW.out
    by_cases hlt : k < st.length
    · obtain ⟨b1, f1, rfl, hb1, hc1⟩ := HX.out.1 k hlt
      obtain ⟨b2, f2, rfl, hb2, hc2⟩ := HX.out.2 k (by have := HD.out.2.2; omega)
      have y1 := (hBW.out.cell (p := ⟨b1, f1 + k, none⟩) hb1).trans hc1
      have y2 := (hBW.out.cell (p := ⟨b2, f2 + k, none⟩) hb2).trans hc2
      obtain ⟨st1, t0, t1, t2, t3⟩ := dt_step HK.out HD.out.2.2 (fun s hs => (HD.out.1 s hs).1) HD.out.2.1 hlt
      have ST := Lib.hid st1
      clear st1 hc1 hc2
      generalize ix.getD k 0 = y at *
      generalize st.getD k 0 = s at *
      have q1 : y * s ≤ 65536 := by omega
      have q2 : p + y * s ≤ 65536 := by omega
      clear HX HD HK hb1 hb2
      go_wp2
      go_big_quiet_o (fail)
      go_wp2
      refine ⟨⟨k + 1, p + y * s, by omega, t3, q2, by go_num, by go_num, ST, below_drw HW.out.1 _, HW.out.2⟩, by simp [intOf]; omega⟩
    · obtain rfl : k = st.length := by omega
      obtain rfl := dt_end HK.out HD.out.2.2
      clear hlt
      go_wp2
      go_ret
      exact ⟨rfl, hBW.out⟩
end Go.Proofs.Ytdcmcfmodbdhaaa
