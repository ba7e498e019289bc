/-
  package loss: Square and Huber of tensors of one shape.
  Cells of lists, parts of lists, small numbers in a walk.
  What the laws of package loss call: an error's number, whether an ask is heavy, one off squared.
  The list of asks of package loss: two tensors, labels, a word, fraction bits opened to the cells of its elements.
  Words laid where indexes stand; which places are taken; plain mathematics.
  slices.Clone of words.
  The reference's views: which may be, axes, the plain one.
  view.Reshape; the reference's plain view.
  The view laws' own helpers: views held against one another, copied, written over, asked.
  Of the references that the laws of package view call: words copied and spoilt, where an index stands.
  Tensors: alike? spoilt; may they be?
-/
import Derived.Deep.Slices
import Derived.Deep.Fields
import Derived.ProofKit
import Derived.Carry
import Derived.SizedLaws
import Derived.Deep.QuietTactic
import Derived.BigQuiet
import Derived.Deep.DeepBigQuietO
import Derived.Test.YtocoedpmcognpaaM01
import Derived.Test.YtocoedpmcognpaaM04
import Derived.Test.YtocoedpmcognpaaM05
namespace Go.Proofs.Ytocoedpmcognpaa
open Go Go.RowKit Go.Shelf
attribute [local go_sem] Oper.semAt_some

theorem pow_f {f : Nat} (h : fb (f : Int) = true) : (256 : Int) ≤ 2 ^ f ∧ (2 : Int) ^ f ≤ 4294967296 := by
  have hf : 8 ≤ f ∧ f ≤ 32 := by simp only [fb, decide_eq_true_eq] at h; omega
  have a := Nat.pow_le_pow_right (show 0 < 2 by decide) hf.1
  have b := Nat.pow_le_pow_right (show 0 < 2 by decide) hf.2
  have e : ((2 ^ f : Nat) : Int) = 2 ^ f := by push_cast; rfl
  have e2 : (2 : Nat) ^ 32 = 4294967296 := by decide
  have e3 : (2 : Nat) ^ 8 = 256 := by decide
  omega
set_option maxRecDepth 100000 in
set_option maxHeartbeats 4000000 in
theorem lsquare_any (va vd vb ve : Value) (sa da db : List Int) (f : Nat) (w : World) (ha : Ld w va sa) (hd : Ld w vd da) (hb : Ld w vb sa) (he : Ld w ve db) (ta : tnb sa da = true) (tb : tnb sa db = true) (hf : fb (f : Int) = true) :
    Calls Try.prog 8 #[.agg #[va, vd], .agg #[vb, ve], .int .i64 f] w (LsT w (rd (lsp hsq da db da.length) (2 ^ f * da.length))) := by
  obtain ⟨ma, la, wa⟩ := tnb_parts ta
  obtain ⟨_, lb, wb⟩ := tnb_parts tb
  have hp := may_prod ma
  have l4 := may_len ma
  obtain ⟨p0, p1⟩ := pow_f hf
  have e0 : IntKind.i64.wrap (2 ^ min f 64) = (2 : Int) ^ f := by
    rw [show min f 64 = f by have := fb_bd hf; omega]
    exact IntWalk.i64_in _ (by omega)
  have KAP : Hid (∀ W, Below w.heap.size w W → Calls Try.prog 17 #[.agg #[va, vd], .agg #[vb, ve], .int .i64 f] W fun e w' => e = .returned (.bool true) ∧ Below W.heap.size W w') := Lib.hid (fun W hW => by
    have q := arepair_any va vd vb ve sa da sa db f W (ha.below hW) (hd.below hW) (hb.below hW) (he.below hW) (by omega) (by omega) (by omega) (by omega)
    rw [ta, tb, hf] at q
    exact q)
  have KMN0 := Lib.hid (fun (W : World) (hW : Below w.heap.size w W) => lmeanS_any va vd vb ve sa da db (2 ^ f) W (ha.below hW) (hd.below hW) (hb.below hW) (he.below hW) (by omega) (by omega) (by omega) (by omega) wa wb (by omega) (by omega))
  clear p0 p1
  obtain ⟨oa, ca, rfl, _, _⟩ := id ha
  obtain ⟨od, cd, rfl, _, _⟩ := id hd
  obtain ⟨ob, cb, rfl, _, _⟩ := id hb
  obtain ⟨oe, ce, rfl, _, _⟩ := id he
  have E01 := Lib.hid e0
  obtain ⟨V, hV⟩ : ∃ V, V = rd (lsp hsq da db da.length) (2 ^ f * da.length) := ⟨_, rfl⟩
  rw [← hV] at KMN0 ⊢
  clear hV ma la wa lb wb hp l4 e0 ta tb hf
  obtain ⟨w2, hw2⟩ : ∃ v, v = ((w.alloc (.cells #[.slice oa sa.length ca, .slice od da.length cd] 26)).alloc (.cells #[.slice ob sa.length cb, .slice oe db.length ce] 26)).alloc (.cells #[.slice none 0 0, .slice none 0 0] 26) := ⟨_, rfl⟩
  have B2 : Hid (Below w.heap.size w w2) := Lib.hid (by rw [hw2]; exact (((Below.refl _ _).alloc (Nat.le_refl _) _).alloc (by simp) _).alloc (by simp; omega) _)
  have K0 : Hid (Blk w2 w.heap.size 26 #[.slice oa sa.length ca, .slice od da.length cd]) := Lib.hid (by rw [hw2]; exact ((Blk.new w _ _).alloc _).alloc _)
  have K1 : Hid (Blk w2 (w.heap.size + 1) 26 #[.slice ob sa.length cb, .slice oe db.length ce]) := Lib.hid (by rw [hw2]; exact (blk_new1 w _ _ _).alloc _)
  have K2 : Hid (Blk w2 (w.heap.size + 2) 26 #[.slice none 0 0, .slice none 0 0]) := Lib.hid (by
    rw [hw2]
    have q := Blk.new ((w.alloc (.cells #[.slice oa sa.length ca, .slice od da.length cd] 26)).alloc (.cells #[.slice ob sa.length cb, .slice oe db.length ce] 26)) 26 #[.slice none 0 0, .slice none 0 0]
    rwa [World.size_alloc, World.size_alloc] at q)
  have HSZ : Hid (w2.heap.size = w.heap.size + 3) := Lib.hid (by rw [hw2]; simp)
  have HW := Lib.hid hw2
  clear hw2 ha hd hb he
  go_enter Try.func8, Try.ntmps8
  go_upto_region 1 with fail
  rw [← HW.out]
  clear HW
  obtain ⟨x0, x1, _⟩ := blkz K0.out
  obtain ⟨y0, y1, _⟩ := blkz K1.out
  go_upto_region 3 with (go_at_call 17; (with_reducible refine (KAP.out _ B2.out).mono ?_); rintro e w3 ⟨rfl, hb⟩; have B3 := Lib.hid hb; clear hb)
  clear x0 x1 y0 y1
  have K03 := Lib.hid (K0.out.below B3.out K0.out.lt)
  have K13 := Lib.hid (K1.out.below B3.out K1.out.lt)
  have BB3 := Lib.hid (B2.out.trans (B3.out.mono B2.out.size))
  have HSZ9 : Hid (w.heap.size + 2 < w3.heap.size) := Lib.hid (by have := HSZ.out; have := B3.out.size; omega)
  have KS : Hid (∀ W, Below w3.heap.size w3 W → W.cell? ⟨w.heap.size, 0, none⟩ = some (.slice oa sa.length ca) ∧ W.cell? ⟨w.heap.size, 1, none⟩ = some (.slice od da.length cd) ∧ W.cell? ⟨w.heap.size + 1, 0, none⟩ = some (.slice ob sa.length cb) ∧ W.cell? ⟨w.heap.size + 1, 1, none⟩ = some (.slice oe db.length ce)) := Lib.hid (fun W hW => by
    have q := K03.out.below hW K03.out.lt
    have r := K13.out.below hW K13.out.lt
    exact ⟨q.cell 0, q.cell 1, r.cell 0, r.cell 1⟩)
  have KSz : Hid (∀ (W : World) (x y : Value), Below w3.heap.size w3 W → ((W.setCell ⟨w.heap.size + 2, 0, none⟩ x).setCell ⟨w.heap.size + 2, 1, none⟩ y).cell? ⟨w.heap.size, 0, none⟩ = some (.slice oa sa.length ca) ∧ ((W.setCell ⟨w.heap.size + 2, 0, none⟩ x).setCell ⟨w.heap.size + 2, 1, none⟩ y).cell? ⟨w.heap.size, 1, none⟩ = some (.slice od da.length cd) ∧ ((W.setCell ⟨w.heap.size + 2, 0, none⟩ x).setCell ⟨w.heap.size + 2, 1, none⟩ y).cell? ⟨w.heap.size + 1, 0, none⟩ = some (.slice ob sa.length cb) ∧ ((W.setCell ⟨w.heap.size + 2, 0, none⟩ x).setCell ⟨w.heap.size + 2, 1, none⟩ y).cell? ⟨w.heap.size + 1, 1, none⟩ = some (.slice oe db.length ce)) := Lib.hid (fun W x y hW => by
    have q := ((K03.out.below hW K03.out.lt).far (p := ⟨w.heap.size + 2, 0, none⟩) (show ¬ w.heap.size = w.heap.size + 2 by omega) x).far (p := ⟨w.heap.size + 2, 1, none⟩) (show ¬ w.heap.size = w.heap.size + 2 by omega) y
    have r := ((K13.out.below hW K13.out.lt).far (p := ⟨w.heap.size + 2, 0, none⟩) (show ¬ w.heap.size + 1 = w.heap.size + 2 by omega) x).far (p := ⟨w.heap.size + 2, 1, none⟩) (show ¬ w.heap.size + 1 = w.heap.size + 2 by omega) y
    exact ⟨q.cell 0, q.cell 1, r.cell 0, r.cell 1⟩)
  have KR := Lib.hid (fun (W : World) (hW : Below w3.heap.size w3 W) => (K2.out.below B3.out K2.out.lt).below hW (K2.out.below B3.out K2.out.lt).lt)
  have KMN := Lib.hid (fun (W : World) (hW : Below w3.heap.size w3 W) => KMN0.out W (BB3.out.trans (hW.mono BB3.out.size)))
  have BF0 : Hid (∀ W, Below w.heap.size w3 W → Below w.heap.size w W) := Lib.hid (fun W hW => BB3.out.trans hW)
  have BFm : Hid (∀ W, Below w3.heap.size w3 W → Below w.heap.size w3 W) := Lib.hid (fun W hW => hW.mono (Nat.le_of_lt (Nat.lt_of_le_of_lt (Nat.le_add_right _ 2) HSZ9.out)))
  go_upto_region 3 with fail
  have e0 := E01.out
  have B_0 : Hid (Below w3.heap.size w3 w3.drew) := Lib.hid (below_drw (Below.refl _ _) 1)
  refine wp_region_held_drew (S := fun W => W.cell? ⟨w.heap.size, 0, none⟩ = some (.slice oa sa.length ca) ∧ W.cell? ⟨w.heap.size, 1, none⟩ = some (.slice od da.length cd) ∧ W.cell? ⟨w.heap.size + 1, 0, none⟩ = some (.slice ob sa.length cb) ∧ W.cell? ⟨w.heap.size + 1, 1, none⟩ = some (.slice oe db.length ce)) (by kernel_rfl) ?_ (fun hHeld => ?_)
  · exact KS.out _ B_0.out
  have hHd := hHeld
  generalize w3.drew = w_0 at *
  (refine wpAnyH_take (i := 0) (oi := ⟨some 14, _, _, _, _, _⟩) (v := ?v0_zS1) rfl (by kernel_rfl) (by kernel_rfl) (by kernel_rfl) (fun _ _ _ h => h) (Or.inl ⟨by rfl, ?hy0_zS1⟩) (by assumption) ?rest0_zS1; (case hy0_zS1 => ((intro w hSw); (try dsimp only at hSw); go_simp; first | done | (with_reducible rfl))))
  (try simp only [Act.put, List.setIfInBounds_toArray, List.set_cons_zero, List.set_cons_succ])
  (refine wpAnyH_take (i := 1) (oi := ⟨some 15, _, _, _, _, _⟩) (v := ?v1_zS2) rfl (by kernel_rfl) (by kernel_rfl) (by kernel_rfl) (fun _ _ _ h => h) (Or.inl ⟨by rfl, ?hy1_zS2⟩) (by assumption) ?rest1_zS2; (case hy1_zS2 => ((intro w hSw); (try dsimp only at hSw); go_simp; first | done | (with_reducible rfl))))
  (try simp only [Act.put, List.setIfInBounds_toArray, List.set_cons_zero, List.set_cons_succ])
  (refine wpAnyH_take (i := 2) (oi := ⟨some 16, _, _, _, _, _⟩) (v := ?v2_zS3) rfl (by kernel_rfl) (by kernel_rfl) (by kernel_rfl) (fun _ _ _ h => h) (Or.inl ⟨by rfl, ?hy2_zS3⟩) (by assumption) ?rest2_zS3; (case hy2_zS3 => ((intro w hSw); (try dsimp only at hSw); go_simp; first | done | (with_reducible rfl))))
  (try simp only [Act.put, List.setIfInBounds_toArray, List.set_cons_zero, List.set_cons_succ])
  (refine wpAnyH_take (i := 3) (oi := ⟨some 17, _, _, _, _, _⟩) (v := ?v3_zS4) rfl (by kernel_rfl) (by kernel_rfl) (by kernel_rfl) (fun _ _ _ h => h) (Or.inl ⟨by rfl, ?hy3_zS4⟩) (by assumption) ?rest3_zS4; (case hy3_zS4 => ((intro w hSw); (try dsimp only at hSw); go_simp; first | done | (with_reducible rfl))))
  (try simp only [Act.put, List.setIfInBounds_toArray, List.set_cons_zero, List.set_cons_succ])
  refine wpAnyH_ready (rs := [4]) (by kernel_rfl) (by simp) ?_
  refine AllReadyH.cons (o := ⟨some 18, _, _, _, _, _⟩) rfl (fun K hK => ?_) (AllReadyH.nil)
  go_simp
  (go_at_call 18; (with_reducible refine (KMN.out _ B_0.out).mono ?_); rintro e w_1 ⟨o, n, c, E, rfl, hL, hb⟩; have B_1 := Lib.hid (B_0.out.trans (hb.mono B_0.out.size)); have L_1 := Lib.hid (hL.low B_0.out.size); clear hb hL)
  refine hK.out _ _ ?_ (fun hHeld => ?_)
  · (try dsimp only)
    exact KS.out _ B_1.out
  clear hK K
  (try simp only [Act.put, List.setIfInBounds_toArray, List.set_cons_zero, List.set_cons_succ])
  (refine wpAnyH_take (i := 5) (oi := ⟨some 19, _, _, _, _, _⟩) (v := ?v5_zS5) rfl (by kernel_rfl) (by kernel_rfl) (by kernel_rfl) (fun _ _ _ h => h) (Or.inl ⟨by rfl, ?hy5_zS5⟩) (by assumption) ?rest5_zS5; (case hy5_zS5 => ((intro w hSw); (try dsimp only at hSw); go_simp; first | done | (with_reducible rfl))))
  (try simp only [Act.put, List.setIfInBounds_toArray, List.set_cons_zero, List.set_cons_succ])
  (refine wpAnyH_take (i := 6) (oi := ⟨some 20, _, _, _, _, _⟩) (v := ?v6_zS6) rfl (by kernel_rfl) (by kernel_rfl) (by kernel_rfl) (fun _ _ _ h => h) (Or.inl ⟨by rfl, ?hy6_zS6⟩) (by assumption) ?rest6_zS6; (case hy6_zS6 => ((intro w hSw); (try dsimp only at hSw); go_simp; first | done | (with_reducible rfl))))
  (try simp only [Act.put, List.setIfInBounds_toArray, List.set_cons_zero, List.set_cons_succ])
  refine wpAnyH_ready (rs := [7]) (by kernel_rfl) (by simp) ?_
  refine AllReadyH.cons (o := ⟨none, _, _, _, _, _⟩) rfl (fun K hK => ?_) (AllReadyH.nil)
  (try clear p0 p1 pf0 pf1)
  have Z9 := Lib.hid (KR.out _ B_1.out)
  obtain ⟨p0, p1, pf0, pf1⟩ := blkz Z9.out
  have Z1 := Lib.hid (Z9.out.set_ 0 (.slice none 0 0))
  have ZF := Lib.hid (Z1.out.set_ 1 (.slice o n c))
  have BF := Lib.hid (((BFm.out _ B_1.out).setCell (p := ⟨w.heap.size + 2, 0, none⟩) (Nat.le_add_right _ _) (.slice none 0 0)).setCell (p := ⟨w.heap.size + 2, 1, none⟩) (Nat.le_add_right _ _) (.slice o n c))
  have LF := Lib.hid ((LsV.put (L_1.out) HSZ9.out (.slice none 0 0) (.slice o n c)).low (Nat.le_of_lt (Nat.lt_of_le_of_lt (Nat.le_add_right _ 2) HSZ9.out)))
  have QF := Lib.hid (KSz.out _ (.slice none 0 0) (.slice o n c) B_1.out)
  go_simp
  refine hK.out _ _ ?_ (fun hHeld => ?_)
  · (try dsimp only)
    exact QF.out
  clear hK K
  (try simp only [Act.put, List.setIfInBounds_toArray, List.set_cons_zero, List.set_cons_succ])
  (refine wpAnyH_take (i := 8) (oi := ⟨some 7, _, _, _, _, _⟩) (v := ?v8_zS7) rfl (by kernel_rfl) (by kernel_rfl) (by kernel_rfl) (fun _ _ _ h => h) (Or.inl ⟨by rfl, ?hy8_zS7⟩) (by assumption) ?rest8_zS7; (case hy8_zS7 => ((intro w hSw); (try dsimp only at hSw); go_simp; first | done | (with_reducible rfl))))
  (try simp only [Act.put, List.setIfInBounds_toArray, List.set_cons_zero, List.set_cons_succ])
  refine wpAnyH_done (by kernel_rfl) ?_ _
  (try clear p0 p1 pf0 pf1)
  obtain ⟨vf, hvf⟩ : ∃ v, v = (w_1.setCell ⟨w.heap.size + 2, 0, none⟩ (.slice none 0 0)).setCell ⟨w.heap.size + 2, 1, none⟩ (.slice o n c) := ⟨_, rfl⟩
  rw [← hvf] at ZF BF LF ⊢
  clear hvf
  obtain ⟨z0, z1, _⟩ := blkz ZF.out
  clear e0
  go_wp2
  refine bodyPost_ret (v := .tuple #[.agg #[.slice none 0 0, .slice o n c], .int .i64 E]) (by simp [results, Try.results8, go_sem, z0, z1]) rfl ?_
  exact ⟨o, n, c, E, rfl, LF.out, BF0.out vf BF.out⟩
set_option maxRecDepth 100000 in
set_option maxHeartbeats 4000000 in
theorem lhuber_any (va vd vb ve : Value) (sa da db : List Int) (d : Int) (f : Nat) (w : World) (ha : Ld w va sa) (hd : Ld w vd da) (hb : Ld w vb sa) (he : Ld w ve db) (ta : tnb sa da = true) (tb : tnb sa db = true) (hf : fb (f : Int) = true) (hw : wd d = true) (hd0 : 0 < d) :
    Calls Try.prog 9 #[.agg #[va, vd], .agg #[vb, ve], .int .i64 d, .int .i64 f] w (LsT w (rd (lsp (hhu d) da db da.length) ((2 * 2 ^ f) * da.length))) := by
  obtain ⟨ma, la, wa⟩ := tnb_parts ta
  obtain ⟨_, lb, wb⟩ := tnb_parts tb
  have hp := may_prod ma
  have l4 := may_len ma
  obtain ⟨p0, p1⟩ := pow_f hf
  have e0 : IntKind.i64.wrap (2 * 2 ^ min f 64) = 2 * (2 : Int) ^ f := by
    rw [show min f 64 = f by have := fb_bd hf; omega]
    exact IntWalk.i64_in _ (by omega)
  have KAP : Hid (∀ W, Below w.heap.size w W → Calls Try.prog 17 #[.agg #[va, vd], .agg #[vb, ve], .int .i64 f] W fun e w' => e = .returned (.bool true) ∧ Below W.heap.size W w') := Lib.hid (fun W hW => by
    have q := arepair_any va vd vb ve sa da sa db f W (ha.below hW) (hd.below hW) (hb.below hW) (he.below hW) (by omega) (by omega) (by omega) (by omega)
    rw [ta, tb, hf] at q
    exact q)
  have KCD : Hid (∀ W : World, Calls Try.prog 21 #[.int .i64 d] W fun e w' => e = .returned (.int .i64 0) ∧ W = w') := Lib.hid (fun W => by
    have q := check_any d W
    rwa [if_pos hw] at q)
  have hdm : d ≤ 281474976710654 := by have q := hw; unfold wd at q; simp at q; omega
  have KMN0 := Lib.hid (fun (W : World) (hW : Below w.heap.size w W) (C : Nat) (hC : Blk W C 2 #[.int .i64 d]) => lmeanH_any va vd vb ve sa da db (2 * 2 ^ f) C d W (ha.below hW) (hd.below hW) (hb.below hW) (he.below hW) (by omega) (by omega) (by omega) (by omega) wa wb (by omega) (by omega) hC hd0 hdm)
  clear hw hdm
  clear p0 p1
  obtain ⟨oa, ca, rfl, _, _⟩ := id ha
  obtain ⟨od, cd, rfl, _, _⟩ := id hd
  obtain ⟨ob, cb, rfl, _, _⟩ := id hb
  obtain ⟨oe, ce, rfl, _, _⟩ := id he
  have E01 := Lib.hid e0
  obtain ⟨V, hV⟩ : ∃ V, V = rd (lsp (hhu d) da db da.length) ((2 * 2 ^ f) * da.length) := ⟨_, rfl⟩
  rw [← hV] at KMN0 ⊢
  clear hV ma la wa lb wb hp l4 e0 ta tb hf
  obtain ⟨w2, hw2⟩ : ∃ v, v = (((w.alloc (.cells #[.slice oa sa.length ca, .slice od da.length cd] 26)).alloc (.cells #[.slice ob sa.length cb, .slice oe db.length ce] 26)).alloc (.cells #[.int .i64 d] 2)).alloc (.cells #[.slice none 0 0, .slice none 0 0] 26) := ⟨_, rfl⟩
  have B2 : Hid (Below w.heap.size w w2) := Lib.hid (by rw [hw2]; exact ((((Below.refl _ _).alloc (Nat.le_refl _) _).alloc (by simp) _).alloc (by simp; omega) _).alloc (by simp; omega) _)
  have K0 : Hid (Blk w2 w.heap.size 26 #[.slice oa sa.length ca, .slice od da.length cd]) := Lib.hid (by rw [hw2]; exact (((Blk.new w _ _).alloc _).alloc _).alloc _)
  have K1 : Hid (Blk w2 (w.heap.size + 1) 26 #[.slice ob sa.length cb, .slice oe db.length ce]) := Lib.hid (by rw [hw2]; exact ((blk_new1 w _ _ _).alloc _).alloc _)
  have KD : Hid (Blk w2 (w.heap.size + 2) 2 #[.int .i64 d]) := Lib.hid (by
    rw [hw2]
    have q := Blk.new ((w.alloc (.cells #[.slice oa sa.length ca, .slice od da.length cd] 26)).alloc (.cells #[.slice ob sa.length cb, .slice oe db.length ce] 26)) 2 #[.int .i64 d]
    rw [World.size_alloc, World.size_alloc] at q
    exact q.alloc _)
  have K2 : Hid (Blk w2 (w.heap.size + 3) 26 #[.slice none 0 0, .slice none 0 0]) := Lib.hid (by
    rw [hw2]
    have q := Blk.new (((w.alloc (.cells #[.slice oa sa.length ca, .slice od da.length cd] 26)).alloc (.cells #[.slice ob sa.length cb, .slice oe db.length ce] 26)).alloc (.cells #[.int .i64 d] 2)) 26 #[.slice none 0 0, .slice none 0 0]
    rwa [World.size_alloc, World.size_alloc, World.size_alloc] at q)
  have HSZ : Hid (w2.heap.size = w.heap.size + 4) := Lib.hid (by rw [hw2]; simp)
  have HW := Lib.hid hw2
  clear hw2 ha hd hb he
  go_enter Try.func9, Try.ntmps9
  go_upto_region 1 with fail
  rw [← HW.out]
  clear HW
  obtain ⟨x0, x1, _⟩ := blkz K0.out
  obtain ⟨y0, y1, _⟩ := blkz K1.out
  have c0 := KD.out.cell 0
  go_upto_region 3 with (first | (go_at_call 17; (with_reducible refine (KAP.out _ B2.out).mono ?_); rintro e w3 ⟨rfl, hb⟩; have B3 := Lib.hid hb; have d0 := (KD.out.below hb KD.out.lt).cell 0; clear hb) | (go_at_call 21; (with_reducible refine (KCD.out _).mono ?_); rintro e w' ⟨rfl, rfl⟩))
  clear c0 d0 hd0
  clear x0 x1 y0 y1
  have K03 := Lib.hid (K0.out.below B3.out K0.out.lt)
  have K13 := Lib.hid (K1.out.below B3.out K1.out.lt)
  have BB3 := Lib.hid (B2.out.trans (B3.out.mono B2.out.size))
  have HSZ9 : Hid (w.heap.size + 3 < w3.heap.size) := Lib.hid (by have := HSZ.out; have := B3.out.size; omega)
  have KS : Hid (∀ W, Below w3.heap.size w3 W → W.cell? ⟨w.heap.size, 0, none⟩ = some (.slice oa sa.length ca) ∧ W.cell? ⟨w.heap.size, 1, none⟩ = some (.slice od da.length cd) ∧ W.cell? ⟨w.heap.size + 1, 0, none⟩ = some (.slice ob sa.length cb) ∧ W.cell? ⟨w.heap.size + 1, 1, none⟩ = some (.slice oe db.length ce)) := Lib.hid (fun W hW => by
    have q := K03.out.below hW K03.out.lt
    have r := K13.out.below hW K13.out.lt
    exact ⟨q.cell 0, q.cell 1, r.cell 0, r.cell 1⟩)
  have KSz : Hid (∀ (W : World) (x y : Value), Below w3.heap.size w3 W → ((W.setCell ⟨w.heap.size + 3, 0, none⟩ x).setCell ⟨w.heap.size + 3, 1, none⟩ y).cell? ⟨w.heap.size, 0, none⟩ = some (.slice oa sa.length ca) ∧ ((W.setCell ⟨w.heap.size + 3, 0, none⟩ x).setCell ⟨w.heap.size + 3, 1, none⟩ y).cell? ⟨w.heap.size, 1, none⟩ = some (.slice od da.length cd) ∧ ((W.setCell ⟨w.heap.size + 3, 0, none⟩ x).setCell ⟨w.heap.size + 3, 1, none⟩ y).cell? ⟨w.heap.size + 1, 0, none⟩ = some (.slice ob sa.length cb) ∧ ((W.setCell ⟨w.heap.size + 3, 0, none⟩ x).setCell ⟨w.heap.size + 3, 1, none⟩ y).cell? ⟨w.heap.size + 1, 1, none⟩ = some (.slice oe db.length ce)) := Lib.hid (fun W x y hW => by
    have q := ((K03.out.below hW K03.out.lt).far (p := ⟨w.heap.size + 3, 0, none⟩) (show ¬ w.heap.size = w.heap.size + 3 by omega) x).far (p := ⟨w.heap.size + 3, 1, none⟩) (show ¬ w.heap.size = w.heap.size + 3 by omega) y
    have r := ((K13.out.below hW K13.out.lt).far (p := ⟨w.heap.size + 3, 0, none⟩) (show ¬ w.heap.size + 1 = w.heap.size + 3 by omega) x).far (p := ⟨w.heap.size + 3, 1, none⟩) (show ¬ w.heap.size + 1 = w.heap.size + 3 by omega) y
    exact ⟨q.cell 0, q.cell 1, r.cell 0, r.cell 1⟩)
  have KR := Lib.hid (fun (W : World) (hW : Below w3.heap.size w3 W) => (K2.out.below B3.out K2.out.lt).below hW (K2.out.below B3.out K2.out.lt).lt)
  have KMN := Lib.hid (fun (W : World) (hW : Below w3.heap.size w3 W) => KMN0.out W (BB3.out.trans (hW.mono BB3.out.size)) (w.heap.size + 2) ((KD.out.below B3.out KD.out.lt).below hW (KD.out.below B3.out KD.out.lt).lt))
  have BF0 : Hid (∀ W, Below w.heap.size w3 W → Below w.heap.size w W) := Lib.hid (fun W hW => BB3.out.trans hW)
  have BFm : Hid (∀ W, Below w3.heap.size w3 W → Below w.heap.size w3 W) := Lib.hid (fun W hW => hW.mono (Nat.le_of_lt (Nat.lt_of_le_of_lt (Nat.le_add_right _ 3) HSZ9.out)))
  go_upto_region 3 with fail
  have e0 := E01.out
  have B_0 : Hid (Below w3.heap.size w3 w3.drew) := Lib.hid (below_drw (Below.refl _ _) 1)
  refine wp_region_held_drew (S := fun W => W.cell? ⟨w.heap.size, 0, none⟩ = some (.slice oa sa.length ca) ∧ W.cell? ⟨w.heap.size, 1, none⟩ = some (.slice od da.length cd) ∧ W.cell? ⟨w.heap.size + 1, 0, none⟩ = some (.slice ob sa.length cb) ∧ W.cell? ⟨w.heap.size + 1, 1, none⟩ = some (.slice oe db.length ce)) (by kernel_rfl) ?_ (fun hHeld => ?_)
  · exact KS.out _ B_0.out
  have hHd := hHeld
  generalize w3.drew = w_0 at *
  (refine wpAnyH_take (i := 0) (oi := ⟨some 25, _, _, _, _, _⟩) (v := ?v0_zH1) rfl (by kernel_rfl) (by kernel_rfl) (by kernel_rfl) (fun _ _ _ h => h) (Or.inl ⟨by rfl, ?hy0_zH1⟩) (by assumption) ?rest0_zH1; (case hy0_zH1 => ((intro w hSw); (try dsimp only at hSw); go_simp; first | done | (with_reducible rfl))))
  (try simp only [Act.put, List.setIfInBounds_toArray, List.set_cons_zero, List.set_cons_succ])
  (refine wpAnyH_take (i := 1) (oi := ⟨some 26, _, _, _, _, _⟩) (v := ?v1_zH2) rfl (by kernel_rfl) (by kernel_rfl) (by kernel_rfl) (fun _ _ _ h => h) (Or.inl ⟨by rfl, ?hy1_zH2⟩) (by assumption) ?rest1_zH2; (case hy1_zH2 => ((intro w hSw); (try dsimp only at hSw); go_simp; first | done | (with_reducible rfl))))
  (try simp only [Act.put, List.setIfInBounds_toArray, List.set_cons_zero, List.set_cons_succ])
  (refine wpAnyH_take (i := 2) (oi := ⟨some 27, _, _, _, _, _⟩) (v := ?v2_zH3) rfl (by kernel_rfl) (by kernel_rfl) (by kernel_rfl) (fun _ _ _ h => h) (Or.inl ⟨by rfl, ?hy2_zH3⟩) (by assumption) ?rest2_zH3; (case hy2_zH3 => ((intro w hSw); (try dsimp only at hSw); go_simp; first | done | (with_reducible rfl))))
  (try simp only [Act.put, List.setIfInBounds_toArray, List.set_cons_zero, List.set_cons_succ])
  (refine wpAnyH_take (i := 3) (oi := ⟨some 28, _, _, _, _, _⟩) (v := ?v3_zH4) rfl (by kernel_rfl) (by kernel_rfl) (by kernel_rfl) (fun _ _ _ h => h) (Or.inl ⟨by rfl, ?hy3_zH4⟩) (by assumption) ?rest3_zH4; (case hy3_zH4 => ((intro w hSw); (try dsimp only at hSw); go_simp; first | done | (with_reducible rfl))))
  (try simp only [Act.put, List.setIfInBounds_toArray, List.set_cons_zero, List.set_cons_succ])
  (refine wpAnyH_take (i := 4) (oi := ⟨some 29, _, _, _, _, _⟩) (v := .func (.func 22) #[] #[.pointer (some ⟨w.heap.size + 2, 0, none⟩)]) rfl (by kernel_rfl) (by kernel_rfl) (by kernel_rfl) (fun _ _ _ h => h) (Or.inl ⟨by rfl, ?hy4_zH5⟩) (by assumption) ?rest4_zH5; (case hy4_zH5 => ((intro w hSw); (try dsimp only at hSw); go_simp; first | done | (with_reducible rfl))))
  (try simp only [Act.put, List.setIfInBounds_toArray, List.set_cons_zero, List.set_cons_succ])
  refine wpAnyH_ready (rs := [5]) (by kernel_rfl) (by simp) ?_
  refine AllReadyH.cons (o := ⟨some 30, _, _, _, _, _⟩) rfl (fun K hK => ?_) (AllReadyH.nil)
  go_simp
  (go_at_call 18; (with_reducible refine (KMN.out _ B_0.out).mono ?_); rintro e w_1 ⟨o, n, c, E, rfl, hL, hb⟩; have B_1 := Lib.hid (B_0.out.trans (hb.mono B_0.out.size)); have L_1 := Lib.hid (hL.low B_0.out.size); clear hb hL)
  refine hK.out _ _ ?_ (fun hHeld => ?_)
  · (try dsimp only)
    exact KS.out _ B_1.out
  clear hK K
  (try simp only [Act.put, List.setIfInBounds_toArray, List.set_cons_zero, List.set_cons_succ])
  (refine wpAnyH_take (i := 6) (oi := ⟨some 31, _, _, _, _, _⟩) (v := ?v6_zH6) rfl (by kernel_rfl) (by kernel_rfl) (by kernel_rfl) (fun _ _ _ h => h) (Or.inl ⟨by rfl, ?hy6_zH6⟩) (by assumption) ?rest6_zH6; (case hy6_zH6 => ((intro w hSw); (try dsimp only at hSw); go_simp; first | done | (with_reducible rfl))))
  (try simp only [Act.put, List.setIfInBounds_toArray, List.set_cons_zero, List.set_cons_succ])
  (refine wpAnyH_take (i := 7) (oi := ⟨some 32, _, _, _, _, _⟩) (v := ?v7_zH7) rfl (by kernel_rfl) (by kernel_rfl) (by kernel_rfl) (fun _ _ _ h => h) (Or.inl ⟨by rfl, ?hy7_zH7⟩) (by assumption) ?rest7_zH7; (case hy7_zH7 => ((intro w hSw); (try dsimp only at hSw); go_simp; first | done | (with_reducible rfl))))
  (try simp only [Act.put, List.setIfInBounds_toArray, List.set_cons_zero, List.set_cons_succ])
  refine wpAnyH_ready (rs := [8]) (by kernel_rfl) (by simp) ?_
  refine AllReadyH.cons (o := ⟨none, _, _, _, _, _⟩) rfl (fun K hK => ?_) (AllReadyH.nil)
  (try clear p0 p1 pf0 pf1)
  have Z9 := Lib.hid (KR.out _ B_1.out)
  obtain ⟨p0, p1, pf0, pf1⟩ := blkz Z9.out
  have Z1 := Lib.hid (Z9.out.set_ 0 (.slice none 0 0))
  have ZF := Lib.hid (Z1.out.set_ 1 (.slice o n c))
  have BF := Lib.hid (((BFm.out _ B_1.out).setCell (p := ⟨w.heap.size + 3, 0, none⟩) (Nat.le_add_right _ _) (.slice none 0 0)).setCell (p := ⟨w.heap.size + 3, 1, none⟩) (Nat.le_add_right _ _) (.slice o n c))
  have LF := Lib.hid ((LsV.put (L_1.out) HSZ9.out (.slice none 0 0) (.slice o n c)).low (Nat.le_of_lt (Nat.lt_of_le_of_lt (Nat.le_add_right _ 3) HSZ9.out)))
  have QF := Lib.hid (KSz.out _ (.slice none 0 0) (.slice o n c) B_1.out)
  go_simp
  refine hK.out _ _ ?_ (fun hHeld => ?_)
  · (try dsimp only)
    exact QF.out
  clear hK K
  (try simp only [Act.put, List.setIfInBounds_toArray, List.set_cons_zero, List.set_cons_succ])
  (refine wpAnyH_take (i := 9) (oi := ⟨some 9, _, _, _, _, _⟩) (v := ?v9_zH8) rfl (by kernel_rfl) (by kernel_rfl) (by kernel_rfl) (fun _ _ _ h => h) (Or.inl ⟨by rfl, ?hy9_zH8⟩) (by assumption) ?rest9_zH8; (case hy9_zH8 => ((intro w hSw); (try dsimp only at hSw); go_simp; first | done | (with_reducible rfl))))
  (try simp only [Act.put, List.setIfInBounds_toArray, List.set_cons_zero, List.set_cons_succ])
  refine wpAnyH_done (by kernel_rfl) ?_ _
  (try clear p0 p1 pf0 pf1)
  obtain ⟨vf, hvf⟩ : ∃ v, v = (w_1.setCell ⟨w.heap.size + 3, 0, none⟩ (.slice none 0 0)).setCell ⟨w.heap.size + 3, 1, none⟩ (.slice o n c) := ⟨_, rfl⟩
  rw [← hvf] at ZF BF LF ⊢
  clear hvf
  obtain ⟨z0, z1, _⟩ := blkz ZF.out
  clear e0
  go_wp2
  refine bodyPost_ret (v := .tuple #[.agg #[.slice none 0 0, .slice o n c], .int .i64 E]) (by simp [results, Try.results9, go_sem, z0, z1]) rfl ?_
  exact ⟨o, n, c, E, rfl, LF.out, BF0.out vf BF.out⟩
end Go.Proofs.Ytocoedpmcognpaa
namespace Go.Proofs.Ytocoedpmcognpaa
open Go.RowKit Go.Shelf

theorem eqw_same (va vb : Value) (l : List Int) (W : World) (ha : Ld W va l) (hb : Ld W vb l) (hl : l.length ≤ 17592186044416) : Calls Try.prog 23 #[va, vb] W fun e w' => e = .returned (.bool true) ∧ Below W.heap.size W w' := by
  have C4 := eqw_any va vb l l W ha hb hl hl
  rwa [show decide (l = l) = true by simp] at C4
end Go.Proofs.Ytocoedpmcognpaa
namespace Go.Proofs.Ytocoedpmcognpaa
open Go Go.RowKit Go.Shelf
attribute [local go_sem] Oper.semAt_some

theorem blk7q {W : World} {b : Nat} {t : TypeId} {v0 v1 v2 v3 v4 v5 v6 : Value} (h : Blk W b t #[v0, v1, v2, v3, v4, v5, v6]) : W.cell? ⟨b, 0, none⟩ = some v0 ∧ W.cell? ⟨b, 1, none⟩ = some v1 ∧ W.cell? ⟨b, 2, none⟩ = some v2 ∧ W.cell? ⟨b, 3, none⟩ = some v3 ∧ W.cell? ⟨b, 4, none⟩ = some v4 ∧ W.cell? ⟨b, 5, none⟩ = some v5 ∧ W.cell? ⟨b, 6, none⟩ = some v6 := ⟨h.cell 0, h.cell 1, h.cell 2, h.cell 3, h.cell 4, h.cell 5, h.cell 6⟩
theorem num16_any (x : Int) (w : World) : Calls Try.prog 10 #[.int .i64 x] w fun e w' => e = .returned (.int .i64 x) ∧ w = w' := by
  go_enter Try.func10, Try.ntmps10
  go_wp2
  go_ret
  exact ⟨rfl, rfl⟩
def hv16 (sa da sb db ll : List Int) : Bool := hv8 24 sa da || hv8 24 sb db || decide (100 < (ll.length : Int))
theorem hv16_no {sa da sb db ll : List Int} (h : hv16 sa da sb db ll = false) : (sa.length ≤ 8 ∧ da.length ≤ 24) ∧ (sb.length ≤ 8 ∧ db.length ≤ 24) ∧ ll.length ≤ 100 := by
  unfold hv16 at h
  simp only [Bool.or_eq_false_iff, decide_eq_false_iff_not] at h
  have a := hv8_no h.1.1
  have b := hv8_no h.1.2
  omega
set_option maxRecDepth 100000 in
set_option maxHeartbeats 2000000 in
theorem heavy16_any (vA vX vB vY vL : Value) (sa da sb db ll : List Int) (d f : Int) (w : World) (hA : Ld w vA sa) (hX : Ld w vX da) (hB : Ld w vB sb) (hY : Ld w vY db) (hL : Ld w vL ll) (l0 : sa.length ≤ 17592186043904) (l1 : da.length ≤ 17592186043904) (l2 : sb.length ≤ 17592186043904) (l3 : db.length ≤ 17592186043904) :
    Calls Try.prog 4 #[.agg #[vA, vX, vB, vY, vL, .int .i64 d, .int .i64 f]] w fun e w' => e = .returned (.bool (hv16 sa da sb db ll)) ∧ Below w.heap.size w w' := by
  have B1 := Lib.hid ((Below.refl w.heap.size w).alloc (Nat.le_refl _) (.cells #[vA, vX, vB, vY, vL, .int .i64 d, .int .i64 f] 28))
  have Q1 := Lib.hid (Blk.new w 28 #[vA, vX, vB, vY, vL, .int .i64 d, .int .i64 f])
  have LA := Lib.hid (fun (W : World) (hW : Below w.heap.size w W) => heavy8_any vA vX sa da 24 W (hA.below hW) (hX.below hW) (by omega) (by omega))
  have LB := Lib.hid (fun (W : World) (hW : Below w.heap.size w W) => heavy8_any vB vY sb db 24 W (hB.below hW) (hY.below hW) (by omega) (by omega))
  obtain ⟨oA, cA, rfl, _, _⟩ := hA
  obtain ⟨oX, cX, rfl, _, _⟩ := hX
  obtain ⟨oB, cB, rfl, _, _⟩ := hB
  obtain ⟨oY, cY, rfl, _, _⟩ := hY
  obtain ⟨oL, cL, rfl, _, _⟩ := hL
  unfold hv16
  obtain ⟨GA, hGA⟩ : ∃ b, b = hv8 24 sa da := ⟨_, rfl⟩
  obtain ⟨GB, hGB⟩ : ∃ b, b = hv8 24 sb db := ⟨_, rfl⟩
  obtain ⟨GL, hGL⟩ : ∃ b, b = decide (100 < (ll.length : Int)) := ⟨_, rfl⟩
  rw [← hGA] at LA ⊢
  rw [← hGB] at LB ⊢
  rw [← hGL]
  have HGL := Lib.hid hGL
  clear hGA hGB hGL l0 l1 l2 l3
  cases GA with
  | true =>
    go_enter Try.func4, Try.ntmps4
    go_wp2_with (go_at_call 12; (with_reducible refine (LA.out _ B1.out).mono ?_); rintro e w2 ⟨rfl, hb⟩; have F2 := Lib.hid (B1.out.trans (hb.mono (by simp))); clear hb)
    go_ret
    exact ⟨rfl, F2.out⟩
  | false =>
    cases GB with
    | true =>
      go_enter Try.func4, Try.ntmps4
      go_wp2_with (first | (go_at_call 12; (with_reducible refine (LA.out _ B1.out).mono ?_); rintro e w2 ⟨rfl, hb⟩; obtain ⟨x0, x1, x2, x3, x4, x5, x6⟩ := blk7q (Q1.out.below hb Q1.out.lt); have F2 := Lib.hid (B1.out.trans (hb.mono (by simp))); clear hb) | (go_at_call 12; (with_reducible refine (LB.out _ F2.out).mono ?_); rintro e w3 ⟨rfl, hb⟩; have F3 := Lib.hid (F2.out.trans (hb.mono F2.out.size)); clear hb))
      go_ret
      exact ⟨rfl, F3.out⟩
    | false =>
      have dl := HGL.out.symm
      go_enter Try.func4, Try.ntmps4
      go_wp2_with (first | (go_at_call 12; (with_reducible refine (LA.out _ B1.out).mono ?_); rintro e w2 ⟨rfl, hb⟩; have Q2 := Lib.hid (Q1.out.below hb Q1.out.lt); obtain ⟨x0, x1, x2, x3, x4, x5, x6⟩ := blk7q Q2.out; have F2 := Lib.hid (B1.out.trans (hb.mono (by simp))); clear hb) | (go_at_call 12; (with_reducible refine (LB.out _ F2.out).mono ?_); rintro e w3 ⟨rfl, hb⟩; clear x0 x1 x2 x3 x4 x5 x6; obtain ⟨x0, x1, x2, x3, x4, x5, x6⟩ := blk7q (Q2.out.below hb Q2.out.lt); have F3 := Lib.hid (F2.out.trans (hb.mono F2.out.size)); clear hb))
      go_ret
      exact ⟨rfl, F3.out⟩
theorem lsw_num : rd (lsp hsq [256] [0] 1) ((2 : Int) ^ 8 * 1) = 256 := by decide
theorem ld_256 {W : World} {n : Nat} {t : TypeId} (h : W.heap.size = n) : Ld (W.alloc (.cells #[.int .i64 256] t)) (.slice (some ⟨n, 0, none⟩) 1 1) [256] := by
  subst h
  exact Ld.of_blk (ls := [256]) (Blk.new _ _ _) (Nat.le_refl _)
theorem eq256 (W : World) (va vb : Value) (ha : Ld W va [256]) (hb : Ld W vb [256]) : Calls Try.prog 23 #[va, vb] W fun e w' => e = .returned (.bool true) ∧ Below W.heap.size W w' := eqw_same va vb _ W ha hb (by decide)
set_option maxRecDepth 100000 in
set_option maxHeartbeats 8000000 in
theorem wakes16_any (w : World) : Calls Try.prog 11 #[] w fun e w' => e = .returned (.bool true) ∧ Below w.heap.size w w' := by
  obtain ⟨w2, hw2⟩ : ∃ w2, w2 = (w.alloc (.cells #[.int .i64 256] 2)).alloc (.cells #[.int .i64 0] 2) := ⟨_, rfl⟩
  have B2 : Hid (Below w.heap.size w w2) := Lib.hid (by rw [hw2]; exact ((Below.refl _ _).alloc (Nat.le_refl _) _).alloc (by simp) _)
  have CN : Hid (Calls Try.prog 8 #[.agg #[.slice none 0 0, .slice (some ⟨w.heap.size, 0, none⟩) 1 1], .agg #[.slice none 0 0, .slice (some ⟨w.heap.size + 1, 0, none⟩) 1 1], .int .i64 8] w2 fun e w' => ∃ g, e = .returned (.tuple #[.agg #[.slice none 0 0, .slice (some ⟨g, 0, none⟩) 1 1], .int .i64 0]) ∧ Ld w' (.slice (some ⟨g, 0, none⟩) 1 1) [256] ∧ Below w2.heap.size w2 w') := Lib.hid (by
    have h1 : Ld w2 (.slice (some ⟨w.heap.size, 0, none⟩) 1 1) [256] := by rw [hw2]; exact (ld_256 rfl).below (al_below _)
    have h2 : Ld w2 (.slice (some ⟨w.heap.size + 1, 0, none⟩) 1 1) [0] := by
      rw [hw2]
      have q := Ld.of_blk (ls := [0]) (Blk.new (w.alloc (.cells #[.int .i64 256] 2)) 2 #[.int .i64 0]) (Nat.le_refl _)
      rwa [World.size_alloc] at q
    refine (lsquare_any (.slice none 0 0) _ (.slice none 0 0) _ [] [256] [0] 8 w2 (Ld.nil _) h1 (Ld.nil _) h2 (by decide) (by decide) (by decide)).mono fun e w' hh => ?_
    obtain ⟨o, n, c, E, rfl, ⟨h3, h4, h5⟩, h6⟩ := hh
    rw [show rd (lsp hsq [256] [0] ([256] : List Int).length) ((2 : Int) ^ 8 * (([256] : List Int).length : Int)) = 256 from lsw_num] at h3 h5
    have e0 : E = 0 := by rw [h3]; decide
    obtain ⟨g, rfl, rfl, rfl, _, hb⟩ := h5 e0
    subst e0
    exact ⟨g, rfl, Ld.of_blk (ls := [256]) hb (Nat.le_refl _), h6⟩)
  have HW2 := Lib.hid hw2
  clear hw2
  go_enter Try.func11, Try.ntmps11
  go_wp2_with (first
    | (go_at_call 8; rw [← HW2.out]; (with_reducible refine CN.out.mono ?_); rintro e w10 ⟨g, rfl, h4, hb4⟩; have B10 := Lib.hid (B2.out.trans (hb4.mono B2.out.size)); have H4 := Lib.hid h4; clear h4 hb4)
    | (go_at_call 23; (with_reducible refine (eq256 _ _ _ ((H4.out.below (al_below _)).below (al_below _)) (ld_256 (World.size_alloc _ _))).mono ?_); rintro e w11 ⟨rfl, hb6⟩; have B11 := Lib.hid (((B10.out.alloc B10.out.size _).alloc (by have := B10.out.size; simp; omega) _).trans (hb6.mono (by have := B10.out.size; simp; omega))); clear hb6)
    | (go_at_call 10; (with_reducible refine (num16_any _ _).mono ?_); rintro e w' ⟨rfl, rfl⟩))
  go_ret
  exact ⟨rfl, B11.out⟩
end Go.Proofs.Ytocoedpmcognpaa
namespace Go.Proofs.Ytocoedpmcognpaa
open Go.ChangeShapes Go.WideShapes Go.ChangeAt Go.RowKit Go.Deep

theorem Try.own : ownKnob Try.prog.godebug = none := by kernel_rfl
theorem Try.laidOut : laidOutB Try.prog = true := by kernel_rfl
theorem s_i64 {x : Int} (h : (Lit.int .i64 x).wf = true) : -9223372036854775808 ≤ x ∧ x ≤ 9223372036854775807 := by
  simp [Lit.wf, IntKind.min, IntKind.max, IntKind.signed, IntKind.bits] at h
  exact ⟨by omega, by omega⟩
theorem cS1 : Try.prog.cellsOf 23 = 1 := by kernel_rfl
theorem cS2 : Try.prog.cellsOf 3 = 1 := by kernel_rfl
theorem cS5 : Try.prog.cellsOf 24 = 1 := by kernel_rfl
theorem cS6 : Try.prog.cellsOf 2 = 1 := by kernel_rfl
theorem cS7 : Try.prog.cellsOf 26 = 2 := by kernel_rfl
theorem cS8 : Try.prog.cellsOf 28 = 7 := by kernel_rfl
theorem bS2 : Try.prog.bytesOf 3 = 8 := by kernel_rfl
theorem bS6 : Try.prog.bytesOf 2 = 8 := by kernel_rfl
theorem reach_is : reachBytes = 140737488351232 := rfl

/-- An element. -/
structure Lk where
  A : Value
  AD : Value
  B : Value
  BD : Value
  L : Value
  sA : List Int
  dA : List Int
  sB : List Int
  dB : List Int
  lL : List Int
  nD : Int
  nF : Int
def Lk.ok (w : World) (e : Lk) : Prop := (Ld w e.A e.sA ∧ Ld w e.AD e.dA ∧ Ld w e.B e.sB ∧ Ld w e.BD e.dB ∧ Ld w e.L e.lL) ∧ (e.sA.length ≤ 17592186043904 ∧ e.dA.length ≤ 17592186043904 ∧ e.sB.length ≤ 17592186043904 ∧ e.dB.length ≤ 17592186043904 ∧ e.lL.length ≤ 17592186043904) ∧ (-9223372036854775808 ≤ e.nD ∧ e.nD ≤ 9223372036854775807) ∧ (-9223372036854775808 ≤ e.nF ∧ e.nF ≤ 9223372036854775807)
def LkAt (w : World) (b p : Nat) (e : Lk) : Prop := w.cell? ⟨b, p, none⟩ = some e.A ∧ w.cell? ⟨b, p + 1, none⟩ = some e.AD ∧ w.cell? ⟨b, p + 2, none⟩ = some e.B ∧ w.cell? ⟨b, p + 3, none⟩ = some e.BD ∧ w.cell? ⟨b, p + 4, none⟩ = some e.L ∧ w.cell? ⟨b, p + 5, none⟩ = some (.int .i64 e.nD) ∧ w.cell? ⟨b, p + 6, none⟩ = some (.int .i64 e.nF)
theorem LkAt.below {w W : World} {b p : Nat} {e : Lk} (h : LkAt w b p e) (hB : Below w.heap.size w W) (hb : b < w.heap.size) : LkAt W b p e := by
  obtain ⟨h0, h1, h2, h3, h4, h5, h6⟩ := h
  have k : ∀ (i : Nat) (v : Value), w.cell? ⟨b, i, none⟩ = some v → W.cell? ⟨b, i, none⟩ = some v := fun i v hh => (hB.cell (p := ⟨b, i, none⟩) hb).trans hh
  exact ⟨k _ _ h0, k _ _ h1, k _ _ h2, k _ _ h3, k _ _ h4, k _ _ h5, k _ _ h6⟩

/-- All that it weighs is within reach. -/
def Lite {H : Type} (t : TypeId) (d : DataW H) : Prop := ∀ n ∈ d.weights Try.prog t, n ≤ reachBytes
theorem lite_all {H : Type} {e : TypeId} : ∀ {l : List (DataW H)} {d : DataW H}, d ∈ l → ∀ n ∈ d.weights Try.prog e, n ∈ DataW.weightsAll Try.prog e l
  | d' :: r, d, hd, n, hn => by
    simp only [DataW.weightsAll, List.mem_append]
    rcases List.mem_cons.1 hd with rfl | h
    · exact .inl hn
    · exact .inr (lite_all h n hn)
theorem lite_in {H : Type} {t e : TypeId} {elems spare : List (DataW H)} {d : DataW H} (hu : Try.prog.underlying t = some (.slice e)) (h : Lite t (.slice elems spare)) (hd : d ∈ elems) : Lite e d := fun n hn =>
  h n (by simp only [DataW.weights, hu, List.mem_cons, List.mem_append]; exact .inr (.inl (lite_all hd n hn)))
theorem lite_len {H : Type} {t e : TypeId} {elems spare : List (DataW H)} (hu : Try.prog.underlying t = some (.slice e)) (hb : Try.prog.bytesOf e = 8) (h : Lite t (.slice elems spare)) : elems.length ≤ 17592186043904 := by
  have := h ((elems.length + spare.length) * Try.prog.bytesOf e) (by simp [DataW.weights, hu])
  rw [hb, reach_is] at this
  omega
theorem lite_part {H : Type} {t : TypeId} {fs : Array Field} {parts : List (DataW H)} {j : Nat} {d : DataW H} {u : TypeId} (hu : Try.prog.underlying t = some (.struct fs)) (h : Lite t (.agg parts)) (hj : (fs.toList.map (·.type))[j]? = some u) (hd : parts[j]? = some d) : Lite u d := fun n hn =>
  h n (by simp only [DataW.weights, hu]; exact DataW.weights_mem_each hj hd n hn)

section
variable {H : Type} {enc : TypeId × Value → H} {w : World} {base : Nat} {spare : Nat → Bool} {held : Bool}
set_option maxRecDepth 100000 in
theorem open_nums {t e : TypeId} {fuel : Nat} {v : Value} {x : DataW H × List MemPlace} (hu : Try.prog.underlying t = some (.slice e)) (hc : Try.prog.cellsOf e = 1) (hb : Try.prog.bytesOf e = 8) (hi : Try.prog.underlying e = some (.int .i64))
    (h : DataW.trod enc Try.prog w base spare held fuel t [v] = some x) (hz : Lite t x.1) : ∃ ls, Ld w v ls ∧ ls.length ≤ 17592186043904 := by
  rcases open_slice1 hu hc h with ⟨hcs, _⟩ | ⟨a, len, cap, m, n, V, D, Pl, hcs, _, hl, hm, hmm, hx, hia⟩
  · simp only [List.cons.injEq, and_true] at hcs
    subst hcs
    exact ⟨[], Ld.nil w, by simp⟩
  · simp only [List.cons.injEq, and_true] at hcs
    subst hcs
    have hle : len ≤ m := by rw [hmm]; split <;> omega
    have hlen2 : len ≤ 17592186043904 := by
      rw [hx] at hz
      have := lite_len hu hb hz
      simpa using this
    have hall : ∀ i, i < len → ∃ y : Int, w.cell? (a.add i) = some (.int .i64 y) := by
      intro i hik
      obtain ⟨hc, ht⟩ := hia i (by omega)
      obtain ⟨y, e0, _, _⟩ := DataW.trod_int hi ht
      simp only [List.cons.injEq, and_true] at e0
      exact ⟨y, by rw [hc, e0]⟩
    let ys : Nat → Int := fun i => if h : i < len then (hall i h).choose else 0
    have hys : ∀ i, i < len → w.cell? (a.add i) = some (.int .i64 (ys i)) := by
      intro i hik
      have := (hall i hik).choose_spec
      simp only [ys, dif_pos hik]
      exact this
    have hlen : ((List.range len).map ys).length = len := by simp
    refine ⟨(List.range len).map ys, ⟨some a, cap, by rw [hlen], by rw [hlen]; exact hl, fun i hi2 => ?_⟩, by rw [hlen]; exact hlen2⟩
    rw [hlen] at hi2
    obtain ⟨b, off, spot⟩ := a
    have hc := hys i hi2
    have hspot : spot = none := by simpa [Addr.add] using World.cell?_spot (hys 0 (by omega))
    subst hspot
    rw [Go.WideShapes.add_plain] at hc
    have hg : ((List.range len).map ys).getD i 0 = ys i := by simp [List.getD, hi2]
    exact ⟨b, off, rfl, World.block_lt_of_cell? w _ hc, by rw [hg]; exact hc⟩

set_option maxRecDepth 100000 in
theorem open_tens {fuel : Nat} {v0 v1 : Value} {x : DataW H × List MemPlace} (h : DataW.trod enc Try.prog w base spare held fuel 26 [v0, v1] = some x) (hz : Lite 26 x.1) :
    ∃ ts tds, Ld w v0 ts ∧ Ld w v1 tds ∧ ts.length ≤ 17592186043904 ∧ tds.length ≤ 17592186043904 := by
  obtain ⟨xs, n, _, hx, _, hxl, hf⟩ := DataW.trod_struct Try.underlying26 h
  have hxl2 : xs.length = 2 := hxl
  match xs, hxl2 with
  | [x0, x1], _ =>
    have h0 : DataW.trod enc Try.prog w base spare held n 23 ((([v0, v1] : List Value).drop 0).take (Try.prog.cellsOf 23)) = some x0 := hf 0 _ rfl
    have h1 : DataW.trod enc Try.prog w base spare held n 24 ((([v0, v1] : List Value).drop 1).take (Try.prog.cellsOf 24)) = some x1 := hf 1 _ rfl
    simp only [cS1, cS5, List.drop_zero, List.drop_succ_cons, List.take_succ_cons, List.take_zero] at h0 h1
    rw [hx] at hz
    obtain ⟨s, hs, ls⟩ := open_nums Try.underlying23 cS2 bS2 Try.underlying3 h0 (lite_part (j := 0) Try.underlying26 hz rfl rfl)
    obtain ⟨t, ht, lt⟩ := open_nums Try.underlying24 cS6 bS6 Try.underlying2 h1 (lite_part (j := 1) Try.underlying26 hz rfl rfl)
    exact ⟨s, t, hs, ht, ls, lt⟩
set_option maxRecDepth 100000 in
set_option maxHeartbeats 2000000 in
theorem open_lk {fuel : Nat} {cs : List Value} {x : DataW H × List MemPlace} (h : DataW.trod enc Try.prog w base spare held fuel 28 cs = some x) (hz : Lite 28 x.1) :
    ∃ e : Lk, e.ok w ∧ cs = [e.A, e.AD, e.B, e.BD, e.L, .int .i64 e.nD, .int .i64 e.nF] := by
  obtain ⟨xs, n, _, hx, hl, hxl, hf⟩ := DataW.trod_struct Try.underlying28 h
  rw [cS8] at hl
  match cs, hl with
  | [v0, v1, v2, v3, v4, v5, v6], _ =>
    have hxl2 : xs.length = 5 := hxl
    match xs, hxl2 with
    | [x0, x1, x2, x3, x4], _ =>
      have h0 : DataW.trod enc Try.prog w base spare held n 26 ((([v0, v1, v2, v3, v4, v5, v6] : List Value).drop 0).take (Try.prog.cellsOf 26)) = some x0 := hf 0 _ rfl
      have h1 : DataW.trod enc Try.prog w base spare held n 26 ((([v0, v1, v2, v3, v4, v5, v6] : List Value).drop 2).take (Try.prog.cellsOf 26)) = some x1 := hf 1 _ rfl
      have h2 : DataW.trod enc Try.prog w base spare held n 23 ((([v0, v1, v2, v3, v4, v5, v6] : List Value).drop 4).take (Try.prog.cellsOf 23)) = some x2 := hf 2 _ rfl
      have h3 : DataW.trod enc Try.prog w base spare held n 2 ((([v0, v1, v2, v3, v4, v5, v6] : List Value).drop 5).take (Try.prog.cellsOf 2)) = some x3 := hf 3 _ rfl
      have h4 : DataW.trod enc Try.prog w base spare held n 3 ((([v0, v1, v2, v3, v4, v5, v6] : List Value).drop 6).take (Try.prog.cellsOf 3)) = some x4 := hf 4 _ rfl
      simp only [cS1, cS2, cS6, cS7, List.drop_zero, List.drop_succ_cons, List.take_succ_cons, List.take_zero] at h0 h1 h2 h3 h4
      rw [hx] at hz
      have q := fun (j : Nat) (u : TypeId) (d : DataW H) => lite_part (j := j) (u := u) (d := d) Try.underlying28 hz
      obtain ⟨p0, r0, a0, b0, l0, m0⟩ := open_tens h0 (q 0 _ _ rfl rfl)
      obtain ⟨p1, r1, a1, b1, l1, m1⟩ := open_tens h1 (q 1 _ _ rfl rfl)
      obtain ⟨p2, a2, l2⟩ := open_nums Try.underlying23 cS2 bS2 Try.underlying3 h2 (q 2 _ _ rfl rfl)
      obtain ⟨i3, ei3, _, wi3⟩ := DataW.trod_int Try.underlying2 h3
      obtain ⟨i4, ei4, _, wi4⟩ := DataW.trod_int Try.underlying3 h4
      simp only [List.cons.injEq, and_true] at ei3 ei4
      subst ei3 ei4
      exact ⟨⟨v0, v1, v2, v3, v4, p0, r0, p1, r1, p2, i3, i4⟩, ⟨⟨a0, b0, a1, b1, a2⟩, ⟨l0, m0, l1, m1, l2⟩, s_i64 wi3, s_i64 wi4⟩, rfl⟩

set_option maxRecDepth 100000 in
set_option maxHeartbeats 2000000 in
/-- The list: nil or empty, or its elements' cells. -/
theorem open_lks {fuel : Nat} {v : Value} {x : DataW H × List MemPlace} (h : DataW.trod enc Try.prog w base spare held fuel 22 [v] = some x) (hz : Lite 22 x.1) :
    (∃ o cap, v = .slice o 0 cap) ∨ ∃ (b off len cap : Nat) (es : Nat → Lk), v = .slice (some ⟨b, off, none⟩) len cap ∧ len ≤ 9223372036854775807 ∧ b < w.heap.size ∧
      (∀ i, i < len → LkAt w b (off + i * 7) (es i)) ∧ (∀ i, i < len → (es i).ok w) := by
  rcases open_slice Try.underlying22 h with ⟨hcs, _⟩ | ⟨a, len, cap, m, n, D, Pl, hcs, _, hl, hm, hmm, hx, hi⟩
  · left
    simp only [List.cons.injEq, and_true] at hcs
    exact ⟨_, _, hcs⟩
  · simp only [List.cons.injEq, and_true] at hcs
    subst hcs
    by_cases h0 : len = 0
    · subst h0; exact .inl ⟨_, _, rfl⟩
    right
    have hle : len ≤ m := by rw [hmm]; split <;> omega
    rw [cS8] at hi
    rw [hx] at hz
    have hall : ∀ i, i < len → ∃ e : Lk, e.ok w ∧ ∀ j, j < 7 → w.cell? ((a.add (i * 7)).add j) = ([e.A, e.AD, e.B, e.BD, e.L, .int .i64 e.nD, .int .i64 e.nF] : List Value)[j]? := by
      intro i hik
      obtain ⟨cs', hc, ht⟩ := hi i (by omega)
      obtain ⟨e, he, rfl⟩ := open_lk ht (lite_in Try.underlying22 hz (List.mem_map.2 ⟨i, List.mem_range.2 hik, rfl⟩))
      exact ⟨e, he, (World.cells?_some hc).2.2⟩
    let es : Nat → Lk := fun i => if h : i < len then (hall i h).choose else ⟨.bool false, .bool false, .bool false, .bool false, .bool false, [], [], [], [], [], 0, 0⟩
    have hes : ∀ i, i < len → (es i).ok w ∧ ∀ j, j < 7 → w.cell? ((a.add (i * 7)).add j) = ([(es i).A, (es i).AD, (es i).B, (es i).BD, (es i).L, .int .i64 (es i).nD, .int .i64 (es i).nF] : List Value)[j]? := by
      intro i hik
      have := (hall i hik).choose_spec
      simp only [es, dif_pos hik]
      exact this
    obtain ⟨b, off, spot⟩ := a
    have hspot : spot = none := by
      have := (hes 0 (by omega)).2 0 (by decide)
      simpa [Addr.add] using World.cell?_spot this
    subst hspot
    have cell : ∀ i, i < len → ∀ j, j < 7 → w.cell? ⟨b, off + i * 7 + j, none⟩ = ([(es i).A, (es i).AD, (es i).B, (es i).BD, (es i).L, .int .i64 (es i).nD, .int .i64 (es i).nF] : List Value)[j]? := by
      intro i hik j hj
      rw [← (hes i hik).2 j hj, Go.WideShapes.add_plain, Go.WideShapes.add_plain]
    refine ⟨b, off, len, cap, es, rfl, by unfold maxLen at hm; omega, ?_, fun i hik => ?_, fun i hik => (hes i hik).1⟩
    · exact World.block_lt_of_cell? w _ (by have := cell 0 (by omega) 0 (by decide); simpa using this)
    · exact ⟨cell i hik 0 (by decide), cell i hik 1 (by decide), cell i hik 2 (by decide), cell i hik 3 (by decide), cell i hik 4 (by decide), cell i hik 5 (by decide), cell i hik 6 (by decide)⟩
end
end Go.Proofs.Ytocoedpmcognpaa
namespace Go.Proofs.Ytocoedpmcognpaa

end Go.Proofs.Ytocoedpmcognpaa
namespace Go.Proofs.Ytocoedpmcognpaa
open Go.RowKit

end Go.Proofs.Ytocoedpmcognpaa
namespace Go.Proofs.Ytocoedpmcognpaa
open Go.RowKit


end Go.Proofs.Ytocoedpmcognpaa
namespace Go.Proofs.Ytocoedpmcognpaa
open Go.RowKit



end Go.Proofs.Ytocoedpmcognpaa
namespace Go.Proofs.Ytocoedpmcognpaa
open Go.RowKit


end Go.Proofs.Ytocoedpmcognpaa
namespace Go.Proofs.Ytocoedpmcognpaa
open Go.RowKit



end Go.Proofs.Ytocoedpmcognpaa
namespace Go.Proofs.Ytocoedpmcognpaa
open Go.RowKit Go.Shelf


end Go.Proofs.Ytocoedpmcognpaa
