/-
  Sums, means and maxima of any tensor by any axes; is an answer the page's own?
  A list of tensors, axes and an axis that came in, opened to the cells of its elements.
  The reference's May, of a tensor.
-/
import Derived.Deep.Slices
import Derived.Deep.Fields
import Derived.ProofKit
import Derived.Carry
import Derived.SizedLaws
import Derived.Deep.RegionHeld3
import Derived.Test.YtmafgdinegboeaaGreatM13
import Derived.Test.YtmafgdinegboeaaGreatM15
import Derived.Test.YtmafgdinegboeaaGreatM23
import Derived.Test.YtmafgdinegboeaaGreatM24
namespace Go.Proofs.YtmafgdinegboeaaGreat
open Go Go.RowKit Go.Shelf
attribute [local go_sem] Oper.semAt_some

/-- How many words are left. -/
def lfM (sh ax : List Int) : Nat := (prod (lf sh ax 0)).toNat
theorem lfM_is {sh ds ax : List Int} (h : tnb sh ds = true) : (lfM sh ax : Int) = prod (lf sh ax 0) ∧ 1 ≤ lfM sh ax ∧ lfM sh ax ≤ 65536 := by
  obtain ⟨hm, _, _⟩ := tnb_parts h
  have h1 := lf_prod ax sh 0 (may_pos hm)
  have h2 := may_prod hm
  unfold lfM
  omega
/-- The error, the shape, the words of a sum (D is 1) or a mean. -/
def sE (sh ds ax : List Int) (D : Nat) : Int := if tnb sh ds = true then (if axb (sh.length : Nat) ax (-1) = true then rde sh ds ax (D : Nat) (lfM sh ax) else 2) else 1
def sS (sh ds ax : List Int) (D : Nat) : List Int := unl (sE sh ds ax D) (lf sh ax 0)
def sD (sh ds ax : List Int) (D : Nat) : List Int := unl (sE sh ds ax D) (rdv sh ds ax (D : Nat) (lfM sh ax))
def mnD (sh ds ax : List Int) : Nat := ds.length / lfM sh ax
theorem unl_no {E : Int} {l : List Int} (h : E ≠ 0) : unl E l = [] := if_neg h
theorem sS_len {sh ds ax : List Int} {D : Nat} : (sS sh ds ax D).length ≤ sh.length := by
  unfold sS unl
  split
  · exact lf_len_le ax sh 0
  · simp
theorem sD_len {sh ds ax : List Int} {D : Nat} : (sD sh ds ax D).length ≤ 65536 := by
  unfold sD unl
  split
  · next h =>
    by_cases ht : tnb sh ds = true
    · have := lfM_is (ax := ax) ht
      rw [rdv, vls_len]; omega
    · unfold sE at h; rw [if_neg ht] at h; exact absurd h (by decide)
  · simp
theorem sum_all (vs vd va : Value) (sh ds ax : List Int) (w : World) (hs : Ld w vs sh) (hd : Ld w vd ds) (ha : Ld w va ax) (l1 : sh.length ≤ 17592186044416) (l2 : ds.length ≤ 17592186044416) (l3 : ax.length ≤ 17592186044416) :
    Calls Tryz.prog 35 #[.agg #[vs, vd], va] w (SomeT w (sE sh ds ax 1) (sS sh ds ax 1) (sD sh ds ax 1)) := by
  by_cases h1 : tnb sh ds = true
  · by_cases h2 : axb (sh.length : Nat) ax (-1) = true
    · have e : sE sh ds ax 1 = rde sh ds ax 1 (lfM sh ax) := by unfold sE; rw [if_pos h1, if_pos h2]; rfl
      unfold sS sD
      rw [e]
      exact sum_ok vs vd va sh ds ax _ w hs hd ha l3 h1 h2 (lfM_is h1).1
    · have h2' : axb (sh.length : Nat) ax (-1) = false := by simpa using h2
      have e : sE sh ds ax 1 = 2 := by unfold sE; rw [if_pos h1, if_neg h2]
      have q := sum_no vs vd va sh ds ax w hs hd ha l1 l2 l3 (by rw [h1, h2']; rfl)
      rw [if_pos h1] at q
      unfold sS sD
      rw [e, unl_no (by decide), unl_no (by decide)]
      exact q
  · have h1' : tnb sh ds = false := by simpa using h1
    have e : sE sh ds ax 1 = 1 := by unfold sE; rw [if_neg h1]
    have q := sum_no vs vd va sh ds ax w hs hd ha l1 l2 l3 (by rw [h1']; rfl)
    rw [if_neg h1] at q
    unfold sS sD
    rw [e, unl_no (by decide), unl_no (by decide)]
    exact q
theorem mean_all (vs vd va : Value) (sh ds ax : List Int) (w : World) (hs : Ld w vs sh) (hd : Ld w vd ds) (ha : Ld w va ax) (l1 : sh.length ≤ 17592186044416) (l2 : ds.length ≤ 17592186044416) (l3 : ax.length ≤ 17592186044416) :
    Calls Tryz.prog 23 #[.agg #[vs, vd], va] w (SomeT w (sE sh ds ax (mnD sh ds ax)) (sS sh ds ax (mnD sh ds ax)) (sD sh ds ax (mnD sh ds ax))) := by
  by_cases h1 : tnb sh ds = true
  · by_cases h2 : axb (sh.length : Nat) ax (-1) = true
    · have e : sE sh ds ax (mnD sh ds ax) = rde sh ds ax (mnD sh ds ax : Nat) (lfM sh ax) := by unfold sE; rw [if_pos h1, if_pos h2]
      unfold sS sD
      rw [e]
      exact mean_ok vs vd va sh ds ax _ w hs hd ha l3 h1 h2 (lfM_is h1).1
    · have h2' : axb (sh.length : Nat) ax (-1) = false := by simpa using h2
      have e : sE sh ds ax (mnD sh ds ax) = 2 := by unfold sE; rw [if_pos h1, if_neg h2]
      have q := mean_no vs vd va sh ds ax w hs hd ha l1 l2 l3 (by rw [h1, h2']; rfl)
      rw [if_pos h1] at q
      unfold sS sD
      rw [e, unl_no (by decide), unl_no (by decide)]
      exact q
  · have h1' : tnb sh ds = false := by simpa using h1
    have e : sE sh ds ax (mnD sh ds ax) = 1 := by unfold sE; rw [if_neg h1]
    have q := mean_no vs vd va sh ds ax w hs hd ha l1 l2 l3 (by rw [h1']; rfl)
    rw [if_neg h1] at q
    unfold sS sD
    rw [e, unl_no (by decide), unl_no (by decide)]
    exact q
/-- The reference's, where there is one. -/
theorem rsum_all (vs vd va : Value) (sh ds ax : List Int) (b : Bool) (D : Nat) (w : World) (hs : Ld w vs sh) (hd : Ld w vd ds) (ha : Ld w va ax) (l3 : ax.length ≤ 17592186044416) (h1 : tnb sh ds = true) (h2 : axb (sh.length : Nat) ax (-1) = true) (hD : D = if b = true then mnD sh ds ax else 1) :
    Calls Tryz.prog 33 #[.agg #[vs, vd], va, .bool b] w (Ty w (sE sh ds ax D) (sS sh ds ax D) (sD sh ds ax D)) := by
  have e : sE sh ds ax D = rde sh ds ax (D : Nat) (lfM sh ax) := by unfold sE; rw [if_pos h1, if_pos h2]
  unfold sS sD
  rw [e]
  exact rreduce_any vs vd va sh ds ax (lfM sh ax) D b w hs hd ha l3 h1 (lfM_is h1).1 hD
/-- The error, the shape, the words, the picks of maxima. -/
def mE (sh ds : List Int) (x : Int) : Int := if tnb sh ds = true then (if 0 ≤ x ∧ x < sh.length then 0 else 2) else 1
def mS (sh ds : List Int) (x : Int) : List Int := unl (mE sh ds x) (lf sh [x] 0)
def mL (sh ds : List Int) (x : Int) : List Int := unl (mE sh ds x) (mxl sh ds x.toNat ds.length (lfM sh [x]))
def mP (sh ds : List Int) (x : Int) : List Int := unl (mE sh ds x) (mpl sh ds x.toNat ds.length (lfM sh [x]))
theorem mE_ok {sh ds : List Int} {x : Int} (h : mE sh ds x = 0) : tnb sh ds = true ∧ 0 ≤ x ∧ x < sh.length := by
  unfold mE at h
  split at h
  · next h1 =>
    split at h
    · next h2 => exact ⟨h1, h2.1, h2.2⟩
    · exact absurd h (by decide)
  · exact absurd h (by decide)
theorem mL_len {sh ds : List Int} {x : Int} : (mS sh ds x).length ≤ sh.length ∧ (mL sh ds x).length ≤ 65536 ∧ (mP sh ds x).length ≤ 65536 := by
  unfold mS mL mP unl
  split
  · next h =>
    have := lfM_is (ax := [x]) (mE_ok h).1
    rw [mxl_len, mpl_len]
    exact ⟨lf_len_le [x] sh 0, this.2.2, this.2.2⟩
  · simp
def SomeMy (w : World) (E : Int) (S L P : List Int) (e : Ending) (w' : World) : Prop := ∃ os cs od cd op cp, e = .returned (.tuple #[.agg #[.slice os S.length cs, .slice od L.length cd], .slice op P.length cp, .int .i64 E]) ∧ w'.ownsRow w.heap.size 3 1 (.slice os S.length cs) S.length (ints S) ∧ w'.ownsRow w.heap.size 2 1 (.slice od L.length cd) L.length (ints L) ∧ Ld w' (.slice op P.length cp) P ∧ Below w.heap.size w w'
theorem max_all (vs vd : Value) (sh ds : List Int) (x : Int) (w : World) (hs : Ld w vs sh) (hd : Ld w vd ds) (l1 : sh.length ≤ 17592186044416) (l2 : ds.length ≤ 17592186044416) :
    Calls Tryz.prog 22 #[.agg #[vs, vd], .int .i64 x] w (SomeMy w (mE sh ds x) (mS sh ds x) (mL sh ds x) (mP sh ds x)) := by
  by_cases h : mE sh ds x = 0
  · obtain ⟨h1, h2, h3⟩ := mE_ok h
    obtain ⟨a, rfl⟩ := Int.eq_ofNat_of_zero_le h2
    have q := max_ok vs vd sh ds a (lfM sh [(a : Int)]) w hs hd h1 (by omega) (lfM_is h1).1
    unfold mS mL mP
    rw [h]
    simp only [show ∀ l : List Int, unl 0 l = l from fun l => if_pos rfl]
    refine q.mono fun e w' hh => ?_
    obtain ⟨os, cs, gd, gp, rfl, ho, hb, hB⟩ := hh
    have k := lfM_is (ax := [(a : Int)]) h1
    exact ⟨os, cs, _, _, _, _, rfl, ho.out, Blk.owns hb.out.1 hb.out.2.2.1 (by rw [show (Int.toNat (a : Int)) = a from rfl, mxl_len]; omega), Ld.of_blk hb.out.2.1 (Nat.le_refl _), hB⟩
  · have hn : (tnb sh ds && axb (sh.length : Nat) [x] (-1)) = false := by
      cases c : (tnb sh ds && axb (sh.length : Nat) [x] (-1)) with
      | false => rfl
      | true =>
        rw [Bool.and_eq_true] at c
        have := axb_at c.2
        exact absurd (by unfold mE; rw [if_pos c.1, if_pos this]) h
    have q := max_no vs vd sh ds x w hs hd l1 l2 hn
    have e : mE sh ds x = if tnb sh ds = true then 2 else 1 := by
      unfold mE at h ⊢
      split
      · next h1 =>
        rw [if_pos h1] at h
        split
        · next h2 => rw [if_pos h2] at h; exact absurd rfl h
        · rfl
      · rfl
    unfold mS mL mP
    rw [unl_no h, unl_no h, unl_no h, e]
    exact q.mono fun e w' hh => ⟨none, 0, none, 0, none, 0, hh.1, World.ownsRow_nil _ _ _ _, World.ownsRow_nil _ _ _ _, Ld.nil _, hh.2⟩
theorem rmax_all (vs vd : Value) (sh ds : List Int) (x : Int) (w : World) (hs : Ld w vs sh) (hd : Ld w vd ds) (h : mE sh ds x = 0) :
    Calls Tryz.prog 34 #[.agg #[vs, vd], .int .i64 x] w (SomeX w (mS sh ds x) (mL sh ds x) (mP sh ds x)) := by
  obtain ⟨h1, h2, h3⟩ := mE_ok h
  obtain ⟨a, rfl⟩ := Int.eq_ofNat_of_zero_le h2
  unfold mS mL mP
  rw [h]
  simp only [show ∀ l : List Int, unl 0 l = l from fun l => if_pos rfl]
  exact rmax_any vs vd sh ds a (lfM sh [(a : Int)]) w hs hd h1 (by omega) (lfM_is h1).1

theorem numg_any (x : Int) (w : World) : Calls Tryz.prog 64 #[.int .i64 x] w fun e w' => e = .returned (.int .i64 x) ∧ w = w' := by
  go_enter Tryz.func64, Tryz.ntmps64
  go_wp2
  go_ret
  exact ⟨rfl, rfl⟩
set_option maxRecDepth 100000 in
set_option maxHeartbeats 4000000 in
/-- Two own rows are spoilt; boxes of tensors are kept. -/
theorem spoilg_any (base : Nat) (vs vd : Value) (sh ds : List Int) (w : World) (h1 : w.ownsRow base 3 1 vs sh.length (ints sh)) (h2 : w.ownsRow base 2 1 vd ds.length (ints ds)) (hb : base ≤ w.heap.size) (l1 : sh.length ≤ 65536) (l2 : ds.length ≤ 65536) :
    Calls Tryz.prog 65 #[.agg #[vs, vd]] w fun e w' => e = .returned (.tuple #[]) ∧ Below base w w' ∧ ∀ (B : Nat) (cs : Array Value), Blk w B 26 cs → Blk w' B 26 cs := by
  have hap : ∀ g, vs.ownBlock = some g → ¬ vd.ownBlock = some g := fun g e1 e2 => by
    rcases h1.2 with ⟨rfl, _⟩ | ⟨g1, _, _, rfl, _, hh1, _⟩
    · simp [Value.ownBlock] at e1
    · rcases h2.2 with ⟨rfl, _⟩ | ⟨g2, _, _, rfl, _, hh2, _⟩
      · simp [Value.ownBlock] at e2
      · simp only [Value.ownBlock, Option.some.injEq] at e1 e2
        subst e1; subst e2
        have := hh1.symm.trans hh2
        simp at this
  have C1 := Lib.hid (numberso_any base vs sh (w.alloc (.cells #[vs, vd] 26)) (h1.alloc _) (by simp; omega) l1)
  have C2 := Lib.hid (fun (W : World) (hg : (w.alloc (.cells #[vs, vd] 26)).grownBy W vs.ownBlock) => wordso_any base vd ds W ((h2.alloc _).kept hg (by
    cases e : vd.ownBlock with
    | none => exact .inl rfl
    | some g => exact .inr (fun e2 => hap g (e2 ▸ rfl) e))) (Nat.le_trans (by simp; omega) hg.size) l2)
  have HX := Lib.hid (Blk.new w 26 #[vs, vd])
  have H1 := Lib.hid (And.intro h1 h2)
  have HAP := Lib.hid hap
  clear h1 h2 hap
  go_enter Tryz.func65, Tryz.ntmps65
  go_wp2_with (first | (go_at_call 130; (with_reducible refine C1.out.mono ?_); rintro e w2 ⟨rfl, hg2⟩; obtain ⟨c0, c1, _⟩ := blk2 (HX.out.kept hg2 (fun e => tens_not_row (H1.out.1.alloc _) HX.out (by decide) e.symm)); replace hg2 := Lib.hid hg2) | (go_at_call 131; (with_reducible refine (C2.out _ hg2.out).mono ?_); rintro e w3 ⟨rfl, hg3⟩; replace hg3 := Lib.hid hg3))
  refine bodyPost_end (results_none rfl _ _ _) rfl ?_
  have b1 : Below base w (w.alloc (.cells #[vs, vd] 26)) := (Below.refl _ _).alloc hb _
  have b2 := b1.grown hg2.out (by simp; omega) (fun k e => (H1.out.1.lt k e).1)
  refine ⟨rfl, b2.grown hg3.out (by have := b2.size; omega) (fun k e => (H1.out.2.lt k e).1), fun B cs hB => ?_⟩
  have k2 : World.ownsRow w2 base 2 1 vd ds.length (ints ds) := (H1.out.2.alloc (.cells #[vs, vd] 26)).kept hg2.out (by
    cases e : vd.ownBlock with
    | none => exact .inl rfl
    | some g => exact .inr (fun e2 => HAP.out g (e2 ▸ rfl) e))
  have q2 : Blk w2 B 26 cs := (hB.alloc (.cells #[vs, vd] 26)).kept hg2.out (fun e => tens_not_row (H1.out.1.alloc (.cells #[vs, vd] 26)) (hB.alloc (.cells #[vs, vd] 26)) (by decide) e.symm)
  exact q2.kept hg3.out (fun e => tens_not_row k2 q2 (by decide) e.symm)
set_option maxRecDepth 100000 in
set_option maxHeartbeats 4000000 in
/-- Is: the answer is the page's own; it is spoilt behind it. -/
theorem is8_any (base : Nat) (vs vd us ud : Value) (sh ds : List Int) (E : Int) (w : World) (h1 : w.ownsRow base 3 1 vs sh.length (ints sh)) (h2 : w.ownsRow base 2 1 vd ds.length (ints ds)) (hb : base ≤ w.heap.size) (l1 : sh.length ≤ 65536) (l2 : ds.length ≤ 65536) (hu : ∃ o n c, us = .slice o n c) (hv : ∃ o n c, ud = .slice o n c) (hw : E = 0 → Ld w us sh ∧ Ld w ud ds) (he : E ≠ 0 → sh = [] ∧ ds = []) :
    Calls Tryz.prog 17 #[.agg #[vs, vd], .int .i64 E, .agg #[us, ud], .int .i64 E] w fun e w' => e = .returned (.bool true) ∧ Below base w w' ∧ ∀ (B : Nat) (cs : Array Value), Blk w B 26 cs → Blk w' B 26 cs := by
  obtain ⟨o1, c1, e1⟩ := own_form1 h1
  obtain ⟨o2, c2, e2⟩ := own_form1 h2
  subst e1; subst e2
  obtain ⟨o3, n3, c3, rfl⟩ := hu
  obtain ⟨o4, n4, c4, rfl⟩ := hv
  obtain ⟨w2, hw2⟩ : ∃ w2, w2 = (w.alloc (.cells #[.slice o1 sh.length c1, .slice o2 ds.length c2] 26)).alloc (.cells #[.slice o3 n3 c3, .slice o4 n4 c4] 26) := ⟨_, rfl⟩
  have B2 : Hid (Below w.heap.size w w2) := Lib.hid (by rw [hw2]; exact ((Below.refl _ _).alloc (Nat.le_refl _) _).alloc (by simp) _)
  have K0 : Hid (Blk w2 w.heap.size 26 #[.slice o1 sh.length c1, .slice o2 ds.length c2]) := Lib.hid (by rw [hw2]; exact (Blk.new w _ _).alloc _)
  have K1 : Hid (Blk w2 (w.heap.size + 1) 26 #[.slice o3 n3 c3, .slice o4 n4 c4]) := Lib.hid (by rw [hw2]; exact blk_new1 w _ _ _)
  have HS := Lib.hid hb
  have HR := Lib.hid (And.intro h1 h2)
  have hL1 := own_ld h1 rfl
  have hL2 := own_ld h2 rfl
  have SP := Lib.hid (fun (W : World) (hW : Below w.heap.size w W) => spoilg_any base _ _ sh ds W (Below.keepOwn h1 hW (Nat.le_refl _)) (Below.keepOwn h2 hW (Nat.le_refl _)) (Nat.le_trans hb hW.size) l1 l2)
  by_cases h0 : E = 0
  · subst h0
    have EQ := Lib.hid (fun (W : World) (hW : Below w.heap.size w W) => eqtensor_same _ _ _ _ sh ds W (hL1.below hW) (hL2.below hW) ((hw rfl).1.below hW) ((hw rfl).2.below hW) (by omega) (by omega))
    have HW := Lib.hid hw2
    have EQ2 : Hid (Calls Tryz.prog 19 #[.agg #[.slice o1 sh.length c1, .slice o2 ds.length c2], .agg #[.slice o3 n3 c3, .slice o4 n4 c4]] w2 fun e w' => e = .returned (.bool true) ∧ Below w2.heap.size w2 w') := Lib.hid (EQ.out w2 B2.out)
    rw [hw2] at EQ2
    clear hw2 hw he h1 h2 hb hL1 hL2 EQ
    go_enter Tryz.func17, Tryz.ntmps17
    go_wp2_with (first
      | (go_at_call 64; (with_reducible refine (numg_any _ _).mono ?_); rintro e w' ⟨rfl, rfl⟩)
      | (go_at_call 19; (with_reducible refine EQ2.out.mono ?_); rintro e w4 ⟨rfl, hb4⟩; rw [← HW.out] at hb4; have B4 := Lib.hid (B2.out.trans (hb4.mono B2.out.size)); have K4 := Lib.hid (K0.out.below hb4 K0.out.lt); obtain ⟨t0, t1, _⟩ := blk2 K4.out; clear hb4)
      | (go_at_call 65; (with_reducible refine (SP.out _ B4.out).mono ?_); rintro e w5 ⟨rfl, hb5, hk5⟩; have B5 := Lib.hid hb5; have HK5 := Lib.hid hk5; clear hb5 hk5))
    go_ret
    exact ⟨rfl, (B4.out.mono (by have := HS.out; omega)).trans B5.out, fun B cs hB => HK5.out B cs (hB.below B4.out hB.lt)⟩
  · obtain ⟨rfl, rfl⟩ := he h0
    have d0 : (E != 0) = true := bne_iff_ne.2 h0
    have d1 : (E == E) = true := beq_iff_eq.2 rfl
    have EQ2 : Hid (Calls Tryz.prog 19 #[.agg #[.slice o1 0 c1, .slice o2 0 c2], .agg #[.slice none 0 0, .slice none 0 0]] w2 fun e w' => e = .returned (.bool true) ∧ Below w2.heap.size w2 w') := Lib.hid (eqtensor_same _ _ _ _ [] [] w2 (hL1.below B2.out) (hL2.below B2.out) (Ld.nil _) (Ld.nil _) (by simp) (by simp))
    have hw3 : w2 = (w.alloc (.cells #[.slice o1 0 c1, .slice o2 0 c2] 26)).alloc (.cells #[.slice o3 n3 c3, .slice o4 n4 c4] 26) := hw2
    have HW := Lib.hid hw3
    rw [hw3] at EQ2
    clear hw2 hw3 hw he h1 h2 hb hL1 hL2 h0 SP
    go_enter Tryz.func17, Tryz.ntmps17
    go_wp2_with (first
      | (go_at_call 64; (with_reducible refine (numg_any _ _).mono ?_); rintro e w' ⟨rfl, rfl⟩)
      | (go_at_call 19; (with_reducible refine EQ2.out.mono ?_); rintro e w4 ⟨rfl, hb4⟩; rw [← HW.out] at hb4; have B4 := Lib.hid (B2.out.trans (hb4.mono B2.out.size)); clear hb4))
    go_ret
    exact ⟨rfl, B4.out.mono HS.out, fun B cs hB => hB.below B4.out hB.lt⟩
end Go.Proofs.YtmafgdinegboeaaGreat
namespace Go.Proofs.YtmafgdinegboeaaGreat
open Go.ChangeShapes Go.WideShapes Go.ChangeAt Go.RowKit Go.Deep

theorem Tryz.own : ownKnob Tryz.prog.godebug = none := by kernel_rfl
theorem Tryz.laidOut : laidOutB Tryz.prog = true := by kernel_rfl
theorem s_i64 {x : Int} (h : (Lit.int .i64 x).wf = true) : -9223372036854775808 ≤ x ∧ x ≤ 9223372036854775807 := by
  simp [Lit.wf, IntKind.min, IntKind.max, IntKind.signed, IntKind.bits] at h
  exact ⟨by omega, by omega⟩
theorem cS1 : Tryz.prog.cellsOf 23 = 1 := by kernel_rfl
theorem cS2 : Tryz.prog.cellsOf 3 = 1 := by kernel_rfl
theorem cS5 : Tryz.prog.cellsOf 24 = 1 := by kernel_rfl
theorem cS6 : Tryz.prog.cellsOf 2 = 1 := by kernel_rfl
theorem cS7 : Tryz.prog.cellsOf 26 = 2 := by kernel_rfl
theorem cS8 : Tryz.prog.cellsOf 67 = 4 := by kernel_rfl
theorem bS2 : Tryz.prog.bytesOf 3 = 8 := by kernel_rfl
theorem bS6 : Tryz.prog.bytesOf 2 = 8 := by kernel_rfl
theorem reach_is : reachBytes = 140737488351232 := rfl

/-- An element: a tensor, axes, an axis. -/
structure Rk where
  A : Value
  X : Value
  V : Value
  sh : List Int
  ds : List Int
  ax : List Int
  a : Int
def Rk.ok (w : World) (e : Rk) : Prop := (Ld w e.A e.sh ∧ Ld w e.X e.ds ∧ Ld w e.V e.ax) ∧ (e.sh.length ≤ 17592186043904 ∧ e.ds.length ≤ 17592186043904 ∧ e.ax.length ≤ 17592186043904) ∧ (-9223372036854775808 ≤ e.a ∧ e.a ≤ 9223372036854775807)
def RkAt (w : World) (b p : Nat) (e : Rk) : Prop := w.cell? ⟨b, p, none⟩ = some e.A ∧ w.cell? ⟨b, p + 1, none⟩ = some e.X ∧ w.cell? ⟨b, p + 2, none⟩ = some e.V ∧ w.cell? ⟨b, p + 3, none⟩ = some (.int .i64 e.a)
theorem RkAt.below {w W : World} {b p : Nat} {e : Rk} (h : RkAt w b p e) (hB : Below w.heap.size w W) (hb : b < w.heap.size) : RkAt W b p e := by
  obtain ⟨h0, h1, h2, h3⟩ := h
  have k : ∀ (i : Nat) (v : Value), w.cell? ⟨b, i, none⟩ = some v → W.cell? ⟨b, i, none⟩ = some v := fun i v hh => (hB.cell (p := ⟨b, i, none⟩) hb).trans hh
  exact ⟨k _ _ h0, k _ _ h1, k _ _ h2, k _ _ h3⟩

/-- All that it weighs is within reach. -/
def Lite {H : Type} (t : TypeId) (d : DataW H) : Prop := ∀ n ∈ d.weights Tryz.prog t, n ≤ reachBytes
theorem lite_all {H : Type} {e : TypeId} : ∀ {l : List (DataW H)} {d : DataW H}, d ∈ l → ∀ n ∈ d.weights Tryz.prog e, n ∈ DataW.weightsAll Tryz.prog e l
  | d' :: r, d, hd, n, hn => by
    simp only [DataW.weightsAll, List.mem_append]
    rcases List.mem_cons.1 hd with rfl | h
    · exact .inl hn
    · exact .inr (lite_all h n hn)
theorem lite_in {H : Type} {t e : TypeId} {elems spare : List (DataW H)} {d : DataW H} (hu : Tryz.prog.underlying t = some (.slice e)) (h : Lite t (.slice elems spare)) (hd : d ∈ elems) : Lite e d := fun n hn =>
  h n (by simp only [DataW.weights, hu, List.mem_cons, List.mem_append]; exact .inr (.inl (lite_all hd n hn)))
theorem lite_len {H : Type} {t e : TypeId} {elems spare : List (DataW H)} (hu : Tryz.prog.underlying t = some (.slice e)) (hb : Tryz.prog.bytesOf e = 8) (h : Lite t (.slice elems spare)) : elems.length ≤ 17592186043904 := by
  have := h ((elems.length + spare.length) * Tryz.prog.bytesOf e) (by simp [DataW.weights, hu])
  rw [hb, reach_is] at this
  omega
theorem lite_part {H : Type} {t : TypeId} {fs : Array Field} {parts : List (DataW H)} {j : Nat} {d : DataW H} {u : TypeId} (hu : Tryz.prog.underlying t = some (.struct fs)) (h : Lite t (.agg parts)) (hj : (fs.toList.map (·.type))[j]? = some u) (hd : parts[j]? = some d) : Lite u d := fun n hn =>
  h n (by simp only [DataW.weights, hu]; exact DataW.weights_mem_each hj hd n hn)

section
variable {H : Type} {enc : TypeId × Value → H} {w : World} {base : Nat} {spare : Nat → Bool} {held : Bool}
set_option maxRecDepth 100000 in
theorem open_nums {t e : TypeId} {fuel : Nat} {v : Value} {x : DataW H × List MemPlace} (hu : Tryz.prog.underlying t = some (.slice e)) (hc : Tryz.prog.cellsOf e = 1) (hb : Tryz.prog.bytesOf e = 8) (hi : Tryz.prog.underlying e = some (.int .i64))
    (h : DataW.trod enc Tryz.prog w base spare held fuel t [v] = some x) (hz : Lite t x.1) : ∃ ls, Ld w v ls ∧ ls.length ≤ 17592186043904 := by
  rcases open_slice1 hu hc h with ⟨hcs, _⟩ | ⟨a, len, cap, m, n, V, D, Pl, hcs, _, hl, hm, hmm, hx, hia⟩
  · simp only [List.cons.injEq, and_true] at hcs
    subst hcs
    exact ⟨[], Ld.nil w, by simp⟩
  · simp only [List.cons.injEq, and_true] at hcs
    subst hcs
    have hle : len ≤ m := by rw [hmm]; split <;> omega
    have hlen2 : len ≤ 17592186043904 := by
      rw [hx] at hz
      have := lite_len hu hb hz
      simpa using this
    have hall : ∀ i, i < len → ∃ y : Int, w.cell? (a.add i) = some (.int .i64 y) := by
      intro i hik
      obtain ⟨hc, ht⟩ := hia i (by omega)
      obtain ⟨y, e0, _, _⟩ := DataW.trod_int hi ht
      simp only [List.cons.injEq, and_true] at e0
      exact ⟨y, by rw [hc, e0]⟩
    let ys : Nat → Int := fun i => if h : i < len then (hall i h).choose else 0
    have hys : ∀ i, i < len → w.cell? (a.add i) = some (.int .i64 (ys i)) := by
      intro i hik
      have := (hall i hik).choose_spec
      simp only [ys, dif_pos hik]
      exact this
    have hlen : ((List.range len).map ys).length = len := by simp
    refine ⟨(List.range len).map ys, ⟨some a, cap, by rw [hlen], by rw [hlen]; exact hl, fun i hi2 => ?_⟩, by rw [hlen]; exact hlen2⟩
    rw [hlen] at hi2
    obtain ⟨b, off, spot⟩ := a
    have hc := hys i hi2
    have hspot : spot = none := by simpa [Addr.add] using World.cell?_spot (hys 0 (by omega))
    subst hspot
    rw [Go.WideShapes.add_plain] at hc
    have hg : ((List.range len).map ys).getD i 0 = ys i := by simp [List.getD, hi2]
    exact ⟨b, off, rfl, World.block_lt_of_cell? w _ hc, by rw [hg]; exact hc⟩

set_option maxRecDepth 100000 in
theorem open_tens {fuel : Nat} {v0 v1 : Value} {x : DataW H × List MemPlace} (h : DataW.trod enc Tryz.prog w base spare held fuel 26 [v0, v1] = some x) (hz : Lite 26 x.1) :
    ∃ ts tds, Ld w v0 ts ∧ Ld w v1 tds ∧ ts.length ≤ 17592186043904 ∧ tds.length ≤ 17592186043904 := by
  obtain ⟨xs, n, _, hx, _, hxl, hf⟩ := DataW.trod_struct Tryz.underlying26 h
  have hxl2 : xs.length = 2 := hxl
  match xs, hxl2 with
  | [x0, x1], _ =>
    have h0 : DataW.trod enc Tryz.prog w base spare held n 23 ((([v0, v1] : List Value).drop 0).take (Tryz.prog.cellsOf 23)) = some x0 := hf 0 _ rfl
    have h1 : DataW.trod enc Tryz.prog w base spare held n 24 ((([v0, v1] : List Value).drop 1).take (Tryz.prog.cellsOf 24)) = some x1 := hf 1 _ rfl
    simp only [cS1, cS5, List.drop_zero, List.drop_succ_cons, List.take_succ_cons, List.take_zero] at h0 h1
    rw [hx] at hz
    obtain ⟨s, hs, ls⟩ := open_nums Tryz.underlying23 cS2 bS2 Tryz.underlying3 h0 (lite_part (j := 0) Tryz.underlying26 hz rfl rfl)
    obtain ⟨t, ht, lt⟩ := open_nums Tryz.underlying24 cS6 bS6 Tryz.underlying2 h1 (lite_part (j := 1) Tryz.underlying26 hz rfl rfl)
    exact ⟨s, t, hs, ht, ls, lt⟩
set_option maxRecDepth 100000 in
set_option maxHeartbeats 2000000 in
theorem open_rk {fuel : Nat} {cs : List Value} {x : DataW H × List MemPlace} (h : DataW.trod enc Tryz.prog w base spare held fuel 67 cs = some x) (hz : Lite 67 x.1) :
    ∃ e : Rk, e.ok w ∧ cs = [e.A, e.X, e.V, .int .i64 e.a] := by
  obtain ⟨xs, n, _, hx, hl, hxl, hf⟩ := DataW.trod_struct Tryz.underlying67 h
  rw [cS8] at hl
  match cs, hl with
  | [v0, v1, v2, v3], _ =>
    have hxl2 : xs.length = 3 := hxl
    match xs, hxl2 with
    | [x0, x1, x2], _ =>
      have h0 : DataW.trod enc Tryz.prog w base spare held n 26 ((([v0, v1, v2, v3] : List Value).drop 0).take (Tryz.prog.cellsOf 26)) = some x0 := hf 0 _ rfl
      have h1 : DataW.trod enc Tryz.prog w base spare held n 23 ((([v0, v1, v2, v3] : List Value).drop 2).take (Tryz.prog.cellsOf 23)) = some x1 := hf 1 _ rfl
      have h2 : DataW.trod enc Tryz.prog w base spare held n 3 ((([v0, v1, v2, v3] : List Value).drop 3).take (Tryz.prog.cellsOf 3)) = some x2 := hf 2 _ rfl
      simp only [cS1, cS2, cS7, List.drop_zero, List.drop_succ_cons, List.take_succ_cons, List.take_zero] at h0 h1 h2
      rw [hx] at hz
      have q := fun (j : Nat) (u : TypeId) (d : DataW H) => lite_part (j := j) (u := u) (d := d) Tryz.underlying67 hz
      obtain ⟨sa, da, hs, hd, l0, l1⟩ := open_tens h0 (q 0 _ _ rfl rfl)
      obtain ⟨ax, hax, lx⟩ := open_nums Tryz.underlying23 cS2 bS2 Tryz.underlying3 h1 (q 1 _ _ rfl rfl)
      obtain ⟨a, ea, _, wa⟩ := DataW.trod_int Tryz.underlying3 h2
      simp only [List.cons.injEq, and_true] at ea
      subst ea
      exact ⟨⟨v0, v1, v2, sa, da, ax, a⟩, ⟨⟨hs, hd, hax⟩, ⟨l0, l1, lx⟩, s_i64 wa⟩, rfl⟩

set_option maxRecDepth 100000 in
set_option maxHeartbeats 2000000 in
/-- The list: nil or empty, or its elements' cells. -/
theorem open_rks {fuel : Nat} {v : Value} {x : DataW H × List MemPlace} (h : DataW.trod enc Tryz.prog w base spare held fuel 65 [v] = some x) (hz : Lite 65 x.1) :
    (∃ o cap, v = .slice o 0 cap) ∨ ∃ (b off len cap : Nat) (es : Nat → Rk), v = .slice (some ⟨b, off, none⟩) len cap ∧ len ≤ 9223372036854775807 ∧ b < w.heap.size ∧
      (∀ i, i < len → RkAt w b (off + i * 4) (es i)) ∧ (∀ i, i < len → (es i).ok w) := by
  rcases open_slice Tryz.underlying65 h with ⟨hcs, _⟩ | ⟨a, len, cap, m, n, D, Pl, hcs, _, hl, hm, hmm, hx, hi⟩
  · left
    simp only [List.cons.injEq, and_true] at hcs
    exact ⟨_, _, hcs⟩
  · simp only [List.cons.injEq, and_true] at hcs
    subst hcs
    by_cases h0 : len = 0
    · subst h0; exact .inl ⟨_, _, rfl⟩
    right
    have hle : len ≤ m := by rw [hmm]; split <;> omega
    rw [cS8] at hi
    rw [hx] at hz
    have hall : ∀ i, i < len → ∃ e : Rk, e.ok w ∧ ∀ j, j < 4 → w.cell? ((a.add (i * 4)).add j) = ([e.A, e.X, e.V, .int .i64 e.a] : List Value)[j]? := by
      intro i hik
      obtain ⟨cs', hc, ht⟩ := hi i (by omega)
      obtain ⟨e, he, rfl⟩ := open_rk ht (lite_in Tryz.underlying65 hz (List.mem_map.2 ⟨i, List.mem_range.2 hik, rfl⟩))
      exact ⟨e, he, (World.cells?_some hc).2.2⟩
    let es : Nat → Rk := fun i => if h : i < len then (hall i h).choose else ⟨.bool false, .bool false, .bool false, [], [], [], 0⟩
    have hes : ∀ i, i < len → (es i).ok w ∧ ∀ j, j < 4 → w.cell? ((a.add (i * 4)).add j) = ([(es i).A, (es i).X, (es i).V, .int .i64 (es i).a] : List Value)[j]? := by
      intro i hik
      have := (hall i hik).choose_spec
      simp only [es, dif_pos hik]
      exact this
    obtain ⟨b, off, spot⟩ := a
    have hspot : spot = none := by
      have := (hes 0 (by omega)).2 0 (by decide)
      simpa [Addr.add] using World.cell?_spot this
    subst hspot
    have cell : ∀ i, i < len → ∀ j, j < 4 → w.cell? ⟨b, off + i * 4 + j, none⟩ = ([(es i).A, (es i).X, (es i).V, .int .i64 (es i).a] : List Value)[j]? := by
      intro i hik j hj
      rw [← (hes i hik).2 j hj, Go.WideShapes.add_plain, Go.WideShapes.add_plain]
    refine ⟨b, off, len, cap, es, rfl, by unfold maxLen at hm; omega, ?_, fun i hik => ?_, fun i hik => (hes i hik).1⟩
    · exact World.block_lt_of_cell? w _ (by have := cell 0 (by omega) 0 (by decide); simpa using this)
    · exact ⟨cell i hik 0 (by decide), cell i hik 1 (by decide), cell i hik 2 (by decide), cell i hik 3 (by decide)⟩
end
end Go.Proofs.YtmafgdinegboeaaGreat
namespace Go.Proofs.YtmafgdinegboeaaGreat
open Go.RowKit Go.Shelf

set_option maxRecDepth 100000 in
set_option maxHeartbeats 8000000 in
theorem rmay8_any (vp vr : Value) (ts tds : List Int) (w : World) (hp : Ld w vp ts) (hr : Ld w vr tds) (lp : ts.length ≤ 1073741824) (lr : tds.length ≤ 17592186044416) :
    Calls Tryz.prog 9 #[.agg #[vp, vr]] w fun e w' => e = .returned (.bool (tnb ts tds)) ∧ Below w.heap.size w w' := by
  have B0 := Lib.hid ((Below.refl w.heap.size w).alloc (Nat.le_refl _) (.cells #[vp, vr] 26))
  have BD : Hid (Below w.heap.size w (w.alloc (.cells #[vp, vr] 26)).drew) := below_drw B0.out 1
  have KM := Lib.hid (fun (W : World) (hW : Below w.heap.size w W) => rmay_any vp ts W (hp.below hW) lp)
  have KD := Lib.hid (fun (W : World) (hW : Below w.heap.size w W) => words_any vr tds W (hr.below hW) (by omega))
  have KC := Lib.hid (fun (hm : may ts = true) (W : World) (hW : Below w.heap.size w W) => (rct_may hm ▸ rcount_any vp ts W (hp.below hW) (may_dms hm) lp : Calls Tryz.prog 46 #[vp] W fun e w' => e = .returned (.int .i64 (prod ts)) ∧ W = w'))
  obtain ⟨op, cp, rfl, _, _⟩ := hp
  obtain ⟨od, cd, rfl, _, _⟩ := hr
  obtain ⟨x0, x1, _⟩ := blk2 (show Blk (w.alloc (.cells #[.slice op ts.length cp, .slice od tds.length cd] 26)).drew w.heap.size 26 _ from Blk.new w _ _)
  cases hm : may ts with
  | false =>
    have E : Hid (tnb ts tds = false) := by unfold tnb; rw [hm]; exact Lib.hid (by simp)
    rw [hm] at KM
    clear hm KC
    go_enter Tryz.func9, Tryz.ntmps9
    go_wp2
    refine wp_region_held_drew (S := (fun W => W.cell? ⟨w.heap.size, 0, none⟩ = some (.slice op ts.length cp) ∧ W.cell? ⟨w.heap.size, 1, none⟩ = some (.slice od tds.length cd))) (by kernel_rfl) ?_ (fun hHeld => ?_)
    · exact ⟨x0, x1⟩
    have hHd := hHeld
    (refine wpAnyH_take (i := 0) (oi := ⟨some 3, _, _, _, _, _⟩) (v := ?v0a) rfl (by kernel_rfl) (by kernel_rfl) (by kernel_rfl) (fun _ _ _ h => h) (Or.inl ⟨by rfl, ?hy0a⟩) (by assumption) ?rest0a; (case hy0a => ((intro w hSw); (try dsimp only at hSw); go_simp; first | done | (with_reducible rfl) | (rw [b1]))))
    (try simp only [Act.put, List.setIfInBounds_toArray, List.set_cons_zero, List.set_cons_succ])
    (refine wpAnyH_take (i := 1) (oi := ⟨some 4, _, _, _, _, _⟩) (v := ?v1a) rfl (by kernel_rfl) (by kernel_rfl) (by kernel_rfl) (fun _ _ _ h => h) (Or.inl ⟨by rfl, ?hy1a⟩) (by assumption) ?rest1a; (case hy1a => ((intro w hSw); (try dsimp only at hSw); go_simp; first | done | (with_reducible rfl) | (rw [b1]))))
    (try simp only [Act.put, List.setIfInBounds_toArray, List.set_cons_zero, List.set_cons_succ])
    refine wpAnyH_ready (rs := [2]) (by kernel_rfl) (by simp) ?_
    refine AllReadyH.cons (o := ⟨some 5, _, _, _, _, _⟩) rfl (fun K hK => ?_) AllReadyH.nil
    go_simp
    (go_at_call 45; (with_reducible refine (KM.out _ BD.out).mono ?_); rintro e w' ⟨rfl, rfl⟩)
    refine hK.out _ _ ?_ (fun hHeld => ?_)
    · (try dsimp only)
      assumption
    clear hK K
    (try simp only [Act.put, List.setIfInBounds_toArray, List.set_cons_zero, List.set_cons_succ])
    (refine wpAnyH_take (i := 3) (oi := ⟨some 6, _, _, _, _, _⟩) (v := ?v3a) rfl (by kernel_rfl) (by kernel_rfl) (by kernel_rfl) (fun _ _ _ h => h) (Or.inl ⟨by rfl, ?hy3a⟩) (by assumption) ?rest3a; (case hy3a => ((intro w hSw); (try dsimp only at hSw); go_simp; first | done | (with_reducible rfl) | (rw [b1]))))
    (try simp only [Act.put, List.setIfInBounds_toArray, List.set_cons_zero, List.set_cons_succ])
    (refine wpAnyH_take (i := 4) (oi := ⟨some 7, _, _, _, _, _⟩) (v := _) rfl (by kernel_rfl) (by kernel_rfl) (by kernel_rfl) (fun _ _ _ h => h) (Or.inr ⟨by rfl, rfl⟩) (by assumption) ?_)
    (try simp only [Act.put, List.setIfInBounds_toArray, List.set_cons_zero, List.set_cons_succ])
    (refine wpAnyH_take (i := 5) (oi := ⟨some 8, _, _, _, _, _⟩) (v := _) rfl (by kernel_rfl) (by kernel_rfl) (by kernel_rfl) (fun _ _ _ h => h) (Or.inr ⟨by rfl, rfl⟩) (by assumption) ?_)
    (try simp only [Act.put, List.setIfInBounds_toArray, List.set_cons_zero, List.set_cons_succ])
    (refine wpAnyH_take (i := 6) (oi := ⟨some 9, _, _, _, _, _⟩) (v := _) rfl (by kernel_rfl) (by kernel_rfl) (by kernel_rfl) (fun _ _ _ h => h) (Or.inr ⟨by rfl, rfl⟩) (by assumption) ?_)
    (try simp only [Act.put, List.setIfInBounds_toArray, List.set_cons_zero, List.set_cons_succ])
    (refine wpAnyH_take (i := 7) (oi := ⟨some 10, _, _, _, _, _⟩) (v := _) rfl (by kernel_rfl) (by kernel_rfl) (by kernel_rfl) (fun _ _ _ h => h) (Or.inr ⟨by rfl, rfl⟩) (by assumption) ?_)
    (try simp only [Act.put, List.setIfInBounds_toArray, List.set_cons_zero, List.set_cons_succ])
    (refine wpAnyH_take (i := 8) (oi := ⟨some 11, _, _, _, _, _⟩) (v := _) rfl (by kernel_rfl) (by kernel_rfl) (by kernel_rfl) (fun _ _ _ h => h) (Or.inr ⟨by rfl, rfl⟩) (by assumption) ?_)
    (try simp only [Act.put, List.setIfInBounds_toArray, List.set_cons_zero, List.set_cons_succ])
    (refine wpAnyH_take (i := 9) (oi := ⟨some 12, _, _, _, _, _⟩) (v := _) rfl (by kernel_rfl) (by kernel_rfl) (by kernel_rfl) (fun _ _ _ h => h) (Or.inr ⟨by rfl, rfl⟩) (by assumption) ?_)
    (try simp only [Act.put, List.setIfInBounds_toArray, List.set_cons_zero, List.set_cons_succ])
    (refine wpAnyH_take (i := 10) (oi := ⟨some 13, _, _, _, _, _⟩) (v := _) rfl (by kernel_rfl) (by kernel_rfl) (by kernel_rfl) (fun _ _ _ h => h) (Or.inr ⟨by rfl, rfl⟩) (by assumption) ?_)
    (try simp only [Act.put, List.setIfInBounds_toArray, List.set_cons_zero, List.set_cons_succ])
    (refine wpAnyH_take (i := 11) (oi := ⟨some 14, _, _, _, _, _⟩) (v := ?v11a) rfl (by kernel_rfl) (by kernel_rfl) (by kernel_rfl) (fun _ _ _ h => h) (Or.inl ⟨by rfl, ?hy11a⟩) (by assumption) ?rest11a; (case hy11a => ((intro w hSw); (try dsimp only at hSw); go_simp; first | done | (with_reducible rfl) | (rw [b1]))))
    (try simp only [Act.put, List.setIfInBounds_toArray, List.set_cons_zero, List.set_cons_succ])
    (refine wpAnyH_take (i := 12) (oi := ⟨some 15, _, _, _, _, _⟩) (v := ?v12a) rfl (by kernel_rfl) (by kernel_rfl) (by kernel_rfl) (fun _ _ _ h => h) (Or.inl ⟨by rfl, ?hy12a⟩) (by assumption) ?rest12a; (case hy12a => ((intro w hSw); (try dsimp only at hSw); go_simp; first | done | (with_reducible rfl) | (rw [b1]))))
    (try simp only [Act.put, List.setIfInBounds_toArray, List.set_cons_zero, List.set_cons_succ])
    (refine wpAnyH_take (i := 13) (oi := ⟨some 16, _, _, _, _, _⟩) (v := _) rfl (by kernel_rfl) (by kernel_rfl) (by kernel_rfl) (fun _ _ _ h => h) (Or.inr ⟨by rfl, rfl⟩) (by assumption) ?_)
    (try simp only [Act.put, List.setIfInBounds_toArray, List.set_cons_zero, List.set_cons_succ])
    (refine wpAnyH_take (i := 14) (oi := ⟨some 17, _, _, _, _, _⟩) (v := _) rfl (by kernel_rfl) (by kernel_rfl) (by kernel_rfl) (fun _ _ _ h => h) (Or.inr ⟨by rfl, rfl⟩) (by assumption) ?_)
    (try simp only [Act.put, List.setIfInBounds_toArray, List.set_cons_zero, List.set_cons_succ])
    (refine wpAnyH_take (i := 15) (oi := ⟨some 18, _, _, _, _, _⟩) (v := _) rfl (by kernel_rfl) (by kernel_rfl) (by kernel_rfl) (fun _ _ _ h => h) (Or.inr ⟨by rfl, rfl⟩) (by assumption) ?_)
    (try simp only [Act.put, List.setIfInBounds_toArray, List.set_cons_zero, List.set_cons_succ])
    (refine wpAnyH_take (i := 16) (oi := ⟨some 19, _, _, _, _, _⟩) (v := ?v16a) rfl (by kernel_rfl) (by kernel_rfl) (by kernel_rfl) (fun _ _ _ h => h) (Or.inl ⟨by rfl, ?hy16a⟩) (by assumption) ?rest16a; (case hy16a => ((intro w hSw); (try dsimp only at hSw); go_simp; first | done | (with_reducible rfl) | (rw [b1]))))
    (try simp only [Act.put, List.setIfInBounds_toArray, List.set_cons_zero, List.set_cons_succ])
    (refine wpAnyH_take (i := 17) (oi := ⟨some 2, _, _, _, _, _⟩) (v := ?v17a) rfl (by kernel_rfl) (by kernel_rfl) (by kernel_rfl) (fun _ _ _ h => h) (Or.inl ⟨by rfl, ?hy17a⟩) (by assumption) ?rest17a; (case hy17a => ((intro w hSw); (try dsimp only at hSw); go_simp; first | done | (with_reducible rfl) | (rw [b1]))))
    (try simp only [Act.put, List.setIfInBounds_toArray, List.set_cons_zero, List.set_cons_succ])
    refine wpAnyH_done (by kernel_rfl) ?_ _
    go_wp2
    go_ret
    exact ⟨by rw [E.out]; rfl, BD.out⟩
  | true =>
    have KC2 := Lib.hid (KC.out hm)
    have E0 : Hid (tnb ts tds = (decide ((tds.length : Int) = prod ts) && wds tds)) := by unfold tnb; rw [hm]; exact Lib.hid (by simp)
    rw [hm] at KM
    clear hm KC
    generalize prod ts = n at *
    by_cases q : (tds.length : Int) = n
    · have b1 : ((tds.length : Int) == n) = true := by simpa using q
      have E : Hid (tnb ts tds = wds tds) := by rw [Hid, E0.out, decide_eq_true q, Bool.true_and]
      clear q E0
      go_enter Tryz.func9, Tryz.ntmps9
      go_wp2
      refine wp_region_held_drew (S := (fun W => W.cell? ⟨w.heap.size, 0, none⟩ = some (.slice op ts.length cp) ∧ W.cell? ⟨w.heap.size, 1, none⟩ = some (.slice od tds.length cd))) (by kernel_rfl) ?_ (fun hHeld => ?_)
      · exact ⟨x0, x1⟩
      have hHd := hHeld
      (refine wpAnyH_take (i := 0) (oi := ⟨some 3, _, _, _, _, _⟩) (v := ?v0b) rfl (by kernel_rfl) (by kernel_rfl) (by kernel_rfl) (fun _ _ _ h => h) (Or.inl ⟨by rfl, ?hy0b⟩) (by assumption) ?rest0b; (case hy0b => ((intro w hSw); (try dsimp only at hSw); go_simp; first | done | (with_reducible rfl) | (rw [b1]))))
      (try simp only [Act.put, List.setIfInBounds_toArray, List.set_cons_zero, List.set_cons_succ])
      (refine wpAnyH_take (i := 1) (oi := ⟨some 4, _, _, _, _, _⟩) (v := ?v1b) rfl (by kernel_rfl) (by kernel_rfl) (by kernel_rfl) (fun _ _ _ h => h) (Or.inl ⟨by rfl, ?hy1b⟩) (by assumption) ?rest1b; (case hy1b => ((intro w hSw); (try dsimp only at hSw); go_simp; first | done | (with_reducible rfl) | (rw [b1]))))
      (try simp only [Act.put, List.setIfInBounds_toArray, List.set_cons_zero, List.set_cons_succ])
      refine wpAnyH_ready (rs := [2]) (by kernel_rfl) (by simp) ?_
      refine AllReadyH.cons (o := ⟨some 5, _, _, _, _, _⟩) rfl (fun K hK => ?_) AllReadyH.nil
      go_simp
      (go_at_call 45; (with_reducible refine (KM.out _ BD.out).mono ?_); rintro e w' ⟨rfl, rfl⟩)
      refine hK.out _ _ ?_ (fun hHeld => ?_)
      · (try dsimp only)
        assumption
      clear hK K
      (try simp only [Act.put, List.setIfInBounds_toArray, List.set_cons_zero, List.set_cons_succ])
      (refine wpAnyH_take (i := 3) (oi := ⟨some 6, _, _, _, _, _⟩) (v := ?v3b) rfl (by kernel_rfl) (by kernel_rfl) (by kernel_rfl) (fun _ _ _ h => h) (Or.inl ⟨by rfl, ?hy3b⟩) (by assumption) ?rest3b; (case hy3b => ((intro w hSw); (try dsimp only at hSw); go_simp; first | done | (with_reducible rfl) | (rw [b1]))))
      (try simp only [Act.put, List.setIfInBounds_toArray, List.set_cons_zero, List.set_cons_succ])
      (refine wpAnyH_take (i := 4) (oi := ⟨some 7, _, _, _, _, _⟩) (v := ?v4b) rfl (by kernel_rfl) (by kernel_rfl) (by kernel_rfl) (fun _ _ _ h => h) (Or.inl ⟨by rfl, ?hy4b⟩) (by assumption) ?rest4b; (case hy4b => ((intro w hSw); (try dsimp only at hSw); go_simp; first | done | (with_reducible rfl) | (rw [b1]))))
      (try simp only [Act.put, List.setIfInBounds_toArray, List.set_cons_zero, List.set_cons_succ])
      (refine wpAnyH_take (i := 5) (oi := ⟨some 8, _, _, _, _, _⟩) (v := ?v5b) rfl (by kernel_rfl) (by kernel_rfl) (by kernel_rfl) (fun _ _ _ h => h) (Or.inl ⟨by rfl, ?hy5b⟩) (by assumption) ?rest5b; (case hy5b => ((intro w hSw); (try dsimp only at hSw); go_simp; first | done | (with_reducible rfl) | (rw [b1]))))
      (try simp only [Act.put, List.setIfInBounds_toArray, List.set_cons_zero, List.set_cons_succ])
      (refine wpAnyH_take (i := 6) (oi := ⟨some 9, _, _, _, _, _⟩) (v := ?v6b) rfl (by kernel_rfl) (by kernel_rfl) (by kernel_rfl) (fun _ _ _ h => h) (Or.inl ⟨by rfl, ?hy6b⟩) (by assumption) ?rest6b; (case hy6b => ((intro w hSw); (try dsimp only at hSw); go_simp; first | done | (with_reducible rfl) | (rw [b1]))))
      (try simp only [Act.put, List.setIfInBounds_toArray, List.set_cons_zero, List.set_cons_succ])
      (refine wpAnyH_take (i := 7) (oi := ⟨some 10, _, _, _, _, _⟩) (v := ?v7b) rfl (by kernel_rfl) (by kernel_rfl) (by kernel_rfl) (fun _ _ _ h => h) (Or.inl ⟨by rfl, ?hy7b⟩) (by assumption) ?rest7b; (case hy7b => ((intro w hSw); (try dsimp only at hSw); go_simp; first | done | (with_reducible rfl) | (rw [b1]))))
      (try simp only [Act.put, List.setIfInBounds_toArray, List.set_cons_zero, List.set_cons_succ])
      (refine wpAnyH_take (i := 8) (oi := ⟨some 11, _, _, _, _, _⟩) (v := ?v8b) rfl (by kernel_rfl) (by kernel_rfl) (by kernel_rfl) (fun _ _ _ h => h) (Or.inl ⟨by rfl, ?hy8b⟩) (by assumption) ?rest8b; (case hy8b => ((intro w hSw); (try dsimp only at hSw); go_simp; first | done | (with_reducible rfl) | (rw [b1]))))
      (try simp only [Act.put, List.setIfInBounds_toArray, List.set_cons_zero, List.set_cons_succ])
      refine wpAnyH_ready (rs := [9]) (by kernel_rfl) (by simp) ?_
      refine AllReadyH.cons (o := ⟨some 12, _, _, _, _, _⟩) rfl (fun K hK => ?_) AllReadyH.nil
      go_simp
      (go_at_call 46; (with_reducible refine (KC2.out _ BD.out).mono ?_); rintro e w' ⟨rfl, rfl⟩)
      refine hK.out _ _ ?_ (fun hHeld => ?_)
      · (try dsimp only)
        assumption
      clear hK K
      (try simp only [Act.put, List.setIfInBounds_toArray, List.set_cons_zero, List.set_cons_succ])
      (refine wpAnyH_take (i := 10) (oi := ⟨some 13, _, _, _, _, _⟩) (v := .bool true) rfl (by kernel_rfl) (by kernel_rfl) (by kernel_rfl) (fun _ _ _ h => h) (Or.inl ⟨by rfl, ?hy10b⟩) (by assumption) ?rest10b; (case hy10b => ((intro w hSw); (try dsimp only at hSw); go_simp; first | done | (with_reducible rfl) | (rw [b1]))))
      (try simp only [Act.put, List.setIfInBounds_toArray, List.set_cons_zero, List.set_cons_succ])
      (refine wpAnyH_take (i := 11) (oi := ⟨some 14, _, _, _, _, _⟩) (v := ?v11b) rfl (by kernel_rfl) (by kernel_rfl) (by kernel_rfl) (fun _ _ _ h => h) (Or.inl ⟨by rfl, ?hy11b⟩) (by assumption) ?rest11b; (case hy11b => ((intro w hSw); (try dsimp only at hSw); go_simp; first | done | (with_reducible rfl) | (rw [b1]))))
      (try simp only [Act.put, List.setIfInBounds_toArray, List.set_cons_zero, List.set_cons_succ])
      (refine wpAnyH_take (i := 12) (oi := ⟨some 15, _, _, _, _, _⟩) (v := ?v12b) rfl (by kernel_rfl) (by kernel_rfl) (by kernel_rfl) (fun _ _ _ h => h) (Or.inl ⟨by rfl, ?hy12b⟩) (by assumption) ?rest12b; (case hy12b => ((intro w hSw); (try dsimp only at hSw); go_simp; first | done | (with_reducible rfl) | (rw [b1]))))
      (try simp only [Act.put, List.setIfInBounds_toArray, List.set_cons_zero, List.set_cons_succ])
      (refine wpAnyH_take (i := 13) (oi := ⟨some 16, _, _, _, _, _⟩) (v := ?v13b) rfl (by kernel_rfl) (by kernel_rfl) (by kernel_rfl) (fun _ _ _ h => h) (Or.inl ⟨by rfl, ?hy13b⟩) (by assumption) ?rest13b; (case hy13b => ((intro w hSw); (try dsimp only at hSw); go_simp; first | done | (with_reducible rfl) | (rw [b1]))))
      (try simp only [Act.put, List.setIfInBounds_toArray, List.set_cons_zero, List.set_cons_succ])
      (refine wpAnyH_take (i := 14) (oi := ⟨some 17, _, _, _, _, _⟩) (v := ?v14b) rfl (by kernel_rfl) (by kernel_rfl) (by kernel_rfl) (fun _ _ _ h => h) (Or.inl ⟨by rfl, ?hy14b⟩) (by assumption) ?rest14b; (case hy14b => ((intro w hSw); (try dsimp only at hSw); go_simp; first | done | (with_reducible rfl) | (rw [b1]))))
      (try simp only [Act.put, List.setIfInBounds_toArray, List.set_cons_zero, List.set_cons_succ])
      refine wpAnyH_ready (rs := [15]) (by kernel_rfl) (by simp) ?_
      refine AllReadyH.cons (o := ⟨some 18, _, _, _, _, _⟩) rfl (fun K hK => ?_) AllReadyH.nil
      go_simp
      (go_at_call 47; (with_reducible refine (KD.out _ BD.out).mono ?_); rintro e w' ⟨rfl, rfl⟩)
      refine hK.out _ _ ?_ (fun hHeld => ?_)
      · (try dsimp only)
        assumption
      clear hK K
      (try simp only [Act.put, List.setIfInBounds_toArray, List.set_cons_zero, List.set_cons_succ])
      (refine wpAnyH_take (i := 16) (oi := ⟨some 19, _, _, _, _, _⟩) (v := ?v16b) rfl (by kernel_rfl) (by kernel_rfl) (by kernel_rfl) (fun _ _ _ h => h) (Or.inl ⟨by rfl, ?hy16b⟩) (by assumption) ?rest16b; (case hy16b => ((intro w hSw); (try dsimp only at hSw); go_simp; first | done | (with_reducible rfl) | (rw [b1]))))
      (try simp only [Act.put, List.setIfInBounds_toArray, List.set_cons_zero, List.set_cons_succ])
      (refine wpAnyH_take (i := 17) (oi := ⟨some 2, _, _, _, _, _⟩) (v := ?v17b) rfl (by kernel_rfl) (by kernel_rfl) (by kernel_rfl) (fun _ _ _ h => h) (Or.inl ⟨by rfl, ?hy17b⟩) (by assumption) ?rest17b; (case hy17b => ((intro w hSw); (try dsimp only at hSw); go_simp; first | done | (with_reducible rfl) | (rw [b1]))))
      (try simp only [Act.put, List.setIfInBounds_toArray, List.set_cons_zero, List.set_cons_succ])
      refine wpAnyH_done (by kernel_rfl) ?_ _
      go_wp2
      go_ret
      exact ⟨by rw [E.out]; rfl, BD.out⟩
    · have b1 : ((tds.length : Int) == n) = false := by simpa using q
      have E : Hid (tnb ts tds = false) := by rw [Hid, E0.out, decide_eq_false q, Bool.false_and]
      clear q E0
      go_enter Tryz.func9, Tryz.ntmps9
      go_wp2
      refine wp_region_held_drew (S := (fun W => W.cell? ⟨w.heap.size, 0, none⟩ = some (.slice op ts.length cp) ∧ W.cell? ⟨w.heap.size, 1, none⟩ = some (.slice od tds.length cd))) (by kernel_rfl) ?_ (fun hHeld => ?_)
      · exact ⟨x0, x1⟩
      have hHd := hHeld
      (refine wpAnyH_take (i := 0) (oi := ⟨some 3, _, _, _, _, _⟩) (v := ?v0c) rfl (by kernel_rfl) (by kernel_rfl) (by kernel_rfl) (fun _ _ _ h => h) (Or.inl ⟨by rfl, ?hy0c⟩) (by assumption) ?rest0c; (case hy0c => ((intro w hSw); (try dsimp only at hSw); go_simp; first | done | (with_reducible rfl) | (rw [b1]))))
      (try simp only [Act.put, List.setIfInBounds_toArray, List.set_cons_zero, List.set_cons_succ])
      (refine wpAnyH_take (i := 1) (oi := ⟨some 4, _, _, _, _, _⟩) (v := ?v1c) rfl (by kernel_rfl) (by kernel_rfl) (by kernel_rfl) (fun _ _ _ h => h) (Or.inl ⟨by rfl, ?hy1c⟩) (by assumption) ?rest1c; (case hy1c => ((intro w hSw); (try dsimp only at hSw); go_simp; first | done | (with_reducible rfl) | (rw [b1]))))
      (try simp only [Act.put, List.setIfInBounds_toArray, List.set_cons_zero, List.set_cons_succ])
      refine wpAnyH_ready (rs := [2]) (by kernel_rfl) (by simp) ?_
      refine AllReadyH.cons (o := ⟨some 5, _, _, _, _, _⟩) rfl (fun K hK => ?_) AllReadyH.nil
      go_simp
      (go_at_call 45; (with_reducible refine (KM.out _ BD.out).mono ?_); rintro e w' ⟨rfl, rfl⟩)
      refine hK.out _ _ ?_ (fun hHeld => ?_)
      · (try dsimp only)
        assumption
      clear hK K
      (try simp only [Act.put, List.setIfInBounds_toArray, List.set_cons_zero, List.set_cons_succ])
      (refine wpAnyH_take (i := 3) (oi := ⟨some 6, _, _, _, _, _⟩) (v := ?v3c) rfl (by kernel_rfl) (by kernel_rfl) (by kernel_rfl) (fun _ _ _ h => h) (Or.inl ⟨by rfl, ?hy3c⟩) (by assumption) ?rest3c; (case hy3c => ((intro w hSw); (try dsimp only at hSw); go_simp; first | done | (with_reducible rfl) | (rw [b1]))))
      (try simp only [Act.put, List.setIfInBounds_toArray, List.set_cons_zero, List.set_cons_succ])
      (refine wpAnyH_take (i := 4) (oi := ⟨some 7, _, _, _, _, _⟩) (v := ?v4c) rfl (by kernel_rfl) (by kernel_rfl) (by kernel_rfl) (fun _ _ _ h => h) (Or.inl ⟨by rfl, ?hy4c⟩) (by assumption) ?rest4c; (case hy4c => ((intro w hSw); (try dsimp only at hSw); go_simp; first | done | (with_reducible rfl) | (rw [b1]))))
      (try simp only [Act.put, List.setIfInBounds_toArray, List.set_cons_zero, List.set_cons_succ])
      (refine wpAnyH_take (i := 5) (oi := ⟨some 8, _, _, _, _, _⟩) (v := ?v5c) rfl (by kernel_rfl) (by kernel_rfl) (by kernel_rfl) (fun _ _ _ h => h) (Or.inl ⟨by rfl, ?hy5c⟩) (by assumption) ?rest5c; (case hy5c => ((intro w hSw); (try dsimp only at hSw); go_simp; first | done | (with_reducible rfl) | (rw [b1]))))
      (try simp only [Act.put, List.setIfInBounds_toArray, List.set_cons_zero, List.set_cons_succ])
      (refine wpAnyH_take (i := 6) (oi := ⟨some 9, _, _, _, _, _⟩) (v := ?v6c) rfl (by kernel_rfl) (by kernel_rfl) (by kernel_rfl) (fun _ _ _ h => h) (Or.inl ⟨by rfl, ?hy6c⟩) (by assumption) ?rest6c; (case hy6c => ((intro w hSw); (try dsimp only at hSw); go_simp; first | done | (with_reducible rfl) | (rw [b1]))))
      (try simp only [Act.put, List.setIfInBounds_toArray, List.set_cons_zero, List.set_cons_succ])
      (refine wpAnyH_take (i := 7) (oi := ⟨some 10, _, _, _, _, _⟩) (v := ?v7c) rfl (by kernel_rfl) (by kernel_rfl) (by kernel_rfl) (fun _ _ _ h => h) (Or.inl ⟨by rfl, ?hy7c⟩) (by assumption) ?rest7c; (case hy7c => ((intro w hSw); (try dsimp only at hSw); go_simp; first | done | (with_reducible rfl) | (rw [b1]))))
      (try simp only [Act.put, List.setIfInBounds_toArray, List.set_cons_zero, List.set_cons_succ])
      (refine wpAnyH_take (i := 8) (oi := ⟨some 11, _, _, _, _, _⟩) (v := ?v8c) rfl (by kernel_rfl) (by kernel_rfl) (by kernel_rfl) (fun _ _ _ h => h) (Or.inl ⟨by rfl, ?hy8c⟩) (by assumption) ?rest8c; (case hy8c => ((intro w hSw); (try dsimp only at hSw); go_simp; first | done | (with_reducible rfl) | (rw [b1]))))
      (try simp only [Act.put, List.setIfInBounds_toArray, List.set_cons_zero, List.set_cons_succ])
      refine wpAnyH_ready (rs := [9]) (by kernel_rfl) (by simp) ?_
      refine AllReadyH.cons (o := ⟨some 12, _, _, _, _, _⟩) rfl (fun K hK => ?_) AllReadyH.nil
      go_simp
      (go_at_call 46; (with_reducible refine (KC2.out _ BD.out).mono ?_); rintro e w' ⟨rfl, rfl⟩)
      refine hK.out _ _ ?_ (fun hHeld => ?_)
      · (try dsimp only)
        assumption
      clear hK K
      (try simp only [Act.put, List.setIfInBounds_toArray, List.set_cons_zero, List.set_cons_succ])
      (refine wpAnyH_take (i := 10) (oi := ⟨some 13, _, _, _, _, _⟩) (v := .bool false) rfl (by kernel_rfl) (by kernel_rfl) (by kernel_rfl) (fun _ _ _ h => h) (Or.inl ⟨by rfl, ?hy10c⟩) (by assumption) ?rest10c; (case hy10c => ((intro w hSw); (try dsimp only at hSw); go_simp; first | done | (with_reducible rfl) | (rw [b1]))))
      (try simp only [Act.put, List.setIfInBounds_toArray, List.set_cons_zero, List.set_cons_succ])
      (refine wpAnyH_take (i := 11) (oi := ⟨some 14, _, _, _, _, _⟩) (v := ?v11c) rfl (by kernel_rfl) (by kernel_rfl) (by kernel_rfl) (fun _ _ _ h => h) (Or.inl ⟨by rfl, ?hy11c⟩) (by assumption) ?rest11c; (case hy11c => ((intro w hSw); (try dsimp only at hSw); go_simp; first | done | (with_reducible rfl) | (rw [b1]))))
      (try simp only [Act.put, List.setIfInBounds_toArray, List.set_cons_zero, List.set_cons_succ])
      (refine wpAnyH_take (i := 12) (oi := ⟨some 15, _, _, _, _, _⟩) (v := ?v12c) rfl (by kernel_rfl) (by kernel_rfl) (by kernel_rfl) (fun _ _ _ h => h) (Or.inl ⟨by rfl, ?hy12c⟩) (by assumption) ?rest12c; (case hy12c => ((intro w hSw); (try dsimp only at hSw); go_simp; first | done | (with_reducible rfl) | (rw [b1]))))
      (try simp only [Act.put, List.setIfInBounds_toArray, List.set_cons_zero, List.set_cons_succ])
      (refine wpAnyH_take (i := 13) (oi := ⟨some 16, _, _, _, _, _⟩) (v := _) rfl (by kernel_rfl) (by kernel_rfl) (by kernel_rfl) (fun _ _ _ h => h) (Or.inr ⟨by rfl, rfl⟩) (by assumption) ?_)
      (try simp only [Act.put, List.setIfInBounds_toArray, List.set_cons_zero, List.set_cons_succ])
      (refine wpAnyH_take (i := 14) (oi := ⟨some 17, _, _, _, _, _⟩) (v := _) rfl (by kernel_rfl) (by kernel_rfl) (by kernel_rfl) (fun _ _ _ h => h) (Or.inr ⟨by rfl, rfl⟩) (by assumption) ?_)
      (try simp only [Act.put, List.setIfInBounds_toArray, List.set_cons_zero, List.set_cons_succ])
      (refine wpAnyH_take (i := 15) (oi := ⟨some 18, _, _, _, _, _⟩) (v := _) rfl (by kernel_rfl) (by kernel_rfl) (by kernel_rfl) (fun _ _ _ h => h) (Or.inr ⟨by rfl, rfl⟩) (by assumption) ?_)
      (try simp only [Act.put, List.setIfInBounds_toArray, List.set_cons_zero, List.set_cons_succ])
      (refine wpAnyH_take (i := 16) (oi := ⟨some 19, _, _, _, _, _⟩) (v := ?v16c) rfl (by kernel_rfl) (by kernel_rfl) (by kernel_rfl) (fun _ _ _ h => h) (Or.inl ⟨by rfl, ?hy16c⟩) (by assumption) ?rest16c; (case hy16c => ((intro w hSw); (try dsimp only at hSw); go_simp; first | done | (with_reducible rfl) | (rw [b1]))))
      (try simp only [Act.put, List.setIfInBounds_toArray, List.set_cons_zero, List.set_cons_succ])
      (refine wpAnyH_take (i := 17) (oi := ⟨some 2, _, _, _, _, _⟩) (v := ?v17c) rfl (by kernel_rfl) (by kernel_rfl) (by kernel_rfl) (fun _ _ _ h => h) (Or.inl ⟨by rfl, ?hy17c⟩) (by assumption) ?rest17c; (case hy17c => ((intro w hSw); (try dsimp only at hSw); go_simp; first | done | (with_reducible rfl) | (rw [b1]))))
      (try simp only [Act.put, List.setIfInBounds_toArray, List.set_cons_zero, List.set_cons_succ])
      refine wpAnyH_done (by kernel_rfl) ?_ _
      go_wp2
      go_ret
      exact ⟨by rw [E.out]; rfl, BD.out⟩
end Go.Proofs.YtmafgdinegboeaaGreat
