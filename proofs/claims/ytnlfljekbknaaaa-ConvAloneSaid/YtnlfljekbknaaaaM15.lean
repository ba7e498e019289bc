/-
  package window: where the numbers do not go together there is no window.
  package conv: Conv of any two tensors and numbers: it refuses, or all goes together.
  package conv: Conv, where all goes together.
  package conv: what one example says with one kernel.
  package conv: one answer of Conv for all, and what each example says with each kernel.
  What the laws of package conv play: lists, places, a kernel's dimensions.
  The reference's word on a convolution's numbers.
  What the laws of package conv play: lists that are not too long, places that are not too many.
-/
import Derived.Test.YtnlfljekbknaaaaM01
import Derived.Test.YtnlfljekbknaaaaM02
import Derived.Test.YtnlfljekbknaaaaM05
import Derived.Test.YtnlfljekbknaaaaM06
import Derived.Test.YtnlfljekbknaaaaM07
import Derived.Test.YtnlfljekbknaaaaM10
import Derived.Test.YtnlfljekbknaaaaM11
import Derived.Test.YtnlfljekbknaaaaM12
import Derived.Test.YtnlfljekbknaaaaM13
import Derived.Test.YtnlfljekbknaaaaM14
namespace Go.Proofs.Ytnlfljekbknaaaa
open Go Go.RowKit Go.Shelf
attribute [local go_sem] Oper.semAt_some
set_option maxRecDepth 100000 in
set_option maxHeartbeats 4000000 in
theorem wof_no (os ok oq ost op ol : Option Addr) (zs zk zq zst zp zl cs ck cq cst cp cl : Nat) (w : World) (h : (zk : Int) ≠ (zs : Int) - 2 ∨ (zk : Int) = (zs : Int) - 2 ∧ (zst : Int) ≠ (zs : Int) - 2) (b : zs ≤ 17592186044416 ∧ zk ≤ 17592186044416 ∧ zst ≤ 17592186044416) :
    Calls Try.prog 54 #[.slice os zs cs, .slice ok zk ck, .agg #[.slice oq zq cq, .slice ost zst cst, .slice op zp cp, .slice ol zl cl]] w (NoW w) := by
  have e1 : wrap64 ((zs : Int) - 2) = (zs : Int) - 2 := IntWalk.wrap64_in _ (by omega)
  obtain ⟨w2, hw2⟩ : ∃ w2, w2 = (w.alloc (.cells #[.slice oq zq cq, .slice ost zst cst, .slice op zp cp, .slice ol zl cl] 28)).alloc (.cells #[.slice none 0 0, .int .i64 0, .int .i64 0, .int .i64 0, .int .i64 0, .int .i64 0, .int .i64 0, .int .i64 0, .int .i64 0, .int .i64 0, .int .i64 0, .int .i64 0, .int .i64 0, .int .i64 0, .int .i64 0, .int .i64 0] 86) := ⟨_, rfl⟩
  have B2 : Hid (Below w.heap.size w w2) := Lib.hid (by rw [hw2]; exact ((Below.refl _ _).alloc (Nat.le_refl _) _).alloc (by simp) _)
  have Q0 : Hid (Blk w2 w.heap.size 28 #[.slice oq zq cq, .slice ost zst cst, .slice op zp cp, .slice ol zl cl]) := Lib.hid (by rw [hw2]; exact (Blk.new w _ _).alloc _)
  have Q1 : Hid (Blk w2 (w.heap.size + 1) 86 #[.slice none 0 0, .int .i64 0, .int .i64 0, .int .i64 0, .int .i64 0, .int .i64 0, .int .i64 0, .int .i64 0, .int .i64 0, .int .i64 0, .int .i64 0, .int .i64 0, .int .i64 0, .int .i64 0, .int .i64 0, .int .i64 0]) := Lib.hid (by rw [hw2]; exact blk_new1 w _ _ _)
  have HW2 := Lib.hid hw2
  obtain ⟨y0, y1, y2, y3⟩ := blk4c Q0.out
  have hz1 : zs ≤ 17592186044416 := b.1
  have hz2 : zk ≤ 17592186044416 := b.2.1
  have hz3 : zst ≤ 17592186044416 := b.2.2
  clear hw2 b
  clear e1
  rcases h with h | ⟨h, h2⟩
  · have d1 : ((zk : Int) == (zs : Int) - 2) = false := by rw [beq_eq_false_iff_ne]; exact h
    have d2 : ((zk : Int) != (zs : Int) - 2) = true := by rw [bne_iff_ne]; exact h
    have d3 : ¬ (zk : Int) = (zs : Int) - 2 := h
    clear h
    go_enter Try.func54, Try.ntmps54
    go_upto_region 2 with fail
    rw [← HW2.out]
    go_wp2_with (refine wpList_store_row rfl 86 _ _ (by rfl) (w.heap.size + 1) #[.slice none 0 0, .int .i64 0, .int .i64 0, .int .i64 0, .int .i64 0, .int .i64 0, .int .i64 0, .int .i64 0, .int .i64 0, .int .i64 0, .int .i64 0, .int .i64 0, .int .i64 0, .int .i64 0, .int .i64 0, .int .i64 0] (by rfl) (by rfl) 86 _ Q1.out (by kernel_rfl) rfl (by simp [Value.oneCell']) ?_)
    have QN := setrow_blk Q1.out #[.slice none 0 0, .int .i64 0, .int .i64 0, .int .i64 0, .int .i64 0, .int .i64 0, .int .i64 0, .int .i64 0, .int .i64 0, .int .i64 0, .int .i64 0, .int .i64 0, .int .i64 0, .int .i64 0, .int .i64 0, .int .i64 0]
    refine bodyPost_ret (v := .tuple #[.agg #[.slice none 0 0, .int .i64 0, .int .i64 0, .int .i64 0, .int .i64 0, .int .i64 0, .int .i64 0, .int .i64 0, .int .i64 0, .int .i64 0, .int .i64 0, .int .i64 0, .int .i64 0, .int .i64 0, .int .i64 0, .int .i64 0], .int .i64 2]) (result_row _ _ rfl rfl rfl QN rfl Try.underlying86 (by kernel_rfl)) rfl ?_
    exact ⟨rfl, setrow_below B2.out (Nat.le_succ _) (Nat.le_refl _) _⟩
  · have d1 : ((zst : Int) == (zs : Int) - 2) = false := by rw [beq_eq_false_iff_ne]; exact h2
    have d2 : ((zst : Int) != (zs : Int) - 2) = true := by rw [bne_iff_ne]; exact h2
    have d3 : ¬ (zst : Int) = (zs : Int) - 2 := h2
    have d4 : ((zk : Int) == (zs : Int) - 2) = true := by rw [beq_iff_eq]; exact h
    have d5 : ((zk : Int) != (zs : Int) - 2) = false := by rw [bne_eq_false_iff_eq]; exact h
    have HH := Lib.hid h
    clear h h2
    go_enter Try.func54, Try.ntmps54
    go_upto_region 2 with fail
    rw [← HW2.out]
    go_wp2_with (refine wpList_store_row rfl 86 _ _ (by rfl) (w.heap.size + 1) #[.slice none 0 0, .int .i64 0, .int .i64 0, .int .i64 0, .int .i64 0, .int .i64 0, .int .i64 0, .int .i64 0, .int .i64 0, .int .i64 0, .int .i64 0, .int .i64 0, .int .i64 0, .int .i64 0, .int .i64 0, .int .i64 0] (by rfl) (by rfl) 86 _ Q1.out (by kernel_rfl) rfl (by simp [Value.oneCell']) ?_)
    have QN := setrow_blk Q1.out #[.slice none 0 0, .int .i64 0, .int .i64 0, .int .i64 0, .int .i64 0, .int .i64 0, .int .i64 0, .int .i64 0, .int .i64 0, .int .i64 0, .int .i64 0, .int .i64 0, .int .i64 0, .int .i64 0, .int .i64 0, .int .i64 0]
    refine bodyPost_ret (v := .tuple #[.agg #[.slice none 0 0, .int .i64 0, .int .i64 0, .int .i64 0, .int .i64 0, .int .i64 0, .int .i64 0, .int .i64 0, .int .i64 0, .int .i64 0, .int .i64 0, .int .i64 0, .int .i64 0, .int .i64 0, .int .i64 0, .int .i64 0], .int .i64 2]) (result_row _ _ rfl rfl rfl QN rfl Try.underlying86 (by kernel_rfl)) rfl ?_
    exact ⟨rfl, setrow_below B2.out (Nat.le_succ _) (Nat.le_refl _) _⟩
end Go.Proofs.Ytnlfljekbknaaaa
namespace Go.Proofs.Ytnlfljekbknaaaa
open Go Go.RowKit Go.Shelf
attribute [local go_sem] Oper.semAt_some
theorem list3 {l : List Int} (h : l.length = 3) : l = [l.getD 0 0, l.getD 1 0, l.getD 2 0] := by
  match l, h with
  | [x, y, z], _ => rfl
theorem list4 {l : List Int} (h : l.length = 4) : l = [l.getD 0 0, l.getD 1 0, l.getD 2 0, l.getD 3 0] := by
  match l, h with
  | [x, y, z, u], _ => rfl
theorem list1 {l : List Int} (h : l.length = 1) : l = [l.getD 0 0] := by
  match l, h with
  | [x], _ => rfl
theorem list2 {l : List Int} (h : l.length = 2) : l = [l.getD 0 0, l.getD 1 0] := by
  match l, h with
  | [x, y], _ => rfl
/-- What Conv is told: two tensors, lists, fraction bits. -/
def CvIn (w : World) (vs vd vt ve vq v1 v2 v3 : Value) (a da b db ks s p d : List Int) (f : Nat) : Prop :=
  (Ld w vs a ∧ Ld w vd da ∧ Ld w vt b ∧ Ld w ve db ∧ Ld w vq ks ∧ Ld w v1 s ∧ Ld w v2 p ∧ Ld w v3 d) ∧ (tnb a da = true ∧ tnb b db = true ∧ fb (f : Nat) = true) ∧ ks.length ≤ 17592186044416 ∧ s.length ≤ 17592186044416 ∧ p.length ≤ 17592186044416 ∧ d.length ≤ 17592186044416
/-- All goes together: of one dimension, or of two. -/
def CvFit (ks s p d a b Pl : List Int) (NX NK CH Ct Tp Wd K0 K1 : Nat) (l0 n0 s0 p0 d0 l1 n1 s1 p1 d1 : Int) : Prop :=
  ks.length = 0 ∧ ((Pl = [n1] ∧ a = [(NX : Int), (CH : Int), l1] ∧ b = [(NK : Int), (CH : Int), (K1 : Int)] ∧ s = [s1] ∧ p = [p1] ∧ d = [d1] ∧ l0 = 1 ∧ n0 = 1 ∧ K0 = 1 ∧ s0 = 1 ∧ p0 = 0 ∧ d0 = 1) ∨ (Pl = [n0, n1] ∧ a = [(NX : Int), (CH : Int), l0, l1] ∧ b = [(NK : Int), (CH : Int), (K0 : Int), (K1 : Int)] ∧ s = [s0, s1] ∧ p = [p0, p1] ∧ d = [d0, d1])) ∧
  ((1 ≤ l0 ∧ l0 ≤ 4096) ∧ (1 ≤ (K0 : Int) ∧ (K0 : Int) ≤ 4096) ∧ (1 ≤ s0 ∧ s0 ≤ 4096) ∧ (0 ≤ p0 ∧ p0 ≤ 4096) ∧ (1 ≤ d0 ∧ d0 ≤ 4096)) ∧ ((1 ≤ l1 ∧ l1 ≤ 4096) ∧ (1 ≤ (K1 : Int) ∧ (K1 : Int) ≤ 4096) ∧ (1 ≤ s1 ∧ s1 ≤ 4096) ∧ (0 ≤ p1 ∧ p1 ≤ 4096) ∧ (1 ≤ d1 ∧ d1 ≤ 4096)) ∧
  n0 = lpl l0 K0 s0 p0 d0 ∧ n1 = lpl l1 K1 s1 p1 d1 ∧ (1 ≤ n0 ∧ n0 ≤ 12288) ∧ (1 ≤ n1 ∧ n1 ≤ 12288) ∧ (Ct : Int) = n0 * n1 ∧ (Wd : Int) = l0 * l1 ∧ Tp = K0 * K1
theorem cv_numbers {w : World} {vs vd vt ve vq v1 v2 v3 : Value} {a da b db ks s p d : List Int} {f : Nat} (h : CvIn w vs vd vt ve vq v1 v2 v3 a da b db ks s p d f) (W : World) (hW : Below w.heap.size w W) :
    Calls Try.prog 53 #[.agg #[vq, v1, v2, v3]] W fun e w' => e = .returned (.bool (decide (ks.length = 0) && cnm s p d)) ∧ Below W.heap.size W w' := by
  obtain ⟨⟨_, _, _, _, hq, h1, h2, h3⟩, _, k0, k1, k2, k3⟩ := h
  exact cnumbers_any vq v1 v2 v3 ks s p d W (hq.below hW) (h1.below hW) (h2.below hW) (h3.below hW) k0 k1 k2 k3
set_option maxHeartbeats 4000000 in
theorem conv_split {ks s p d a b da0 db0 : List Int} (ta0 : tnb a da0 = true) (tb0 : tnb b db0 = true) :
    (∃ (Pl : List Int) (NX NK CH Ct Tp Wd K0 K1 : Nat) (l0 n0 s0 p0 d0 l1 n1 s1 p1 d1 : Int), CvFit ks s p d a b Pl NX NK CH Ct Tp Wd K0 K1 l0 n0 s0 p0 d0 l1 n1 s1 p1 d1) ∨
    (∃ E : Int, E ≠ 0 ∧ ∀ (w : World) (vs vd vt ve vq v1 v2 v3 : Value) (da db : List Int) (f : Nat), CvIn w vs vd vt ve vq v1 v2 v3 a da b db ks s p d f → Calls Try.prog 14 #[.agg #[vs, vd], .agg #[vt, ve], .agg #[vq, v1, v2, v3], .int .i64 (f : Nat)] w (SomeT w E [] [])) := by
  by_cases hn : (decide (ks.length = 0) && cnm s p d) = true
  rotate_left
  · refine .inr ⟨1, by decide, fun w vs vd vt ve vq v1 v2 v3 da db f hI => ?_⟩
    have hc := fun W hW => cv_numbers hI W hW
    rw [Bool.eq_false_iff.2 hn] at hc
    obtain ⟨⟨hx, hd, hw, he, hq, h1, h2, h3⟩, ⟨ta, tb, hf⟩, _⟩ := hI
    obtain ⟨o1, c1, rfl, _⟩ := id hx
    obtain ⟨o2, c2, rfl, _⟩ := id hd
    obtain ⟨o3, c3, rfl, _⟩ := id hw
    obtain ⟨o4, c4, rfl, _⟩ := id he
    obtain ⟨oq, cq, rfl, _⟩ := id hq
    obtain ⟨os, cs, rfl, _⟩ := id h1
    obtain ⟨op, cp, rfl, _⟩ := id h2
    obtain ⟨ol, cl, rfl, _⟩ := id h3
    exact conv_no1 _ _ _ _ _ _ _ _ _ _ _ _ _ _ _ _ _ _ _ _ _ _ _ _ _ _ _ _ _ w hx hd hw he ta tb hf hc
  · obtain ⟨ma, _, _⟩ := tnb_parts ta0
    obtain ⟨mb, _, _⟩ := tnb_parts tb0
    have la := may_len ma
    have lb := may_len mb
    by_cases ha : a.length < 2
    · refine .inr ⟨2, by decide, fun w vs vd vt ve vq v1 v2 v3 da db f hI => ?_⟩
      have hc := fun W hW => cv_numbers hI W hW
      rw [hn] at hc
      obtain ⟨⟨hx, hd, hw, he, hq, h1, h2, h3⟩, ⟨ta, tb, hf⟩, _⟩ := hI
      obtain ⟨o1, c1, rfl, _⟩ := id hx
      obtain ⟨o2, c2, rfl, _⟩ := id hd
      obtain ⟨o3, c3, rfl, _⟩ := id hw
      obtain ⟨o4, c4, rfl, _⟩ := id he
      obtain ⟨oq, cq, rfl, _⟩ := id hq
      obtain ⟨os, cs, rfl, _⟩ := id h1
      obtain ⟨op, cp, rfl, _⟩ := id h2
      obtain ⟨ol, cl, rfl, _⟩ := id h3
      exact conv_no2a _ _ _ _ _ _ _ _ _ _ _ _ _ _ _ _ _ _ _ _ _ _ _ _ _ _ _ _ _ w hx hd hw he ta tb hf hc ha
    by_cases hab : b.length = a.length
    rotate_left
    · refine .inr ⟨2, by decide, fun w vs vd vt ve vq v1 v2 v3 da db f hI => ?_⟩
      have hc := fun W hW => cv_numbers hI W hW
      rw [hn] at hc
      obtain ⟨⟨hx, hd, hw, he, hq, h1, h2, h3⟩, ⟨ta, tb, hf⟩, _⟩ := hI
      obtain ⟨o1, c1, rfl, _⟩ := id hx
      obtain ⟨o2, c2, rfl, _⟩ := id hd
      obtain ⟨o3, c3, rfl, _⟩ := id hw
      obtain ⟨o4, c4, rfl, _⟩ := id he
      obtain ⟨oq, cq, rfl, _⟩ := id hq
      obtain ⟨os, cs, rfl, _⟩ := id h1
      obtain ⟨op, cp, rfl, _⟩ := id h2
      obtain ⟨ol, cl, rfl, _⟩ := id h3
      exact conv_no2b _ _ _ _ _ _ _ _ _ _ _ _ _ _ _ _ _ _ _ _ _ _ _ _ _ _ _ _ _ w hx hd hw he ta tb hf hc (by omega) hab
    by_cases h11 : b.getD 1 0 = a.getD 1 0
    rotate_left
    · refine .inr ⟨2, by decide, fun w vs vd vt ve vq v1 v2 v3 da db f hI => ?_⟩
      have hc := fun W hW => cv_numbers hI W hW
      rw [hn] at hc
      obtain ⟨⟨hx, hd, hw, he, hq, h1, h2, h3⟩, ⟨ta, tb, hf⟩, _⟩ := hI
      obtain ⟨b1, f1, c1, rfl, _⟩ := ldc hx (by omega)
      obtain ⟨o2, c2, rfl, _⟩ := id hd
      obtain ⟨b3, f3, c3, rfl, _⟩ := ldc hw (by omega)
      obtain ⟨o4, c4, rfl, _⟩ := id he
      obtain ⟨oq, cq, rfl, _⟩ := id hq
      obtain ⟨os, cs, rfl, _⟩ := id h1
      obtain ⟨op, cp, rfl, _⟩ := id h2
      obtain ⟨ol, cl, rfl, _⟩ := id h3
      rw [hab] at hw ⊢
      exact conv_no2c b1 f1 b3 f3 _ _ _ _ _ _ _ _ _ _ _ _ _ _ _ _ _ _ _ _ _ _ _ _ _ _ w hx hd hw he ta tb hf hc (by omega) _ _ rfl rfl h11
    rw [Bool.and_eq_true, decide_eq_true_eq] at hn
    obtain ⟨hk0, hcn⟩ := hn
    obtain ⟨hs12, hps, hds, fs1, fp0, fd1⟩ := cnm_parts hcn
    obtain ⟨NX, hNX⟩ := Int.eq_ofNat_of_zero_le (show (0 : Int) ≤ a.getD 0 0 from by have := may_dim ma (i := 0) (by omega); omega)
    obtain ⟨CH, hCH⟩ := Int.eq_ofNat_of_zero_le (show (0 : Int) ≤ a.getD 1 0 from by have := may_dim ma (i := 1) (by omega); omega)
    obtain ⟨NK, hNK⟩ := Int.eq_ofNat_of_zero_le (show (0 : Int) ≤ b.getD 0 0 from by have := may_dim mb (i := 0) (by omega); omega)
    have hCH2 : b.getD 1 0 = (CH : Nat) := h11.trans hCH
    have key : (∀ (w : World) (vs v2 vq v1 v2' v3 : Value), Ld w vs a → Ld w v2 (b.drop 2) → Ld w vq ks → Ld w v1 s → Ld w v2' p → Ld w v3 d → Calls Try.prog 54 #[vs, v2, .agg #[vq, v1, v2', v3]] w (NoW w)) → ∃ E : Int, E ≠ 0 ∧ ∀ (w : World) (vs vd vt ve vq v1 v2 v3 : Value) (da db : List Int) (f : Nat), CvIn w vs vd vt ve vq v1 v2 v3 a da b db ks s p d f → Calls Try.prog 14 #[.agg #[vs, vd], .agg #[vt, ve], .agg #[vq, v1, v2, v3], .int .i64 (f : Nat)] w (SomeT w E [] []) := by
      intro hO
      refine ⟨2, by decide, fun w vs vd vt ve vq v1 v2 v3 da db f hI => ?_⟩
      have hc := fun W hW => cv_numbers hI W hW
      rw [decide_eq_true hk0, hcn, Bool.and_true] at hc
      obtain ⟨⟨hx, hd, hw, he, hq, h1, h2, h3⟩, ⟨ta, tb, hf⟩, _⟩ := hI
      obtain ⟨oq, cq, rfl, _⟩ := id hq
      obtain ⟨os, cs, rfl, _⟩ := id h1
      obtain ⟨op, cp, rfl, _⟩ := id h2
      obtain ⟨ol, cl, rfl, _⟩ := id h3
      exact conv_no3 vs vd vt ve _ _ _ _ _ _ _ _ _ _ _ _ a da b db f NX NK CH w hx hd hw he ta tb hf hc (fun W v hW hv => hO W vs v _ _ _ _ (hx.below hW) hv (hq.below hW) (h1.below hW) (h2.below hW) (h3.below hW)) (by omega) hab hNX hCH hNK hCH2
    by_cases hz : s.length = a.length - 2
    rotate_left
    · refine .inr (key fun w vs v2 vq v1 v2' v3 hx hv hq h1 h2 h3 => ?_)
      obtain ⟨o1, c1, rfl, _⟩ := id hx
      obtain ⟨o2, c2, rfl, _⟩ := id hv
      obtain ⟨oq, cq, rfl, _⟩ := id hq
      obtain ⟨os, cs, rfl, _⟩ := id h1
      obtain ⟨op, cp, rfl, _⟩ := id h2
      obtain ⟨ol, cl, rfl, _⟩ := id h3
      have e2 : (b.drop 2).length = a.length - 2 := by rw [List.length_drop, hab]
      exact wof_no _ _ _ _ _ _ _ _ _ _ _ _ _ _ _ _ _ _ w (.inr ⟨by omega, by omega⟩) ⟨by omega, by omega, by omega⟩
    have hK1 := fun i (hi : i < b.length) => Int.eq_ofNat_of_zero_le (show (0 : Int) ≤ b.getD i 0 from by have := may_dim mb hi; omega)
    rcases hs12 with hs | hs
    · obtain ⟨K, hK⟩ := hK1 2 (by omega)
      have da1 := may_dim ma (i := 2) (by omega)
      have db1 := may_dim mb (i := 2) (by omega)
      have ds1 := afr_at fs1 (k := 0) (by omega)
      have dp1 := afr_at fp0 (k := 0) (by omega)
      have dd1 := afr_at fd1 (k := 0) (by omega)
      have ea := list3 (show a.length = 3 by omega)
      have eb := list3 (show b.length = 3 by omega)
      have es := list1 hs
      have ep := list1 (hps.trans hs)
      have ed := list1 (hds.trans hs)
      rw [hNX, hCH] at ea
      rw [hNK, hCH2, hK] at eb
      rw [hK] at db1
      obtain ⟨l, hl⟩ : ∃ x, x = a.getD 2 0 := ⟨_, rfl⟩
      obtain ⟨s1, hs1⟩ : ∃ x, x = s.getD 0 0 := ⟨_, rfl⟩
      obtain ⟨p1, hp1⟩ : ∃ x, x = p.getD 0 0 := ⟨_, rfl⟩
      obtain ⟨d1, hd1⟩ : ∃ x, x = d.getD 0 0 := ⟨_, rfl⟩
      rw [← hl] at ea da1
      rw [← hs1] at es ds1
      rw [← hp1] at ep dp1
      rw [← hd1] at ed dd1
      clear hl hs1 hp1 hd1 hNX hCH hNK hCH2 hK hK1 h11
      have bb : (1 ≤ l ∧ l ≤ 4096) ∧ (1 ≤ (K : Int) ∧ (K : Int) ≤ 4096) ∧ (1 ≤ s1 ∧ s1 ≤ 4096) ∧ (0 ≤ p1 ∧ p1 ≤ 4096) ∧ (1 ≤ d1 ∧ d1 ≤ 4096) := ⟨da1, db1, ds1, dp1, dd1⟩
      have nb := lpl_bd bb.1 bb.2.1.1 bb.2.2.1.1 bb.2.2.2.1 bb.2.2.2.2.1
      by_cases h0 : lpl l K s1 p1 d1 = 0
      · refine .inr (key fun w vs v2 vq v1 v2' v3 hx hv hq h1 h2 h3 => ?_)
        rw [ea] at hx
        rw [eb] at hv
        rw [es] at h1
        rw [ep] at h2
        rw [ed] at h3
        exact (wof1_any vs v2 vq v1 v2' v3 _ _ l K s1 p1 d1 _ w hx hv h1 h2 h3 bb rfl).mono fun e w' h => h.1 h0
      · obtain ⟨Ct, hCt⟩ := Int.eq_ofNat_of_zero_le nb.1
        obtain ⟨Wd, hWd⟩ := Int.eq_ofNat_of_zero_le (show 0 ≤ l by omega)
        refine .inl ⟨[lpl l K s1 p1 d1], NX, NK, CH, Ct, K, Wd, 1, K, 1, 1, 1, 0, 1, l, lpl l K s1 p1 d1, s1, p1, d1, hk0, .inl ⟨rfl, ea, eb, es, ep, ed, rfl, rfl, rfl, rfl, rfl, rfl⟩, by decide, bb, by decide, rfl, by decide, ⟨by omega, nb.2⟩, by rw [Int.one_mul]; exact hCt.symm, by rw [Int.one_mul]; exact hWd.symm, (Nat.one_mul K).symm⟩
    · obtain ⟨K, hK⟩ := hK1 2 (by omega)
      obtain ⟨K', hK'⟩ := hK1 3 (by omega)
      have da1 := may_dim ma (i := 2) (by omega)
      have db1 := may_dim mb (i := 2) (by omega)
      have ds1 := afr_at fs1 (k := 0) (by omega)
      have dp1 := afr_at fp0 (k := 0) (by omega)
      have dd1 := afr_at fd1 (k := 0) (by omega)
      have da2 := may_dim ma (i := 3) (by omega)
      have db2 := may_dim mb (i := 3) (by omega)
      have ds2 := afr_at fs1 (k := 1) (by omega)
      have dp2 := afr_at fp0 (k := 1) (by omega)
      have dd2 := afr_at fd1 (k := 1) (by omega)
      have ea := list4 (show a.length = 4 by omega)
      have eb := list4 (show b.length = 4 by omega)
      have es := list2 hs
      have ep := list2 (hps.trans hs)
      have ed := list2 (hds.trans hs)
      rw [hNX, hCH] at ea
      rw [hNK, hCH2, hK, hK'] at eb
      rw [hK] at db1
      rw [hK'] at db2
      obtain ⟨l, hl⟩ : ∃ x, x = a.getD 2 0 := ⟨_, rfl⟩
      obtain ⟨s1, hs1⟩ : ∃ x, x = s.getD 0 0 := ⟨_, rfl⟩
      obtain ⟨p1, hp1⟩ : ∃ x, x = p.getD 0 0 := ⟨_, rfl⟩
      obtain ⟨d1, hd1⟩ : ∃ x, x = d.getD 0 0 := ⟨_, rfl⟩
      obtain ⟨l', hl'⟩ : ∃ x, x = a.getD 3 0 := ⟨_, rfl⟩
      obtain ⟨s2, hs2⟩ : ∃ x, x = s.getD 1 0 := ⟨_, rfl⟩
      obtain ⟨p2, hp2⟩ : ∃ x, x = p.getD 1 0 := ⟨_, rfl⟩
      obtain ⟨d2, hd2⟩ : ∃ x, x = d.getD 1 0 := ⟨_, rfl⟩
      rw [← hl, ← hl'] at ea
      rw [← hl] at da1
      rw [← hl'] at da2
      rw [← hs1, ← hs2] at es
      rw [← hs1] at ds1
      rw [← hs2] at ds2
      rw [← hp1, ← hp2] at ep
      rw [← hp1] at dp1
      rw [← hp2] at dp2
      rw [← hd1, ← hd2] at ed
      rw [← hd1] at dd1
      rw [← hd2] at dd2
      clear hl hs1 hp1 hd1 hl' hs2 hp2 hd2 hNX hCH hNK hCH2 hK hK' hK1 h11
      have bb : (1 ≤ l ∧ l ≤ 4096) ∧ (1 ≤ (K : Int) ∧ (K : Int) ≤ 4096) ∧ (1 ≤ s1 ∧ s1 ≤ 4096) ∧ (0 ≤ p1 ∧ p1 ≤ 4096) ∧ (1 ≤ d1 ∧ d1 ≤ 4096) := ⟨da1, db1, ds1, dp1, dd1⟩
      have bc : (1 ≤ l' ∧ l' ≤ 4096) ∧ (1 ≤ (K' : Int) ∧ (K' : Int) ≤ 4096) ∧ (1 ≤ s2 ∧ s2 ≤ 4096) ∧ (0 ≤ p2 ∧ p2 ≤ 4096) ∧ (1 ≤ d2 ∧ d2 ≤ 4096) := ⟨da2, db2, ds2, dp2, dd2⟩
      have nb := lpl_bd bb.1 bb.2.1.1 bb.2.2.1.1 bb.2.2.2.1 bb.2.2.2.2.1
      have nc := lpl_bd bc.1 bc.2.1.1 bc.2.2.1.1 bc.2.2.2.1 bc.2.2.2.2.1
      by_cases h0 : lpl l K s1 p1 d1 = 0 ∨ lpl l' K' s2 p2 d2 = 0
      · refine .inr (key fun w vs v2 vq v1 v2' v3 hx hv hq h1 h2 h3 => ?_)
        rw [ea] at hx
        rw [eb] at hv
        rw [es] at h1
        rw [ep] at h2
        rw [ed] at h3
        exact (wof2_any vs v2 vq v1 v2' v3 _ _ l K s1 p1 d1 _ l' K' s2 p2 d2 _ w hx hv h1 h2 h3 bb bc rfl rfl).mono fun e w' h => h.1 h0
      · obtain ⟨Ct, hCt⟩ := Int.eq_ofNat_of_zero_le (Int.mul_nonneg nb.1 nc.1)
        obtain ⟨Wd, hWd⟩ := Int.eq_ofNat_of_zero_le (Int.mul_nonneg (show 0 ≤ l by omega) (show 0 ≤ l' by omega))
        exact .inl ⟨[lpl l K s1 p1 d1, lpl l' K' s2 p2 d2], NX, NK, CH, Ct, K * K', Wd, K, K', l, lpl l K s1 p1 d1, s1, p1, d1, l', lpl l' K' s2 p2 d2, s2, p2, d2, hk0, .inr ⟨rfl, ea, eb, es, ep, ed⟩, bb, bc, rfl, rfl, ⟨by omega, nb.2⟩, ⟨by omega, nc.2⟩, hCt.symm, hWd.symm, rfl⟩
end Go.Proofs.Ytnlfljekbknaaaa
namespace Go.Proofs.Ytnlfljekbknaaaa
open Go Go.RowKit Go.Shelf
attribute [local go_sem] Oper.semAt_some
theorem fit_kt {NK CH Tp : Nat} (h : (((NK * CH * Tp : Nat)) : Int) ≤ 65536) (h1 : 1 ≤ NK) (h2 : 1 ≤ CH) : Tp ≤ 65536 := by
  have a1 : 1 * Tp ≤ NK * CH * Tp := Nat.mul_le_mul_right Tp (Nat.mul_le_mul h1 h2)
  omega
theorem fit_window {ks s p d a b Pl : List Int} {NX NK CH Ct Tp Wd K0 K1 : Nat} {l0 n0 s0 p0 d0 l1 n1 s1 p1 d1 : Int} (h : CvFit ks s p d a b Pl NX NK CH Ct Tp Wd K0 K1 l0 n0 s0 p0 d0 l1 n1 s1 p1 d1) (W : World) (vs v2 vq v1 v2' v3 : Value) (hx : Ld W vs a) (hv : Ld W v2 (b.drop 2)) (h1 : Ld W v1 s) (h2 : Ld W v2' p) (h3 : Ld W v3 d) :
    Calls Try.prog 54 #[vs, v2, .agg #[vq, v1, v2', v3]] W (SomeWn W Pl (Ct : Nat) (Tp : Nat) (Wd : Nat) (l0, n0, (K0 : Nat), s0, p0, d0) (l1, n1, (K1 : Nat), s1, p1, d1)) := by
  obtain ⟨hk0, hsh, b0, b1, e0, e1, nb, nc, eC, eW, eT⟩ := h
  rcases hsh with ⟨rfl, rfl, rfl, rfl, rfl, rfl, rfl, rfl, rfl, rfl, rfl, rfl⟩ | ⟨rfl, rfl, rfl, rfl, rfl, rfl⟩
  · rw [eC, eW, eT, Int.one_mul, Int.one_mul, Nat.one_mul]
    exact (wof1_any vs v2 vq v1 v2' v3 _ _ l1 K1 s1 p1 d1 n1 W hx hv h1 h2 h3 b1 e1).mono fun e w' h => h.2 (by omega)
  · rw [eC, eW, eT, Int.natCast_mul]
    exact (wof2_any vs v2 vq v1 v2' v3 _ _ l0 K0 s0 p0 d0 n0 l1 K1 s1 p1 d1 n1 W hx hv h1 h2 h3 b0 b1 e0 e1).mono fun e w' h => h.2 (by omega) (by omega)
theorem fit_nums {ks s p d a b Pl : List Int} {NX NK CH Ct Tp Wd K0 K1 : Nat} {l0 n0 s0 p0 d0 l1 n1 s1 p1 d1 : Int} (h : CvFit ks s p d a b Pl NX NK CH Ct Tp Wd K0 K1 l0 n0 s0 p0 d0 l1 n1 s1 p1 d1) (ma : may a = true) (mb : may b = true) :
    3 ≤ a.length ∧ b.length = a.length ∧ a.getD 0 0 = (NX : Nat) ∧ a.getD 1 0 = (CH : Nat) ∧ b.getD 0 0 = (NK : Nat) ∧ b.getD 1 0 = (CH : Nat) ∧ (1 ≤ Pl.length ∧ Pl.length ≤ 2) ∧ prod ([(NX : Int), (NK : Int)] ++ Pl) = ((NX * NK * Ct : Nat) : Int) ∧ (1 ≤ Tp ∧ Tp ≤ 65536) ∧ prod a = ((NX * (CH * Wd) : Nat) : Int) ∧ prod b = ((NK * (CH * Tp) : Nat) : Int) ∧ (1 ≤ NX ∧ 1 ≤ NK ∧ 1 ≤ CH ∧ 1 ≤ Wd ∧ 1 ≤ Ct) ∧ (decide (ks.length = 0) && cnm s p d) = true := by
  obtain ⟨hk0, hsh, b0, b1, e0, e1, nb, nc, eC, eW, eT⟩ := h
  have qa := may_prod ma
  have qb := may_prod mb
  have cC : 1 ≤ Ct := by
    have := Int.mul_le_mul nb.1 nc.1 (by decide) (by omega)
    omega
  have cW : 1 ≤ Wd := by
    have := Int.mul_le_mul b0.1.1 b1.1.1 (by decide) (by omega)
    omega
  have cT : 1 ≤ Tp := by
    rw [eT]
    exact Nat.mul_le_mul (show 1 ≤ K0 by omega) (show 1 ≤ K1 by omega)
  rcases hsh with ⟨rfl, rfl, rfl, rfl, rfl, rfl, rfl, rfl, rfl, rfl, rfl, rfl⟩ | ⟨rfl, rfl, rfl, rfl, rfl, rfl⟩
  · have x0 := may_dim ma (i := 0) (by simp)
    have x1 := may_dim ma (i := 1) (by simp)
    have y0 := may_dim mb (i := 0) (by simp)
    simp only [List.getD_cons_zero, List.getD_cons_succ] at x0 x1 y0
    have pa : prod [(NX : Int), (CH : Int), l1] = ((NX * (CH * Wd) : Nat) : Int) := by
      simp only [prod, Int.mul_one, Int.natCast_mul, eW, Int.one_mul]
    have pb : prod [(NK : Int), (CH : Int), (K1 : Int)] = ((NK * (CH * Tp) : Nat) : Int) := by
      simp only [prod, Int.mul_one, Int.natCast_mul, eT, Nat.one_mul]
    refine ⟨by simp, by simp, rfl, rfl, rfl, rfl, by simp, ?_, ⟨cT, ?_⟩, pa, pb, ⟨by omega, by omega, by omega, cW, cC⟩, ?_⟩
    · simp only [List.cons_append, List.nil_append, prod, Int.mul_one, Int.natCast_mul, eC, Int.one_mul, Int.mul_assoc]
    · rw [pb] at qb
      exact fit_kt (NK := NK) (CH := CH) (by rw [Nat.mul_assoc]; exact qb.2) (by omega) (by omega)
    · rw [decide_eq_true hk0]
      simp [cnm, afr, b1.2.2.1, b1.2.2.2.1, b1.2.2.2.2]
  · have x0 := may_dim ma (i := 0) (by simp)
    have x1 := may_dim ma (i := 1) (by simp)
    have y0 := may_dim mb (i := 0) (by simp)
    simp only [List.getD_cons_zero, List.getD_cons_succ] at x0 x1 y0
    have pa : prod [(NX : Int), (CH : Int), l0, l1] = ((NX * (CH * Wd) : Nat) : Int) := by
      simp only [prod, Int.mul_one, Int.natCast_mul, eW]
    have pb : prod [(NK : Int), (CH : Int), (K0 : Int), (K1 : Int)] = ((NK * (CH * Tp) : Nat) : Int) := by
      simp only [prod, Int.mul_one, Int.natCast_mul, eT]
    refine ⟨by simp, by simp, rfl, rfl, rfl, rfl, by simp, ?_, ⟨cT, ?_⟩, pa, pb, ⟨by omega, by omega, by omega, cW, cC⟩, ?_⟩
    · simp only [List.cons_append, List.nil_append, prod, Int.mul_one, Int.natCast_mul, eC, Int.mul_assoc]
    · rw [pb] at qb
      exact fit_kt (NK := NK) (CH := CH) (by rw [Nat.mul_assoc]; exact qb.2) (by omega) (by omega)
    · rw [decide_eq_true hk0]
      simp [cnm, afr, b0.2.2.1, b0.2.2.2.1, b0.2.2.2.2, b1.2.2.1, b1.2.2.2.1, b1.2.2.2.2]
theorem conv_fit {ks s p d a b Pl : List Int} {NX NK CH Ct Tp Wd K0 K1 : Nat} {l0 n0 s0 p0 d0 l1 n1 s1 p1 d1 : Int} (h : CvFit ks s p d a b Pl NX NK CH Ct Tp Wd K0 K1 l0 n0 s0 p0 d0 l1 n1 s1 p1 d1) (w : World) (vs vd vt ve vq v1 v2 v3 : Value) (da db : List Int) (f : Nat) (hI : CvIn w vs vd vt ve vq v1 v2 v3 a da b db ks s p d f) :
    Calls Try.prog 14 #[.agg #[vs, vd], .agg #[vt, ve], .agg #[vq, v1, v2, v3], .int .i64 (f : Nat)] w fun e w' => (may ([(NX : Int), (NK : Int)] ++ Pl) = false → SomeT w 5 [] [] e w') ∧ (may ([(NX : Int), (NK : Int)] ++ Pl) = true → CvPost w ([(NX : Int), (NK : Int)] ++ Pl) (cvV da db (l0, n0, (K0 : Nat), s0, p0, d0) (l1, n1, (K1 : Nat), s1, p1, d1) n1 K0 K1 Wd Tp CH f) NX NK Ct e w') := by
  have hc := fun W hW => cv_numbers hI W hW
  obtain ⟨⟨hx, hd, hw, he, hq, h1, h2, h3⟩, ⟨ta, tb, hf⟩, _⟩ := hI
  obtain ⟨ma, la, _⟩ := tnb_parts ta
  obtain ⟨mb, lb, _⟩ := tnb_parts tb
  obtain ⟨c1, c2, c3, c4, c5, c6, c7, c8, c9, c10, c11, c12, c13⟩ := fit_nums h ma mb
  rw [c13] at hc
  have ho := fun (W : World) (v : Value) (hW : Below w.heap.size w W) (hv : Ld W v (b.drop 2)) => fit_window h W vs v vq v1 v2 v3 (hx.below hW) hv (h1.below hW) (h2.below hW) (h3.below hW)
  obtain ⟨oq, cq, rfl, _⟩ := id hq
  obtain ⟨os, cs, rfl, _⟩ := id h1
  obtain ⟨op, cp, rfl, _⟩ := id h2
  obtain ⟨ol, cl, rfl, _⟩ := id h3
  obtain ⟨hk0, hsh, b0, b1, e0, e1, nb, nc, eC, eW, eT⟩ := h
  cases hm : may ([(NX : Int), (NK : Int)] ++ Pl) with
  | false => exact (conv_no5 vs vd vt ve _ _ _ _ _ _ _ _ _ _ _ _ a da b db Pl f NX NK CH Ct Tp Wd K0 K1 l0 n0 s0 p0 d0 l1 n1 s1 p1 d1 w hx hd hw he ta tb hf hc ho c1 c2 c3 c4 c5 c6 c7 hm).mono fun e w' h => ⟨fun _ => h, fun e => absurd e (by decide)⟩
  | true => exact (conv_ok vs vd vt ve _ _ _ _ _ _ _ _ _ _ _ _ a da b db Pl f NX NK CH Ct Tp Wd K0 K1 l0 n0 s0 p0 d0 l1 n1 s1 p1 d1 w hx hd hw he ta tb hf hc ho c1 c2 c3 c4 c5 c6 c7 hm c8 c9 ⟨b0.1, by omega, b0.2.2⟩ ⟨b1.1, by omega, b1.2.2⟩ ⟨nc.1, nc.2, nb.1, nb.2⟩ eC eW eT (by rw [c10] at la; omega) (by rw [c11] at lb; omega) c12).mono fun e w' h => ⟨fun e => absurd e (by decide), fun _ => h⟩
end Go.Proofs.Ytnlfljekbknaaaa
namespace Go.Proofs.Ytnlfljekbknaaaa
open Go Go.RowKit Go.Shelf
attribute [local go_sem] Oper.semAt_some
theorem fit_one {ks s p d a b Pl : List Int} {NX NK CH Ct Tp Wd K0 K1 : Nat} {l0 n0 s0 p0 d0 l1 n1 s1 p1 d1 : Int} (h : CvFit ks s p d a b Pl NX NK CH Ct Tp Wd K0 K1 l0 n0 s0 p0 d0 l1 n1 s1 p1 d1) :
    CvFit ks s p d (1 :: a.drop 1) (1 :: b.drop 1) Pl 1 1 CH Ct Tp Wd K0 K1 l0 n0 s0 p0 d0 l1 n1 s1 p1 d1 := by
  obtain ⟨hk0, hsh, r⟩ := h
  refine ⟨hk0, ?_, r⟩
  rcases hsh with ⟨rfl, rfl, rfl, rfl, rfl, rfl, rfl, rfl, rfl, rfl, rfl, rfl⟩ | ⟨rfl, rfl, rfl, rfl, rfl, rfl⟩
  · exact .inl ⟨rfl, rfl, rfl, rfl, rfl, rfl, rfl, rfl, rfl, rfl, rfl, rfl⟩
  · exact .inr ⟨rfl, rfl, rfl, rfl, rfl, rfl⟩
theorem may_ones {x y : Int} {Pl : List Int} (h : may ([x, y] ++ Pl) = true) : may ([((1 : Nat) : Int), ((1 : Nat) : Int)] ++ Pl) = true := by
  obtain ⟨h1, h2, h3⟩ := (may_iff _).1 h
  have hx := h2 x (by simp)
  have hy := h2 y (by simp)
  have hp : pos Pl := fun d hd => (h2 d (by simp [hd])).1
  have pp := prod_pos hp
  refine (may_iff _).2 ⟨h1, ?_, ?_⟩
  · intro d hd
    simp only [List.cons_append, List.nil_append, List.mem_cons] at hd
    rcases hd with rfl | rfl | hd
    · decide
    · decide
    · exact h2 d (by simp [hd])
  · simp only [List.cons_append, List.nil_append, prod] at h3 ⊢
    have a1 := Int.mul_le_mul_of_nonneg_right hy.1 (show 0 ≤ prod Pl by omega)
    have a2 := Int.mul_le_mul_of_nonneg_right hx.1 (show 0 ≤ y * prod Pl by omega)
    omega
theorem may_one {x : Int} {r : List Int} (h : may (x :: r) = true) : may (1 :: r) = true := by
  obtain ⟨h1, h2, h3⟩ := (may_iff _).1 h
  have hx := h2 x (by simp)
  have pp := prod_pos (fun d hd => (h2 d (by simp [hd])).1 : pos r)
  refine (may_iff _).2 ⟨h1, ?_, ?_⟩
  · intro d hd
    simp only [List.mem_cons] at hd
    rcases hd with rfl | hd
    · decide
    · exact h2 d (by simp [hd])
  · simp only [prod] at h3 ⊢
    have a2 := Int.mul_le_mul_of_nonneg_right hx.1 (show 0 ≤ prod r by omega)
    omega
/-- A part of a tensor's words along its first dimension is a tensor. -/
theorem tnb_one {sh ds : List Int} {N n i : Nat} (h : tnb sh ds = true) (h0 : 0 < sh.length) (hN : sh.getD 0 0 = (N : Nat)) (hn : ds.length = N * n) (hi : i < N) : tnb (1 :: sh.drop 1) ((ds.drop (i * n)).take n) = true := by
  obtain ⟨m, l, w⟩ := tnb_parts h
  have e : sh = (N : Int) :: sh.drop 1 := by
    have q := drop_getD h0
    rw [hN] at q
    simpa using q
  have m1 : may (1 :: sh.drop 1) = true := by rw [e] at m; exact may_one m
  have hle : (i + 1) * n ≤ N * n := Nat.mul_le_mul_right n hi
  rw [Nat.add_mul, Nat.one_mul] at hle
  have hl : ((ds.drop (i * n)).take n).length = n := by rw [List.length_take, List.length_drop, hn]; omega
  have hp : (n : Int) = prod (sh.drop 1) := by
    rw [e] at l
    simp only [prod] at l
    rw [hn, Int.natCast_mul] at l
    have hN1 : (0 : Int) < (N : Int) := by omega
    exact Int.eq_of_mul_eq_mul_left (by omega) l
  unfold tnb
  rw [m1]
  simp only [Bool.true_and, Bool.and_eq_true, decide_eq_true_eq]
  refine ⟨?_, ?_⟩
  · rw [hl, hp]; simp [prod]
  · refine wds_yes ?_
    intro k hk
    rw [hl] at hk
    have q := wds_at w (k := i * n + k) (by rw [hn]; omega)
    simpa [List.getD, List.getElem?_take, List.getElem?_drop, hk] using q
theorem cvs_one (da db : List Int) (ms : List (Nat × Nat)) (Wd Tp CH i j : Nat) : cvs ((da.drop (i * (CH * Wd))).take (CH * Wd)) ((db.drop (j * (CH * Tp))).take (CH * Tp)) ms Wd Tp CH (0, 0) = cvs da db ms Wd Tp CH (i, j) := by
  unfold cvs
  simp [List.take_take]
theorem cvV_one (da db : List Int) (R C : Ln) (n1 : Int) (K0 K1 Wd Tp CH f P i j : Nat) : cvV ((da.drop (i * (CH * Wd))).take (CH * Wd)) ((db.drop (j * (CH * Tp))).take (CH * Tp)) R C n1 K0 K1 Wd Tp CH f P (0, 0) = cvV da db R C n1 K0 K1 Wd Tp CH f P (i, j) := by
  unfold cvV
  rw [cvs_one]
theorem row_part (V : Nat → Nat × Nat → Int) (NX NK Ct i j : Nat) (hi : i < NX) (hj : j < NK) : ((rowL (fun q => V (q % Ct) (q / Ct / NK, q / Ct % NK)) (NX * NK * Ct)).drop ((i * NK + j) * Ct)).take Ct = rowL (fun q => V q (i, j)) Ct := by
  have h1 : (i + 1) * NK ≤ NX * NK := Nat.mul_le_mul_right NK hi
  rw [Nat.add_mul, Nat.one_mul] at h1
  have h2 : (i * NK + j + 1) * Ct ≤ NX * NK * Ct := Nat.mul_le_mul_right Ct (by omega)
  rw [Nat.add_mul, Nat.one_mul] at h2
  apply List.ext_getElem
  · rw [List.length_take, List.length_drop, rowL_len, rowL_len]; omega
  · intro k hk1 hk2
    rw [rowL_len] at hk2
    simp only [rowL, List.getElem_take, List.getElem_drop, List.getElem_map, List.getElem_range]
    have hc : 0 < Ct := by omega
    have hk : 0 < NK := by omega
    have e1 : ((i * NK + j) * Ct + k) % Ct = k := by
      rw [Nat.mul_comm, Nat.mul_add_mod, Nat.mod_eq_of_lt hk2]
    have e2 : ((i * NK + j) * Ct + k) / Ct = i * NK + j := by
      rw [Nat.mul_comm, Nat.mul_add_div hc, Nat.div_eq_of_lt hk2, Nat.add_zero]
    have e3 : (i * NK + j) / NK = i := by
      rw [Nat.mul_comm, Nat.mul_add_div hk, Nat.div_eq_of_lt hj, Nat.add_zero]
    have e4 : (i * NK + j) % NK = j := by
      rw [Nat.mul_comm, Nat.mul_add_mod, Nat.mod_eq_of_lt hj]
    rw [e1, e2, e3, e4]
end Go.Proofs.Ytnlfljekbknaaaa
namespace Go.Proofs.Ytnlfljekbknaaaa
open Go Go.RowKit Go.Shelf
/-- What the law of each alone asks of Conv. -/
def AlP (sx dx sw dw ks s p d : List Int) (f : Nat) (E : Int) (S D : List Int) : Prop :=
  (∀ (W : World) (vX vXD vW vWD vK vS vP vD : Value), Ld W vX sx → Ld W vXD dx → Ld W vW sw → Ld W vWD dw → Ld W vK ks → Ld W vS s → Ld W vP p → Ld W vD d → Calls Try.prog 14 #[.agg #[vX, vXD], .agg #[vW, vWD], .agg #[vK, vS, vP, vD], .int .i64 (f : Nat)] W (SomeT W E S D)) ∧
  (E = 0 → ∃ NX NK NA NB Ct : Nat, (3 ≤ S.length ∧ 3 ≤ sx.length ∧ 3 ≤ sw.length) ∧ (sx.getD 0 0 = (NX : Nat) ∧ sw.getD 0 0 = (NK : Nat)) ∧ (dx.length = NX * NA ∧ dw.length = NK * NB ∧ D.length = NX * NK * Ct) ∧ (1 ≤ NX ∧ 1 ≤ NK ∧ 1 ≤ NA ∧ 1 ≤ NB ∧ 1 ≤ Ct) ∧ (NX * NA ≤ 65536 ∧ NK * NB ≤ 65536 ∧ NX * NK * Ct ≤ 65536) ∧
    ∀ i j, i < NX → j < NK → ∃ S1 : List Int, ∀ (W : World) (vX vXD vW vWD vK vS vP vD : Value), Ld W vX (1 :: sx.drop 1) → Ld W vXD ((dx.drop (i * NA)).take NA) → Ld W vW (1 :: sw.drop 1) → Ld W vWD ((dw.drop (j * NB)).take NB) → Ld W vK ks → Ld W vS s → Ld W vP p → Ld W vD d → Calls Try.prog 14 #[.agg #[vX, vXD], .agg #[vW, vWD], .agg #[vK, vS, vP, vD], .int .i64 (f : Nat)] W (SomeT W 0 S1 ((D.drop ((i * NK + j) * Ct)).take Ct)))
set_option maxHeartbeats 4000000 in
theorem alone_tot {sx dx sw dw ks s p d : List Int} {f : Nat} (ta : tnb sx dx = true) (tb : tnb sw dw = true) (hf : fb (f : Nat) = true) (lk : ks.length ≤ 17592186044416) (ls : s.length ≤ 17592186044416) (lp : p.length ≤ 17592186044416) (ld : d.length ≤ 17592186044416) : ∃ (E : Int) (S D : List Int), AlP sx dx sw dw ks s p d f E S D ∧ (S.length ≤ 65536 ∧ D.length ≤ 65536) := by
  have mk : ∀ {W : World} {vX vXD vW vWD vK vS vP vD : Value} {a da b db : List Int}, tnb a da = true → tnb b db = true → Ld W vX a → Ld W vXD da → Ld W vW b → Ld W vWD db → Ld W vK ks → Ld W vS s → Ld W vP p → Ld W vD d → CvIn W vX vXD vW vWD vK vS vP vD a da b db ks s p d f := fun t1 t2 h1 h2 h3 h4 h5 h6 h7 h8 => ⟨⟨h1, h2, h3, h4, h5, h6, h7, h8⟩, ⟨t1, t2, hf⟩, lk, ls, lp, ld⟩
  rcases conv_split (ks := ks) (s := s) (p := p) (d := d) ta tb with ⟨Pl, NX, NK, CH, Ct, Tp, Wd, K0, K1, l0, n0, s0, p0, d0, l1, n1, s1, p1, d1, hF⟩ | ⟨E, hE, hc⟩
  rotate_left
  · exact ⟨E, [], [], ⟨fun W vX vXD vW vWD vK vS vP vD h1 h2 h3 h4 h5 h6 h7 h8 => hc W vX vXD vW vWD vK vS vP vD dx dw f (mk ta tb h1 h2 h3 h4 h5 h6 h7 h8), fun e => absurd e hE⟩, by simp⟩
  obtain ⟨ma, la, _⟩ := tnb_parts ta
  obtain ⟨mb, lb, _⟩ := tnb_parts tb
  obtain ⟨c1, c2, c3, c4, c5, c6, c7, c8, c9, c10, c11, c12, c13⟩ := fit_nums hF ma mb
  have q1 := (may_prod ma).2
  have q2 := (may_prod mb).2
  cases hm : may ([(NX : Int), (NK : Int)] ++ Pl) with
  | false => exact ⟨5, [], [], ⟨fun W vX vXD vW vWD vK vS vP vD h1 h2 h3 h4 h5 h6 h7 h8 => (conv_fit hF W vX vXD vW vWD vK vS vP vD dx dw f (mk ta tb h1 h2 h3 h4 h5 h6 h7 h8)).mono fun e w' h => h.1 hm, fun e => absurd e (by decide)⟩, by simp⟩
  | true =>
    have q3 := (may_prod hm).2
    rw [c8] at q3
    rw [c10] at q1
    rw [c11] at q2
    obtain ⟨V, hV⟩ : ∃ V, V = cvV dx dw (l0, n0, (K0 : Nat), s0, p0, d0) (l1, n1, (K1 : Nat), s1, p1, d1) n1 K0 K1 Wd Tp CH f := ⟨_, rfl⟩
    have hcf := fun (W : World) (vX vXD vW vWD vK vS vP vD : Value) (h1 : Ld W vX sx) (h2 : Ld W vXD dx) (h3 : Ld W vW sw) (h4 : Ld W vWD dw) (h5 : Ld W vK ks) (h6 : Ld W vS s) (h7 : Ld W vP p) (h8 : Ld W vD d) => (conv_fit hF W vX vXD vW vWD vK vS vP vD dx dw f (mk ta tb h1 h2 h3 h4 h5 h6 h7 h8)).mono fun e w' h => h.2 hm
    rw [← hV] at hcf
    by_cases hte : ∀ P p, P < Ct → p.1 < NX → p.2 < NK → te (V P p) = 0
    rotate_left
    · refine ⟨3, [], [], ⟨fun W vX vXD vW vWD vK vS vP vD h1 h2 h3 h4 h5 h6 h7 h8 => (hcf W vX vXD vW vWD vK vS vP vD h1 h2 h3 h4 h5 h6 h7 h8).mono fun e w' h => h.2 ?_, fun e => absurd e (by decide)⟩, by simp⟩
      refine Classical.byContradiction fun hn => hte fun P p h1 h2 h3 => Classical.byContradiction fun h4 => hn ⟨P, p, h1, h2, h3, h4⟩
    have hla : dx.length = NX * (CH * Wd) := by rw [c10] at la; omega
    have hlb : dw.length = NK * (CH * Tp) := by rw [c11] at lb; omega
    have hD := rowL_len (fun q => tw (V (q % Ct) (q / Ct / NK, q / Ct % NK))) (NX * NK * Ct)
    refine ⟨0, [(NX : Int), (NK : Int)] ++ Pl, rowL (fun q => tw (V (q % Ct) (q / Ct / NK, q / Ct % NK))) (NX * NK * Ct), ⟨fun W vX vXD vW vWD vK vS vP vD h1 h2 h3 h4 h5 h6 h7 h8 => (hcf W vX vXD vW vWD vK vS vP vD h1 h2 h3 h4 h5 h6 h7 h8).mono fun e w' h => h.1 hte, fun _ => ⟨NX, NK, CH * Wd, CH * Tp, Ct, ⟨by simp; omega, c1, by omega⟩, ⟨c3, c5⟩, ⟨hla, hlb, hD⟩, ⟨c12.1, c12.2.1, Nat.mul_le_mul c12.2.2.1 c12.2.2.2.1, Nat.mul_le_mul c12.2.2.1 c9.1, c12.2.2.2.2⟩, ⟨by omega, by omega, by omega⟩, ?_⟩⟩, by simp; omega, by rw [hD]; omega⟩
    intro i j hi hj
    refine ⟨[((1 : Nat) : Int), ((1 : Nat) : Int)] ++ Pl, fun W vX vXD vW vWD vK vS vP vD h1 h2 h3 h4 h5 h6 h7 h8 => ?_⟩
    have t1 := tnb_one (i := i) ta (by omega) c3 hla hi
    have t2 := tnb_one (i := j) tb (by omega) c5 hlb hj
    have u := conv_fit (fit_one hF) W vX vXD vW vWD vK vS vP vD _ _ f (mk t1 t2 h1 h2 h3 h4 h5 h6 h7 h8)
    refine u.mono fun e w' h => ?_
    have h' := (h.2 (may_ones hm)).1
    rw [row_part (fun P p => tw (V P p)) NX NK Ct i j hi hj]
    have hv : ∀ P, cvV ((dx.drop (i * (CH * Wd))).take (CH * Wd)) ((dw.drop (j * (CH * Tp))).take (CH * Tp)) (l0, n0, (K0 : Nat), s0, p0, d0) (l1, n1, (K1 : Nat), s1, p1, d1) n1 K0 K1 Wd Tp CH f P (0, 0) = V P (i, j) := fun P => by rw [hV]; exact cvV_one dx dw _ _ n1 K0 K1 Wd Tp CH f P i j
    have h9 := h' (fun P p hP hp1 hp2 => by
      obtain ⟨p1, p2⟩ := p
      obtain rfl : p1 = 0 := by simp at hp1; exact hp1
      obtain rfl : p2 = 0 := by simp at hp2; exact hp2
      rw [hv]
      exact hte P (i, j) hP hi hj)
    have hr : rowL (fun q => tw (cvV ((dx.drop (i * (CH * Wd))).take (CH * Wd)) ((dw.drop (j * (CH * Tp))).take (CH * Tp)) (l0, n0, (K0 : Nat), s0, p0, d0) (l1, n1, (K1 : Nat), s1, p1, d1) n1 K0 K1 Wd Tp CH f (q % Ct) (q / Ct / 1, q / Ct % 1))) (1 * 1 * Ct) = rowL (fun q => tw (V q (i, j))) Ct := by
      rw [show 1 * 1 * Ct = Ct by omega]
      refine rowL_same fun q hq => ?_
      rw [Nat.div_eq_of_lt hq, Nat.mod_eq_of_lt hq, Nat.zero_div, Nat.zero_mod, hv]
    rw [hr] at h9
    exact h9
end Go.Proofs.Ytnlfljekbknaaaa
namespace Go.Proofs.Ytnlfljekbknaaaa
open Go Go.RowKit Go.Shelf
attribute [local go_sem] Oper.semAt_some
/-- Each number of a list from least to most. -/
def afx (lo hi : Int) (l : List Int) : Bool := l.all fun x => decide (lo ≤ x) && decide (x ≤ hi)
theorem afx_no {lo hi : Int} {l : List Int} {k : Nat} (hk : k < l.length) (h : ¬ (lo ≤ l.getD k 0 ∧ l.getD k 0 ≤ hi)) : afx lo hi l = false := by
  unfold afx
  rw [List.all_eq_false]
  refine ⟨l.getD k 0, getD_mem hk, ?_⟩
  simp only [Bool.and_eq_true, decide_eq_true_eq]
  exact h
theorem afx_yes {lo hi : Int} {l : List Int} (h : ∀ k, k < l.length → lo ≤ l.getD k 0 ∧ l.getD k 0 ≤ hi) : afx lo hi l = true := by
  unfold afx
  rw [List.all_eq_true]
  intro x hx
  obtain ⟨k, hk, rfl⟩ := List.mem_iff_getElem.1 hx
  have := h k hk
  simp only [List.getD, List.getElem?_eq_getElem hk, Option.getD_some] at this
  simp [this]
theorem afx_afr (lo : Int) (l : List Int) : afx lo 4096 l = afr lo l := rfl
set_option maxRecDepth 100000 in
set_option maxHeartbeats 4000000 in
theorem all11_any (v : Value) (ls : List Int) (lo hi : Int) (w : World) (h : Ld w v ls) (l4 : ls.length ≤ 9223372036854775806) :
    Calls Try.prog 111 #[v, .int .i64 lo, .int .i64 hi] w fun e w' => e = .returned (.bool (afx lo hi ls)) ∧ w = w' := by
  obtain ⟨o, c, rfl, _, hx⟩ := h
  have HX := Lib.hid hx
  clear hx
  go_enter Try.func111, Try.ntmps111
  go_wp2
  go_loop [7] (fun s3 => ∃ k : Nat, k ≤ ls.length ∧ s3 = .int .i64 k ∧ Hid (∀ j, j < k → lo ≤ ls.getD j 0 ∧ ls.getD j 0 ≤ hi)) (fun s3 => ls.length - (intOf s3).toNat)
  case atStart => exact ⟨0, Nat.zero_le _, rfl, fun j hj => absurd hj (Nat.not_lt_zero _)⟩
  case round =>
    obtain ⟨k, hk, rfl, HK⟩ := hrel
    by_cases hlt : k < ls.length
    · obtain ⟨b, f, rfl, hb, hc⟩ := HX.out k hlt
      have HN : Hid (¬ (lo ≤ ls.getD k 0 ∧ ls.getD k 0 ≤ hi) → afx lo hi ls = false) := fun g => afx_no hlt g
      have HG : Hid (lo ≤ ls.getD k 0 ∧ ls.getD k 0 ≤ hi → ∀ j, j < k + 1 → lo ≤ ls.getD j 0 ∧ ls.getD j 0 ≤ hi) := fun g j hj => by
        by_cases e : j = k
        · subst e; exact g
        · exact HK.out j (by omega)
      generalize ls.getD k 0 = d at *
      by_cases g1 : d < lo
      · have R := Lib.hid (HN.out (by omega))
        go_wp2
        go_ret
        exact ⟨by rw [R.out]; rfl, rfl⟩
      by_cases g2 : hi < d
      · have R := Lib.hid (HN.out (by omega))
        go_wp2
        go_ret
        exact ⟨by rw [R.out]; rfl, rfl⟩
      have R := Lib.hid (HG.out (by omega))
      go_wp2
      refine ⟨⟨k + 1, by omega, by go_num, R⟩, by simp [intOf]; omega⟩
    · have R : Hid (afx lo hi ls = true) := afx_yes (fun i hi => HK.out i (by omega))
      go_wp2
      go_ret
      exact ⟨by rw [R.out]; rfl, rfl⟩
set_option maxRecDepth 100000 in
set_option maxHeartbeats 4000000 in
theorem kernel11_any (v : Value) (ls : List Int) (w : World) (h : Ld w v ls) (l4 : ls.length ≤ 9223372036854775806) :
    Calls Try.prog 20 #[v] w fun e w' => e = .returned (.bool (afr 1 ls)) ∧ w = w' := by
  rw [← afx_afr]
  obtain ⟨o, c, rfl, _, hx⟩ := h
  have HX := Lib.hid hx
  clear hx
  go_enter Try.func20, Try.ntmps20
  go_wp2
  go_loop [3] (fun s3 => ∃ k : Nat, k ≤ ls.length ∧ s3 = .int .i64 k ∧ Hid (∀ j, j < k → 1 ≤ ls.getD j 0 ∧ ls.getD j 0 ≤ 4096)) (fun s3 => ls.length - (intOf s3).toNat)
  case atStart => exact ⟨0, Nat.zero_le _, rfl, fun j hj => absurd hj (Nat.not_lt_zero _)⟩
  case round =>
    obtain ⟨k, hk, rfl, HK⟩ := hrel
    by_cases hlt : k < ls.length
    · obtain ⟨b, f, rfl, hb, hc⟩ := HX.out k hlt
      have HN : Hid (¬ (1 ≤ ls.getD k 0 ∧ ls.getD k 0 ≤ 4096) → afx 1 4096 ls = false) := fun g => afx_no hlt g
      have HG : Hid (1 ≤ ls.getD k 0 ∧ ls.getD k 0 ≤ 4096 → ∀ j, j < k + 1 → 1 ≤ ls.getD j 0 ∧ ls.getD j 0 ≤ 4096) := fun g j hj => by
        by_cases e : j = k
        · subst e; exact g
        · exact HK.out j (by omega)
      generalize ls.getD k 0 = d at *
      by_cases g1 : d < 1
      · have R := Lib.hid (HN.out (by omega))
        go_wp2
        go_ret
        exact ⟨by rw [R.out]; rfl, rfl⟩
      by_cases g2 : 4096 < d
      · have R := Lib.hid (HN.out (by omega))
        go_wp2
        go_ret
        exact ⟨by rw [R.out]; rfl, rfl⟩
      have R := Lib.hid (HG.out (by omega))
      go_wp2
      refine ⟨⟨k + 1, by omega, by go_num, R⟩, by simp [intOf]; omega⟩
    · have R : Hid (afx 1 4096 ls = true) := afx_yes (fun i hi => HK.out i (by omega))
      go_wp2
      go_ret
      exact ⟨by rw [R.out]; rfl, rfl⟩
theorem places11_some (l k s p d : Int) (w : World) (hs : 1 ≤ s) :
    Calls Try.prog 112 #[.int .i64 l, .int .i64 k, .int .i64 s, .int .i64 p, .int .i64 d] w fun e w' => (∃ r, e = .returned (.int .i64 r)) ∧ w = w' := by
  by_cases g : wrap64 (wrap64 (wrap64 (l + wrap64 (2 * p)) - wrap64 (d * wrap64 (k - 1))) - 1) < 0
  · go_enter Try.func112, Try.ntmps112
    go_wp2
    go_ret
    exact ⟨⟨_, rfl⟩, rfl⟩
  · go_enter Try.func112, Try.ntmps112
    go_wp2
    go_ret
    exact ⟨⟨_, rfl⟩, rfl⟩
end Go.Proofs.Ytnlfljekbknaaaa
namespace Go.Proofs.Ytnlfljekbknaaaa
open Go Go.RowKit Go.Shelf
attribute [local go_sem] Oper.semAt_some
set_option maxRecDepth 100000 in
set_option maxHeartbeats 8000000 in
theorem rmay11_any (vk vs vp vd : Value) (ks s p d : List Int) (w : World) (hk : Ld w vk ks) (hs : Ld w vs s) (hp : Ld w vp p) (hd : Ld w vd d) (l0 : ks.length ≤ 17592186044416) (l1 : s.length ≤ 17592186044416) (l2 : p.length ≤ 17592186044416) (l3 : d.length ≤ 17592186044416) :
    Calls Try.prog 75 #[.agg #[vk, vs, vp, vd], .bool false] w fun e w' => e = .returned (.bool (decide (ks.length = 0) && cnm s p d)) ∧ w' = w.alloc (.cells #[vk, vs, vp, vd] 28) := by
  have B1 := Lib.hid ((Below.refl w.heap.size w).alloc (Nat.le_refl _) (.cells #[vk, vs, vp, vd] 28))
  have CS := Lib.hid (all11_any vs s 1 4096 (w.alloc (.cells #[vk, vs, vp, vd] 28)) (hs.below B1.out) (by omega))
  have CD := Lib.hid (all11_any vd d 1 4096 (w.alloc (.cells #[vk, vs, vp, vd] 28)) (hd.below B1.out) (by omega))
  have CP := Lib.hid (all11_any vp p 0 4096 (w.alloc (.cells #[vk, vs, vp, vd] 28)) (hp.below B1.out) (by omega))
  have CK := Lib.hid (all11_any vk ks 1 4096 (w.alloc (.cells #[vk, vs, vp, vd] 28)) (hk.below B1.out) (by omega))
  rw [afx_afr] at CS CD CP CK
  obtain ⟨x0, x1, x2, x3⟩ := blk4c (Blk.new w 28 #[vk, vs, vp, vd])
  obtain ⟨ok, ck, rfl, _, _⟩ := hk
  obtain ⟨os, cs, rfl, _, _⟩ := hs
  obtain ⟨op, cp, rfl, _, _⟩ := hp
  obtain ⟨od, cd, rfl, _, _⟩ := hd
  obtain ⟨Q, hQ⟩ : ∃ Q, Q = (decide (ks.length = 0) && cnm s p d) := ⟨_, rfl⟩
  rw [← hQ]
  unfold cnm at hQ
  by_cases g0 : s.length = 1 ∨ s.length = 2
  · have e0 : (decide (s.length = 1) || decide (s.length = 2)) = true := by simpa using g0
    have m1 : ¬ s.length < 1 := by omega
    have m2 : ¬ 2 < s.length := by omega
    by_cases g1 : p.length = s.length
    · by_cases g2 : d.length = s.length
      · by_cases g3 : ks.length = 0
        · have b1 : ((p.length : Int) != (s.length : Int)) = false := by simp [g1]
          have b2 : ((d.length : Int) != (s.length : Int)) = false := by simp [g2]
          have b3 : ((ks.length : Int) != 0) = false := by simp [g3]
          have ek : afr 1 ks = true := by rw [List.eq_nil_of_length_eq_zero g3]; rfl
          rw [ek] at CK
          rw [e0, decide_eq_true g1, decide_eq_true g2, decide_eq_true g3] at hQ
          have HQ : Hid (Q = (afr 1 s && afr 0 p && afr 1 d)) := Lib.hid (by rw [hQ]; simp)
          clear hQ e0 g1 g2 g3 g0 ek
          all_goals
            cases q0 : afr 1 s <;> cases q1 : afr 0 p <;> cases q2 : afr 1 d
          all_goals
            rw [q0] at CS
            rw [q1] at CP
            rw [q2] at CD
            rw [q0, q1, q2] at HQ
            clear q0 q1 q2
            go_enter Try.func75, Try.ntmps75
            go_wp2_with (first | (go_at_call 111; (with_reducible refine CS.out.mono ?_); rintro e w' ⟨rfl, rfl⟩) | (go_at_call 111; (with_reducible refine CD.out.mono ?_); rintro e w' ⟨rfl, rfl⟩) | (go_at_call 111; (with_reducible refine CP.out.mono ?_); rintro e w' ⟨rfl, rfl⟩) | (go_at_call 111; (with_reducible refine CK.out.mono ?_); rintro e w' ⟨rfl, rfl⟩))
            go_ret
            exact ⟨by rw [HQ.out]; rfl, rfl⟩
        · have b1 : ((p.length : Int) != (s.length : Int)) = false := by simp [g1]
          have b2 : ((d.length : Int) != (s.length : Int)) = false := by simp [g2]
          have b3 : ((ks.length : Int) != 0) = true := by rw [bne_iff_ne]; omega
          have HQ : Hid (Q = false) := Lib.hid (by rw [hQ, decide_eq_false g3]; simp)
          clear hQ e0 g0 g1 g2 g3 CS CP CD CK
          go_enter Try.func75, Try.ntmps75
          go_wp2
          go_ret
          exact ⟨by rw [HQ.out]; rfl, rfl⟩
      · have b1 : ((p.length : Int) != (s.length : Int)) = false := by simp [g1]
        have b2 : ((d.length : Int) != (s.length : Int)) = true := by rw [bne_iff_ne]; omega
        have HQ : Hid (Q = false) := Lib.hid (by rw [hQ, decide_eq_false g2]; simp)
        clear hQ e0 g0 g1 g2 CS CP CD CK
        go_enter Try.func75, Try.ntmps75
        go_wp2
        go_ret
        exact ⟨by rw [HQ.out]; rfl, rfl⟩
    · have b1 : ((p.length : Int) != (s.length : Int)) = true := by rw [bne_iff_ne]; omega
      have HQ : Hid (Q = false) := Lib.hid (by rw [hQ, decide_eq_false g1]; simp)
      clear hQ e0 g0 g1 CS CP CD CK
      go_enter Try.func75, Try.ntmps75
      go_wp2
      go_ret
      exact ⟨by rw [HQ.out]; rfl, rfl⟩
  · have HQ : Hid (Q = false) := Lib.hid (by
      rw [hQ, show (decide (s.length = 1) || decide (s.length = 2)) = false by rw [Bool.or_eq_false_iff, decide_eq_false_iff_not, decide_eq_false_iff_not]; omega]; simp)
    have m : s.length < 1 ∨ ¬ s.length < 1 ∧ 2 < s.length := by omega
    clear hQ g0 CS CP CD CK
    rcases m with m1 | ⟨m1, m2⟩
    all_goals
      go_enter Try.func75, Try.ntmps75
      go_wp2
      go_ret
      exact ⟨by rw [HQ.out]; rfl, rfl⟩
end Go.Proofs.Ytnlfljekbknaaaa
namespace Go.Proofs.Ytnlfljekbknaaaa
open Go Go.RowKit Go.Shelf
attribute [local go_sem] Oper.semAt_some
/-- Yes or no, and nothing that was there is changed. -/
def Yn (w : World) (e : Ending) (w' : World) : Prop := (∃ b, e = .returned (.bool b)) ∧ Below w.heap.size w w'
/-- Yes or no, what a no says, and nothing that was there is changed. -/
def YnL (w : World) (q : Prop) (e : Ending) (w' : World) : Prop := ∃ b, e = .returned (.bool b) ∧ (b = false → q) ∧ Below w.heap.size w w'
set_option maxRecDepth 100000 in
set_option maxHeartbeats 8000000 in
theorem long11_any (vk vs vp vd : Value) (ks s p d : List Int) (w : World) (hk : Ld w vk ks) (hs : Ld w vs s) (hp : Ld w vp p) (hd : Ld w vd d) :
    Calls Try.prog 46 #[.agg #[vk, vs, vp, vd]] w (YnL w (ks.length ≤ 6 ∧ s.length ≤ 6 ∧ p.length ≤ 6 ∧ d.length ≤ 6)) := by
  obtain ⟨ok, ck, rfl, _, _⟩ := hk
  obtain ⟨os, cs, rfl, _, _⟩ := hs
  obtain ⟨op, cp, rfl, _, _⟩ := hp
  obtain ⟨od, cd, rfl, _, _⟩ := hd
  generalize ks.length = nk at *
  generalize s.length = ns at *
  generalize p.length = np at *
  generalize d.length = nd at *
  obtain ⟨x0, x1, x2, x3⟩ := blk4c (Blk.new w 28 #[.slice ok nk ck, .slice os ns cs, .slice op np cp, .slice od nd cd])
  obtain ⟨w2, hw2⟩ : ∃ w2, w2 = (w.alloc (.cells #[.slice ok nk ck, .slice os ns cs, .slice op np cp, .slice od nd cd] 28)).alloc (.cells #[.slice ok nk ck, .slice os ns cs, .slice op np cp, .slice od nd cd] 23) := ⟨_, rfl⟩
  have B2 : Hid (Below w.heap.size w w2) := Lib.hid (by rw [hw2]; exact ((Below.refl _ _).alloc (Nat.le_refl _) _).alloc (by simp) _)
  obtain ⟨LN, hLN⟩ : ∃ f : Nat → Nat, f = fun k => [nk, ns, np, nd].getD k 0 := ⟨_, rfl⟩
  have HC : Hid (∀ k, k < 4 → ∃ o c, w2.cell? ⟨w.heap.size + 1, k, none⟩ = some (.slice o (LN k) c)) := Lib.hid (fun k hk => by
    have q := Blk.new (w.alloc (.cells #[.slice ok nk ck, .slice os ns cs, .slice op np cp, .slice od nd cd] 28)) 23 #[.slice ok nk ck, .slice os ns cs, .slice op np cp, .slice od nd cd]
    rw [← hw2, World.size_alloc] at q
    rcases (show k = 0 ∨ k = 1 ∨ k = 2 ∨ k = 3 by omega) with rfl | rfl | rfl | rfl
    · exact ⟨_, _, by rw [hLN]; exact q.cell 0⟩
    · exact ⟨_, _, by rw [hLN]; exact q.cell 1⟩
    · exact ⟨_, _, by rw [hLN]; exact q.cell 2⟩
    · exact ⟨_, _, by rw [hLN]; exact q.cell 3⟩)
  have HL4 : Hid ((∀ j, j < 4 → LN j ≤ 6) → nk ≤ 6 ∧ ns ≤ 6 ∧ np ≤ 6 ∧ nd ≤ 6) := Lib.hid (fun h => by
    rw [hLN] at h
    exact ⟨h 0 (by decide), h 1 (by decide), h 2 (by decide), h 3 (by decide)⟩)
  clear hLN
  have HW := Lib.hid hw2
  clear hw2
  go_enter Try.func46, Try.ntmps46
  go_wp2
  rw [← HW.out]
  go_loop [4] (fun s4 => ∃ k : Nat, k ≤ 4 ∧ s4 = .int .i64 k ∧ Hid (∀ j, j < k → LN j ≤ 6)) (fun s4 => 4 - (intOf s4).toNat)
  case atStart => exact ⟨0, Nat.zero_le _, rfl, fun j hj => absurd hj (Nat.not_lt_zero _)⟩
  case round =>
    obtain ⟨k, hk, rfl, HK⟩ := hrel
    by_cases hlt : k < 4
    · obtain ⟨o, c, hc⟩ := HC.out k hlt
      have HG : Hid (¬ 6 < LN k → ∀ j, j < k + 1 → LN j ≤ 6) := Lib.hid (fun g j hj => by
        by_cases e : j = k
        · subst e; omega
        · exact HK.out j (by omega))
      generalize LN k = n at hc HG
      have hc' : w2.cell? ⟨w.heap.size + 1, 0 + k, none⟩ = some (.slice o n c) := by rw [Nat.zero_add]; exact hc
      by_cases g : 6 < n
      · go_wp2
        go_ret
        exact ⟨_, rfl, fun h => by simp at h, B2.out⟩
      · have R := Lib.hid (HG.out g)
        clear HG
        go_wp2
        refine ⟨⟨k + 1, by omega, by go_num, R⟩, by simp [intOf]; omega⟩
    · have R := Lib.hid (HL4.out (fun j hj => HK.out j (by omega)))
      go_wp2
      go_ret
      exact ⟨_, rfl, fun _ => R.out, B2.out⟩
end Go.Proofs.Ytnlfljekbknaaaa
