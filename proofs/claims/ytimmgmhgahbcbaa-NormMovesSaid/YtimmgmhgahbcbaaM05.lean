/-
  Words: what the calls of package fx do, said of whole numbers.
  package elem: Check.
  What is played; told tensors as lists; small slices just laid.
  Cells of lists, parts of lists, small numbers in a walk.
-/
import Derived.BigQuiet
import Derived.Test.YtimmgmhgahbcbaaM01
import Derived.Test.YtimmgmhgahbcbaaM02
import Derived.Test.YtimmgmhgahbcbaaM03
import Derived.Test.YtimmgmhgahbcbaaM04
namespace Go.Proofs.Ytimmgmhgahbcbaa
open Go.RowKit

/-- Is v a word? -/
def wd (v : Int) : Bool := decide (-140737488355328 < v ∧ v < 140737488355328)
/-- Are these counts of fraction bits? -/
def fb (f : Int) : Bool := decide (8 ≤ f ∧ f ≤ 32)
/-- A number told as a word; and the error beside it. -/
def tw (v : Int) : Int := if wd v = true then v else 0
def te (v : Int) : Int := if wd v = true then 0 else 3
theorem wd_bd {v : Int} (h : wd v = true) : -140737488355328 < v ∧ v < 140737488355328 := of_decide_eq_true h
theorem wd_mk {v : Int} (h : -140737488355328 < v ∧ v < 140737488355328) : wd v = true := decide_eq_true h
theorem wd_no {v : Int} (h : wd v = false) : v ≤ -140737488355328 ∨ 140737488355328 ≤ v := by have := of_decide_eq_false h; omega
theorem fb_bd {f : Int} (h : fb f = true) : 8 ≤ f ∧ f ≤ 32 := of_decide_eq_true h
theorem fb_mk {f : Int} (h : 8 ≤ f ∧ f ≤ 32) : fb f = true := decide_eq_true h
theorem fb_no {f : Int} (h : fb f = false) : f < 8 ∨ 32 < f := by have := of_decide_eq_false h; omega
theorem tw_in {v : Int} (h : wd v = true) : tw v = v := if_pos h
theorem te_in {v : Int} (h : wd v = true) : te v = 0 := if_pos h
theorem tw_out {v : Int} (h : wd v = false) : tw v = 0 := if_neg (by simp [h])
theorem te_out {v : Int} (h : wd v = false) : te v = 3 := if_neg (by simp [h])
/-- fx.Check -/
theorem check_any (v : Int) (w : World) : Calls Try.prog 29 #[.int .i64 v] w fun e w' => e = .returned (.int .i64 (if wd v = true then 0 else 1)) ∧ w = w' := by
  cases g : wd v with
  | true =>
    obtain ⟨g1, g2⟩ := wd_bd g
    clear g
    go_enter Try.func29, Try.ntmps29
    go_wp2
    go_ret
    exact ⟨rfl, rfl⟩
  | false =>
    have h := wd_no g
    clear g
    by_cases g1 : v ≤ -140737488355328
    · clear h
      go_enter Try.func29, Try.ntmps29
      go_wp2
      go_ret
      exact ⟨rfl, rfl⟩
    · have g2 : 140737488355328 ≤ v := by omega
      clear h
      go_enter Try.func29, Try.ntmps29
      go_wp2
      go_ret
      exact ⟨rfl, rfl⟩
/-- fx.CheckF -/
theorem checkf_any (v : Int) (w : World) : Calls Try.prog 30 #[.int .i64 v] w fun e w' => e = .returned (.int .i64 (if fb v = true then 0 else 1)) ∧ w = w' := by
  cases g : fb v with
  | true =>
    obtain ⟨g1, g2⟩ := fb_bd g
    clear g
    go_enter Try.func30, Try.ntmps30
    go_wp2
    go_ret
    exact ⟨rfl, rfl⟩
  | false =>
    have h := fb_no g
    clear g
    by_cases g1 : v < 8
    · clear h
      go_enter Try.func30, Try.ntmps30
      go_wp2
      go_ret
      exact ⟨rfl, rfl⟩
    · have g2 : 32 < v := by omega
      clear h
      go_enter Try.func30, Try.ntmps30
      go_wp2
      go_ret
      exact ⟨rfl, rfl⟩
end Go.Proofs.Ytimmgmhgahbcbaa
namespace Go.Proofs.Ytimmgmhgahbcbaa
open Go Go.RowKit Go.Shelf

theorem tnb_parts {sh ds : List Int} (h : tnb sh ds = true) : may sh = true ∧ (ds.length : Int) = prod sh ∧ wds ds = true := by
  unfold tnb at h
  simp only [Bool.and_eq_true, decide_eq_true_eq] at h
  exact ⟨h.1.1, h.1.2, h.2⟩
set_option maxRecDepth 100000 in
set_option maxHeartbeats 4000000 in
theorem echeck_any (vs vd : Value) (sh ds : List Int) (w : World) (hs : Ld w vs sh) (hd : Ld w vd ds) (_ls : sh.length ≤ 17592186044416) (ld : ds.length ≤ 17592186044416) :
    Calls Try.prog 28 #[.agg #[vs, vd]] w fun e w' => e = .returned (.int .i64 (if tnb sh ds = true then 0 else 1)) ∧ Below w.heap.size w w' := by
  obtain ⟨RR, hRR⟩ : ∃ RR : Int, RR = if tnb sh ds = true then 0 else 1 := ⟨_, rfl⟩
  rw [← hRR]
  have HRR := Lib.hid hRR
  clear hRR
  have B0 := Lib.hid ((Below.refl w.heap.size w).alloc (Nat.le_refl _) (.cells #[vs, vd] 26))
  obtain ⟨op, cp, rfl, _, _⟩ := id hs
  obtain ⟨od, cd, rfl, _, hx⟩ := id hd
  have HX := Lib.hid hx
  have WC := Lib.hid (fun (v : Int) (W : World) => check_any v W)
  cases hm : may sh with
  | false =>
    have C := Lib.hid (count_no _ sh _ (hs.below B0.out) hm)
    have E : Hid (tnb sh ds = false) := by unfold tnb; rw [hm]; exact Lib.hid (by simp)
    clear hs hd hm hx
    go_enter Try.func28, Try.ntmps28
    go_wp2_with (go_at_call 49; (with_reducible refine C.out.mono ?_); rintro e w' ⟨rfl, rfl⟩)
    go_ret
    exact ⟨by rw [HRR.out, E.out]; rfl, B0.out⟩
  | true =>
    have C := Lib.hid (count_ok _ sh _ (hs.below B0.out) hm)
    have E : Hid (tnb sh ds = (decide ((ds.length : Int) = prod sh) && wds ds)) := by unfold tnb; rw [hm]; exact Lib.hid (by simp)
    clear hs hd hm hx
    generalize prod sh = n at *
    by_cases q : (ds.length : Int) = n
    · have b1 : ((ds.length : Int) != n) = false := by simpa using q
      have E2 : Hid (tnb sh ds = wds ds) := by rw [Hid, E.out, decide_eq_true q, Bool.true_and]
      clear q E
      go_enter Try.func28, Try.ntmps28
      go_wp2_with (go_at_call 49; (with_reducible refine C.out.mono ?_); rintro e w' ⟨rfl, rfl⟩)
      go_loopw [25] (fun s25 wr => ∃ k : Nat, k ≤ ds.length ∧ s25 = .int .i64 k ∧ Hid (∀ j, j < k → wd (ds.getD j 0) = true) ∧ Hid (Below w.heap.size w wr)) (fun s25 _ => ds.length - (intOf s25).toNat)
      case atStart => exact ⟨0, Nat.zero_le _, rfl, fun j hj => absurd hj (Nat.not_lt_zero _), B0⟩
      case round =>
        obtain ⟨k, hk, rfl, HK, HB⟩ := hrel
        by_cases hlt : k < ds.length
        · obtain ⟨b, f, rfl, h1, c1⟩ := HX.out k hlt
          have c2 : wr.cell? ⟨b, f + k, none⟩ = some (.int .i64 (ds.getD k 0)) := (HB.out.cell (p := ⟨b, f + k, none⟩) h1).trans c1
          clear c1
          cases g : wd (ds.getD k 0) with
          | true =>
            have HG : Hid (∀ j, j < k + 1 → wd (ds.getD j 0) = true) := fun j hj => by
              by_cases e : j = k
              · rw [e]; exact g
              · exact HK.out j (by omega)
            have W1 := WC.out (ds.getD k 0)
            rw [g, if_pos rfl] at W1
            replace W1 := Lib.hid W1
            clear g
            generalize ds.getD k 0 = x at *
            go_wp2_with (go_at_call 29; (with_reducible refine (W1.out _).mono ?_); rintro e w' ⟨rfl, rfl⟩)
            exact ⟨⟨k + 1, by omega, by go_num, HG, HB⟩, by simp [intOf]; omega⟩
          | false =>
            have HG : Hid (wds ds = false) := wds_no hlt (fun h => by rw [wd_mk h] at g; cases g)
            have W1 := WC.out (ds.getD k 0)
            rw [g, if_neg (by decide)] at W1
            replace W1 := Lib.hid W1
            clear g
            generalize ds.getD k 0 = x at *
            go_wp2_with (go_at_call 29; (with_reducible refine (W1.out _).mono ?_); rintro e w' ⟨rfl, rfl⟩)
            go_ret
            exact ⟨by rw [HRR.out, E2.out, HG.out]; rfl, HB.out⟩
        · have HG : Hid (wds ds = true) := wds_yes (fun j hj => wd_bd (HK.out j (by omega)))
          go_wp2
          go_ret
          exact ⟨by rw [HRR.out, E2.out, HG.out]; rfl, HB.out⟩
    · have b1 : ((ds.length : Int) != n) = true := by simpa using q
      have E2 : Hid (tnb sh ds = false) := by rw [Hid, E.out, decide_eq_false q, Bool.false_and]
      clear q E
      go_enter Try.func28, Try.ntmps28
      go_wp2_with (go_at_call 49; (with_reducible refine C.out.mono ?_); rintro e w' ⟨rfl, rfl⟩)
      go_ret
      exact ⟨by rw [HRR.out, E2.out]; rfl, B0.out⟩
end Go.Proofs.Ytimmgmhgahbcbaa
namespace Go.Proofs.Ytimmgmhgahbcbaa
open Go.RowKit Go.Shelf

/-- More words than are played? -/
def hv8 (m : Int) (s d : List Int) : Bool := decide (m < d.length) || decide (8 < s.length)
theorem hv8_no {m : Int} {s d : List Int} (h : hv8 m s d = false) : (d.length : Int) ≤ m ∧ s.length ≤ 8 := by
  unfold hv8 at h
  simp only [Bool.or_eq_false_iff, decide_eq_false_iff_not] at h
  omega
set_option maxRecDepth 100000 in
set_option maxHeartbeats 2000000 in
theorem heavy8_any (va vb : Value) (s d : List Int) (m : Int) (w : World) (ha : Ld w va s) (hb : Ld w vb d) (l1 : s.length ≤ 9223372036854775807) (_l2 : d.length ≤ 9223372036854775807) :
    Calls Try.prog 5 #[.agg #[va, vb], .int .i64 m] w fun e w' => e = .returned (.bool (hv8 m s d)) ∧ Below w.heap.size w w' := by
  obtain ⟨os, cs, rfl, _, _⟩ := ha
  obtain ⟨od, cd, rfl, _, _⟩ := hb
  obtain ⟨Q, hQ⟩ : ∃ Q, Q = hv8 m s d := ⟨_, rfl⟩
  rw [← hQ]
  unfold hv8 at hQ
  generalize s.length = ns at *
  generalize d.length = nd at *
  have hB0 : Below w.heap.size w (w.alloc (.cells #[.slice os ns cs, .slice od nd cd] 26)) := (Below.refl _ _).alloc (Nat.le_refl _) _
  by_cases g1 : m < nd
  · have E : Hid (Q = true) := by rw [hQ, decide_eq_true g1]; exact Lib.hid rfl
    clear hQ
    go_enter Try.func5, Try.ntmps5
    go_wp2
    go_ret
    exact ⟨by rw [E.out]; first | rfl | (show Ending.returned (.bool _) = _; congr 2; simp; omega), hB0⟩
  · by_cases g2 : 8 < ns
    · have E : Hid (Q = true) := by rw [hQ, decide_eq_true g2]; exact Lib.hid (by simp)
      clear hQ
      go_enter Try.func5, Try.ntmps5
      go_wp2
      go_ret
      exact ⟨by rw [E.out]; first | rfl | (show Ending.returned (.bool _) = _; congr 2; simp; omega), hB0⟩
    · have E : Hid (Q = false) := by rw [hQ, decide_eq_false g1, decide_eq_false g2]; exact Lib.hid rfl
      clear hQ
      go_enter Try.func5, Try.ntmps5
      go_wp2
      go_ret
      exact ⟨by rw [E.out]; first | rfl | (show Ending.returned (.bool _) = _; congr 2; simp; omega), hB0⟩
/-- A told tensor reads as its lists. -/
theorem someT_ld {w W : World} {er : Int} {sh ds : List Int} {e : Ending} (h : SomeT w er sh ds e W) : ∃ vs vd, e = .returned (.tuple #[.agg #[vs, vd], .int .i64 er]) ∧ Ld W vs sh ∧ Ld W vd ds ∧ Below w.heap.size w W := by
  obtain ⟨os, cs, od, cd, rfl, h1, h2, hb⟩ := h
  obtain ⟨_, _, e1, h3⟩ := Ld.of_owns h1
  obtain ⟨_, _, e2, h4⟩ := Ld.of_owns h2
  simp only [Value.slice.injEq] at e1 e2
  obtain ⟨rfl, _, rfl⟩ := e1
  obtain ⟨rfl, _, rfl⟩ := e2
  exact ⟨_, _, rfl, h3, h4, hb⟩
theorem ld1 {W : World} {n : Nat} {t : TypeId} {x : Int} (h : W.heap.size = n) : Ld (W.alloc (.cells #[.int .i64 x] t)) (.slice (some ⟨n, 0, none⟩) 1 1) [x] := by
  subst h; exact Ld.of_blk (ls := [x]) (Blk.new W t _) (Nat.le_refl _)
theorem ld2 {W : World} {n : Nat} {t : TypeId} {x y : Int} (h : W.heap.size = n) : Ld (W.alloc (.cells #[.int .i64 x, .int .i64 y] t)) (.slice (some ⟨n, 0, none⟩) 2 2) [x, y] := by
  subst h; exact Ld.of_blk (ls := [x, y]) (Blk.new W t _) (Nat.le_refl _)
theorem al_below {W : World} (o : Obj) : Below W.heap.size W (W.alloc o) := (Below.refl _ _).alloc (Nat.le_refl _) o
end Go.Proofs.Ytimmgmhgahbcbaa
namespace Go.Proofs.Ytimmgmhgahbcbaa
open Go.RowKit Go.Shelf

theorem mid_getD1 {ls : List Int} {lo n k : Nat} (h : k < n) : ((ls.drop lo).take n).getD k 0 = ls.getD (lo + k) 0 := by
  simp [List.getD, List.getElem?_drop, h]
theorem Ld.of_own {W : World} {base c : Nat} {o : Option Addr} {e : TypeId} {ls : List Int} (h : W.ownsRow base e 1 (.slice o ls.length c) ls.length (ints ls)) : Ld W (.slice o ls.length c) ls := by
  obtain ⟨_, _, e1, h3⟩ := Ld.of_owns h
  simp only [Value.slice.injEq] at e1
  obtain ⟨rfl, _, rfl⟩ := e1
  exact h3
theorem Ld.of_own' {W : World} {base n c : Nat} {o : Option Addr} {e : TypeId} {ls : List Int} (h : W.ownsRow base e 1 (.slice o n c) n (ints ls)) (hn : ls.length = n) : Ld W (.slice o n c) ls := by
  subst hn; exact Ld.of_own h
/-- The n-th number's cell. -/
theorem ld_at {W : World} {o : Option Addr} {n c k : Nat} {ls : List Int} (h : Ld W (.slice o n c) ls) (hk : k < ls.length) : ∃ g f, o = some ⟨g, f, none⟩ ∧ W.cell? ⟨g, f + k, none⟩ = some (.int .i64 (ls.getD k 0)) := by
  obtain ⟨o2, c2, e, _, h2⟩ := h
  simp only [Value.slice.injEq] at e
  obtain ⟨rfl, _, rfl⟩ := e
  obtain ⟨g, f, e1, _, h4⟩ := h2 k hk
  exact ⟨g, f, e1, h4⟩
theorem ld_cell {W : World} {g f n c k : Nat} {ls : List Int} (h : Ld W (.slice (some ⟨g, f, none⟩) n c) ls) (hk : k < ls.length) : W.cell? ⟨g, f + k, none⟩ = some (.int .i64 (ls.getD k 0)) := by
  obtain ⟨g', f', e, h2⟩ := ld_at h hk
  simp only [Option.some.injEq, Addr.mk.injEq, and_true] at e
  obtain ⟨rfl, rfl⟩ := e
  exact h2
theorem eqw_same (va vb : Value) (l : List Int) (W : World) (ha : Ld W va l) (hb : Ld W vb l) (hl : l.length ≤ 17592186044416) : Calls Try.prog 35 #[va, vb] W fun e w' => e = .returned (.bool true) ∧ Below W.heap.size W w' := by
  have C4 := eqw_any va vb l l W ha hb hl hl
  rwa [show decide (l = l) = true by simp] at C4
end Go.Proofs.Ytimmgmhgahbcbaa
