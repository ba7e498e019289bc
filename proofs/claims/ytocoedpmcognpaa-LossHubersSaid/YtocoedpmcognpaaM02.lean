/-
  Words: what the calls of package fx do, said of whole numbers.
  package elem: Check.
  package reduce: are these axes? what words go where.
  package reduce: where the words of a tensor go (reduced), and the place under an index.
  What the calls of package wide do, said of whole numbers: sums, differences, small numbers.
  What the calls of package wide do, said of whole numbers: From, Small, Neg, and the statements' own small functions.
  package reduce: sums by where words go.
  elem.each: the words of a shape's places in order, whatever is asked of each; the first one's error.
  Sizes (whole numbers of 128 bits without a sign): their halves behind a shift, their lengths.
  What the calls on sizes (whole numbers of 128 bits without a sign) do.
  Sizes: a bit set, a sign laid on, a whole number's size.
  What the calls on sizes do, the second half: a bit set, a sign laid on, a whole number's size.
-/
import Derived.BigQuiet
import Derived.Deep.AppendLies
import Derived.Deep.RegionHeld3
import Derived.Deep.DeepCutAuto
import Derived.OwnWalkIn
import Derived.Laws.BitsAllLaws
import Derived.Lib.BitFns
import Derived.Lib.ItoaNum
import Derived.Test.YtocoedpmcognpaaShelf
import Derived.Test.YtocoedpmcognpaaM01
namespace Go.Proofs.Ytocoedpmcognpaa
open Go.RowKit

/-- Is v a word? -/
def wd (v : Int) : Bool := decide (-140737488355328 < v ∧ v < 140737488355328)
/-- Are these counts of fraction bits? -/
def fb (f : Int) : Bool := decide (8 ≤ f ∧ f ≤ 32)
/-- A number told as a word; and the error beside it. -/
def tw (v : Int) : Int := if wd v = true then v else 0
def te (v : Int) : Int := if wd v = true then 0 else 3
theorem wd_bd {v : Int} (h : wd v = true) : -140737488355328 < v ∧ v < 140737488355328 := of_decide_eq_true h
theorem wd_mk {v : Int} (h : -140737488355328 < v ∧ v < 140737488355328) : wd v = true := decide_eq_true h
theorem wd_no {v : Int} (h : wd v = false) : v ≤ -140737488355328 ∨ 140737488355328 ≤ v := by have := of_decide_eq_false h; omega
theorem fb_bd {f : Int} (h : fb f = true) : 8 ≤ f ∧ f ≤ 32 := of_decide_eq_true h
theorem fb_mk {f : Int} (h : 8 ≤ f ∧ f ≤ 32) : fb f = true := decide_eq_true h
theorem fb_no {f : Int} (h : fb f = false) : f < 8 ∨ 32 < f := by have := of_decide_eq_false h; omega
theorem tw_in {v : Int} (h : wd v = true) : tw v = v := if_pos h
theorem te_in {v : Int} (h : wd v = true) : te v = 0 := if_pos h
theorem tw_out {v : Int} (h : wd v = false) : tw v = 0 := if_neg (by simp [h])
theorem te_out {v : Int} (h : wd v = false) : te v = 3 := if_neg (by simp [h])
/-- fx.Check -/
theorem check_any (v : Int) (w : World) : Calls Try.prog 21 #[.int .i64 v] w fun e w' => e = .returned (.int .i64 (if wd v = true then 0 else 1)) ∧ w = w' := by
  cases g : wd v with
  | true =>
    obtain ⟨g1, g2⟩ := wd_bd g
    clear g
    go_enter Try.func21, Try.ntmps21
    go_wp2
    go_ret
    exact ⟨rfl, rfl⟩
  | false =>
    have h := wd_no g
    clear g
    by_cases g1 : v ≤ -140737488355328
    · clear h
      go_enter Try.func21, Try.ntmps21
      go_wp2
      go_ret
      exact ⟨rfl, rfl⟩
    · have g2 : 140737488355328 ≤ v := by omega
      clear h
      go_enter Try.func21, Try.ntmps21
      go_wp2
      go_ret
      exact ⟨rfl, rfl⟩
/-- fx.CheckF -/
theorem checkf_any (v : Int) (w : World) : Calls Try.prog 26 #[.int .i64 v] w fun e w' => e = .returned (.int .i64 (if fb v = true then 0 else 1)) ∧ w = w' := by
  cases g : fb v with
  | true =>
    obtain ⟨g1, g2⟩ := fb_bd g
    clear g
    go_enter Try.func26, Try.ntmps26
    go_wp2
    go_ret
    exact ⟨rfl, rfl⟩
  | false =>
    have h := fb_no g
    clear g
    by_cases g1 : v < 8
    · clear h
      go_enter Try.func26, Try.ntmps26
      go_wp2
      go_ret
      exact ⟨rfl, rfl⟩
    · have g2 : 32 < v := by omega
      clear h
      go_enter Try.func26, Try.ntmps26
      go_wp2
      go_ret
      exact ⟨rfl, rfl⟩
/-- fx.told -/
theorem told_any (v : Int) (w : World) : Calls Try.prog 58 #[.int .i64 v] w fun e w' => e = .returned (.tuple #[.int .i64 (tw v), .int .i64 (te v)]) ∧ w = w' := by
  have C := Lib.hid (fun W : World => check_any v W)
  cases g : wd v with
  | true =>
    rw [g] at C
    have H := Lib.hid (And.intro (tw_in g) (te_in g))
    clear g
    go_enter Try.func58, Try.ntmps58
    go_wp2_with (go_at_call 21; (with_reducible refine (C.out _).mono ?_); rintro e w' ⟨rfl, rfl⟩)
    go_ret2
    exact ⟨by rw [H.out.1, H.out.2] <;> rfl, rfl⟩
  | false =>
    rw [g] at C
    have H := Lib.hid (And.intro (tw_out g) (te_out g))
    clear g
    go_enter Try.func58, Try.ntmps58
    go_wp2_with (go_at_call 21; (with_reducible refine (C.out _).mono ?_); rintro e w' ⟨rfl, rfl⟩)
    go_ret2
    exact ⟨by rw [H.out.1, H.out.2] <;> rfl, rfl⟩
end Go.Proofs.Ytocoedpmcognpaa
namespace Go.Proofs.Ytocoedpmcognpaa
open Go Go.RowKit Go.Shelf

theorem tnb_parts {sh ds : List Int} (h : tnb sh ds = true) : may sh = true ∧ (ds.length : Int) = prod sh ∧ wds ds = true := by
  unfold tnb at h
  simp only [Bool.and_eq_true, decide_eq_true_eq] at h
  exact ⟨h.1.1, h.1.2, h.2⟩
set_option maxRecDepth 100000 in
set_option maxHeartbeats 4000000 in
theorem echeck_any (vs vd : Value) (sh ds : List Int) (w : World) (hs : Ld w vs sh) (hd : Ld w vd ds) (_ls : sh.length ≤ 17592186044416) (ld : ds.length ≤ 17592186044416) :
    Calls Try.prog 25 #[.agg #[vs, vd]] w fun e w' => e = .returned (.int .i64 (if tnb sh ds = true then 0 else 1)) ∧ Below w.heap.size w w' := by
  obtain ⟨RR, hRR⟩ : ∃ RR : Int, RR = if tnb sh ds = true then 0 else 1 := ⟨_, rfl⟩
  rw [← hRR]
  have HRR := Lib.hid hRR
  clear hRR
  have B0 := Lib.hid ((Below.refl w.heap.size w).alloc (Nat.le_refl _) (.cells #[vs, vd] 26))
  obtain ⟨op, cp, rfl, _, _⟩ := id hs
  obtain ⟨od, cd, rfl, _, hx⟩ := id hd
  have HX := Lib.hid hx
  have WC := Lib.hid (fun (v : Int) (W : World) => check_any v W)
  cases hm : may sh with
  | false =>
    have C := Lib.hid (count_no _ sh _ (hs.below B0.out) hm)
    have E : Hid (tnb sh ds = false) := by unfold tnb; rw [hm]; exact Lib.hid (by simp)
    clear hs hd hm hx
    go_enter Try.func25, Try.ntmps25
    go_wp2_with (go_at_call 33; (with_reducible refine C.out.mono ?_); rintro e w' ⟨rfl, rfl⟩)
    go_ret
    exact ⟨by rw [HRR.out, E.out]; rfl, B0.out⟩
  | true =>
    have C := Lib.hid (count_ok _ sh _ (hs.below B0.out) hm)
    have E : Hid (tnb sh ds = (decide ((ds.length : Int) = prod sh) && wds ds)) := by unfold tnb; rw [hm]; exact Lib.hid (by simp)
    clear hs hd hm hx
    generalize prod sh = n at *
    by_cases q : (ds.length : Int) = n
    · have b1 : ((ds.length : Int) != n) = false := by simpa using q
      have E2 : Hid (tnb sh ds = wds ds) := by rw [Hid, E.out, decide_eq_true q, Bool.true_and]
      clear q E
      go_enter Try.func25, Try.ntmps25
      go_wp2_with (go_at_call 33; (with_reducible refine C.out.mono ?_); rintro e w' ⟨rfl, rfl⟩)
      go_loopw [25] (fun s25 wr => ∃ k : Nat, k ≤ ds.length ∧ s25 = .int .i64 k ∧ Hid (∀ j, j < k → wd (ds.getD j 0) = true) ∧ Hid (Below w.heap.size w wr)) (fun s25 _ => ds.length - (intOf s25).toNat)
      case atStart => exact ⟨0, Nat.zero_le _, rfl, fun j hj => absurd hj (Nat.not_lt_zero _), B0⟩
      case round =>
        obtain ⟨k, hk, rfl, HK, HB⟩ := hrel
        by_cases hlt : k < ds.length
        · obtain ⟨b, f, rfl, h1, c1⟩ := HX.out k hlt
          have c2 : wr.cell? ⟨b, f + k, none⟩ = some (.int .i64 (ds.getD k 0)) := (HB.out.cell (p := ⟨b, f + k, none⟩) h1).trans c1
          clear c1
          cases g : wd (ds.getD k 0) with
          | true =>
            have HG : Hid (∀ j, j < k + 1 → wd (ds.getD j 0) = true) := fun j hj => by
              by_cases e : j = k
              · rw [e]; exact g
              · exact HK.out j (by omega)
            have W1 := WC.out (ds.getD k 0)
            rw [g, if_pos rfl] at W1
            replace W1 := Lib.hid W1
            clear g
            generalize ds.getD k 0 = x at *
            go_wp2_with (go_at_call 21; (with_reducible refine (W1.out _).mono ?_); rintro e w' ⟨rfl, rfl⟩)
            exact ⟨⟨k + 1, by omega, by go_num, HG, HB⟩, by simp [intOf]; omega⟩
          | false =>
            have HG : Hid (wds ds = false) := wds_no hlt (fun h => by rw [wd_mk h] at g; cases g)
            have W1 := WC.out (ds.getD k 0)
            rw [g, if_neg (by decide)] at W1
            replace W1 := Lib.hid W1
            clear g
            generalize ds.getD k 0 = x at *
            go_wp2_with (go_at_call 21; (with_reducible refine (W1.out _).mono ?_); rintro e w' ⟨rfl, rfl⟩)
            go_ret
            exact ⟨by rw [HRR.out, E2.out, HG.out]; rfl, HB.out⟩
        · have HG : Hid (wds ds = true) := wds_yes (fun j hj => wd_bd (HK.out j (by omega)))
          go_wp2
          go_ret
          exact ⟨by rw [HRR.out, E2.out, HG.out]; rfl, HB.out⟩
    · have b1 : ((ds.length : Int) != n) = true := by simpa using q
      have E2 : Hid (tnb sh ds = false) := by rw [Hid, E.out, decide_eq_false q, Bool.false_and]
      clear q E
      go_enter Try.func25, Try.ntmps25
      go_wp2_with (go_at_call 33; (with_reducible refine C.out.mono ?_); rintro e w' ⟨rfl, rfl⟩)
      go_ret
      exact ⟨by rw [HRR.out, E2.out]; rfl, B0.out⟩
end Go.Proofs.Ytocoedpmcognpaa
namespace Go.Proofs.Ytocoedpmcognpaa
open Go Go.RowKit Go.Shelf

end Go.Proofs.Ytocoedpmcognpaa
namespace Go.Proofs.Ytocoedpmcognpaa
open Go Go.RowKit Go.Shelf

end Go.Proofs.Ytocoedpmcognpaa
namespace Go.Proofs.Ytocoedpmcognpaa
open Go.RowKit

theorem add64 (x y c : Int) (hx : 0 ≤ x) (hy : 0 ≤ y) (hc0 : 0 ≤ c) (hc : c ≤ 1) (w : World) : (callFunc 34 #[.int .u64 x, .int .u64 y, .int .u64 c]).run Try.prog w =
    .ok (.value (.tuple #[.int .u64 ((x + y + c) % 18446744073709551616), .int .u64 ((x + y + c) / 18446744073709551616)])) w := by
  rw [run_callFunc_extern Try.func34 (by kernel_rfl) (by kernel_rfl) (by kernel_rfl) (e := add64Entry) (by kernel_rfl), run_add64 x y c hx hy hc0 hc]
  rfl
theorem sub64 (x y b : Int) (hx : 0 ≤ x) (hy : 0 ≤ y) (hy' : y < 18446744073709551616) (hb0 : 0 ≤ b) (hb : b ≤ 1) (w : World) : (callFunc 54 #[.int .u64 x, .int .u64 y, .int .u64 b]).run Try.prog w =
    .ok (.value (.tuple #[.int .u64 ((x - y - b) % 18446744073709551616), .int .u64 (if x < y + b then 1 else 0)])) w := by
  obtain ⟨x, rfl⟩ := Int.eq_ofNat_of_zero_le hx
  obtain ⟨y, rfl⟩ := Int.eq_ofNat_of_zero_le hy
  obtain ⟨b, rfl⟩ := Int.eq_ofNat_of_zero_le hb0
  have e1 : (((x + 18446744073709551616 - y - b) % 18446744073709551616 : Nat) : Int) = ((x : Int) - y - b) % 18446744073709551616 := by omega
  have e2 : ((if x < y + b then 1 else 0 : Nat) : Int) = if (x : Int) < y + b then 1 else 0 := by split <;> split <;> omega
  rw [← e1, ← e2, run_callFunc_extern Try.func54 (by kernel_rfl) (by kernel_rfl) (by kernel_rfl) (e := sub64Entry) (by kernel_rfl), run_sub64 x y b (by omega)]
  rfl
theorem add64_0 (x y : Int) (hx : 0 ≤ x) (hy : 0 ≤ y) (w : World) : (callFunc 34 #[.int .u64 x, .int .u64 y, .int .u64 0]).run Try.prog w =
    .ok (.value (.tuple #[.int .u64 ((x + y) % 18446744073709551616), .int .u64 ((x + y) / 18446744073709551616)])) w := by
  simpa using add64 x y 0 hx hy (Int.le_refl 0) (by decide) w
def bor (x y : Int) : Int := if x < y then 1 else 0
theorem bor_bd (x y : Int) : 0 ≤ bor x y ∧ bor x y ≤ 1 := by unfold bor; split <;> decide
theorem sub64_b (x y b : Int) (hx : 0 ≤ x) (hy : 0 ≤ y) (hy' : y < 18446744073709551616) (hb0 : 0 ≤ b) (hb : b ≤ 1) (w : World) : (callFunc 54 #[.int .u64 x, .int .u64 y, .int .u64 b]).run Try.prog w =
    .ok (.value (.tuple #[.int .u64 ((x - y - b) % 18446744073709551616), .int .u64 (bor x (y + b))])) w := sub64 x y b hx hy hy' hb0 hb w
theorem sub64_0 (x y : Int) (hx : 0 ≤ x) (hy : 0 ≤ y) (hy' : y < 18446744073709551616) (w : World) : (callFunc 54 #[.int .u64 x, .int .u64 y, .int .u64 0]).run Try.prog w =
    .ok (.value (.tuple #[.int .u64 ((x - y) % 18446744073709551616), .int .u64 (bor x y)])) w := by
  simpa using sub64_b x y 0 hx hy hy' (Int.le_refl 0) (by decide) w


/-- What two halves added without a look at the sign hold: the sum, wrapped. -/
def wr (x : Int) : Int := (x + 170141183460469231731687303715884105728) % 340282366920938463463374607431768211456 - 170141183460469231731687303715884105728
theorem R_iff (a : Int) : R a ↔ -170141183460469231731687303715884105728 ≤ a ∧ a ≤ 170141183460469231731687303715884105727 := by unfold R hi; omega
theorem wr_in {a : Int} (h : R a) : wr a = a := by rw [R_iff] at h; unfold wr; omega
theorem wrap_hi (x : Int) : hi (wr x) = wrap64 (hi x) := by unfold wr hi wrap64; omega
theorem wr_lo (x : Int) : lo (wr x) = lo x := by unfold wr lo; omega
theorem u64_nn (x : Int) : 0 ≤ IntKind.u64.wrap x := by rw [IntKind.wrap_u64]; omega
theorem u64_lt (x : Int) : IntKind.u64.wrap x < 18446744073709551616 := by rw [IntKind.wrap_u64]; omega
theorem add_lo (a b : Int) : (lo a + lo b) % 18446744073709551616 = lo (wr (a + b)) := by rw [wr_lo]; unfold lo; omega
theorem add_hi (a b : Int) : wrap64 ((IntKind.u64.wrap (hi a) + IntKind.u64.wrap (hi b) + (lo a + lo b) / 18446744073709551616) % 18446744073709551616) = hi (wr (a + b)) := by
  rw [wrap_hi, IntKind.wrap_u64, IntKind.wrap_u64]; unfold hi lo wrap64; omega
/-- What a sum, a difference, a rounded quotient is told as: the number, or 0 with ErrOver. -/
def told (x : Int) : Int := if R x then x else 0
def over (x : Int) : Int := if R x then 0 else 3
theorem told_in {x : Int} (h : R x) : told x = x := if_pos h
theorem over_in {x : Int} (h : R x) : over x = 0 := if_pos h
theorem told_out {x : Int} (h : ¬ R x) : told x = 0 := if_neg h
theorem over_out {x : Int} (h : ¬ R x) : over x = 3 := if_neg h
theorem add_apart {a b : Int} (ha : R a) (hb : R b) (h : (ng a == ng b) = false) : R (a + b) := by
  rw [R_iff] at *; unfold ng at h; by_cases x : a < 0 <;> by_cases y : b < 0 <;> simp [x, y] at h <;> omega
theorem add_turned {a b : Int} (h : (ng a == ng b) = true) (k : (ng (wr (a + b)) == ng a) = false) : ¬ R (a + b) := by
  intro hr; rw [wr_in hr] at k; unfold ng at h k; by_cases x : a < 0 <;> by_cases y : b < 0 <;> simp [x, y] at h k <;> omega
theorem add_kept {a b : Int} (ha : R a) (hb : R b) (h : (ng a == ng b) = true) (k : (ng (wr (a + b)) == ng a) = true) : R (a + b) := by
  rw [R_iff] at *; unfold ng wr at *; by_cases x : a < 0 <;> by_cases y : b < 0 <;> simp [x, y] at h k <;> omega
set_option maxHeartbeats 2000000 in
/-- ratchet/wide.Add -/
theorem add_any (a b : Int) (w : World) (ha : R a) (hb : R b) : Calls Try.prog 28 #[Wv a, Wv b] w fun e w' => e = .returned (.tuple #[Wv (told (a + b)), .int .i64 (over (a + b))]) ∧ Below w.heap.size w w' := by
  obtain ⟨a0, a1⟩ := lo_bd a
  obtain ⟨b0, b1⟩ := lo_bd b
  have k0 : 0 ≤ (lo a + lo b) / 18446744073709551616 := by omega
  have k1 : (lo a + lo b) / 18446744073709551616 ≤ 1 := by omega
  have el := add_lo a b
  have eh := add_hi a b
  rcases (by cases (ng a == ng b) <;> cases (ng (wr (a + b)) == ng a) <;> simp : (ng a == ng b) = false ∨ ((ng a == ng b) = true ∧ (ng (wr (a + b)) == ng a) = false) ∨ ((ng a == ng b) = true ∧ (ng (wr (a + b)) == ng a) = true)) with g1 | ⟨g1, g2⟩ | ⟨g1, g2⟩
  · have r := Lib.hid (And.intro ((told_in (add_apart ha hb g1)).trans (wr_in (add_apart ha hb g1)).symm) (over_in (add_apart ha hb g1)))
    clear ha hb
    generalize wr (a + b) = S at *
    go_enter Try.func28, Try.ntmps28
    go_wp2_with (first | simp only [add64_0 (lo a) (lo b) a0 b0] | simp only [add64 _ _ _ (u64_nn _) (u64_nn _) k0 k1])
    go_region_with (go_at_call 35; (with_reducible refine (below_any _ _).mono ?_); rintro e w' ⟨rfl, rfl⟩)
    all_goals
      go_wp2
      refine bodyPost_ret (v := .tuple #[.agg #[.int .i64 (hi S), .int .u64 (lo S)], .int .i64 0]) (by simp [results, Try.results28, go_sem]) rfl ⟨by rw [r.out.1, r.out.2] <;> rfl, ?_⟩
      repeat (first | exact Below.refl _ _ | apply Below.drew | refine Below.setCell ?_ (by simp) _ | refine Below.alloc ?_ (by simp; omega) _ | refine Below.alloc ?_ (by simp) _)
  · have r := Lib.hid (And.intro (told_out (add_turned g1 g2)) (over_out (add_turned g1 g2)))
    clear ha hb
    generalize wr (a + b) = S at *
    go_enter Try.func28, Try.ntmps28
    go_wp2_with (first | simp only [add64_0 (lo a) (lo b) a0 b0] | simp only [add64 _ _ _ (u64_nn _) (u64_nn _) k0 k1])
    first
    | go_region_held3 (fun w' => w'.cell? ⟨w.heap.size, 0, none⟩ = some (.int .i64 (hi a)) ∧ w'.cell? ⟨w.heap.size, 1, none⟩ = some (.int .u64 (lo a)) ∧ w'.cell? ⟨w.heap.size + 1, 0, none⟩ = some (.int .i64 (hi b)) ∧ w'.cell? ⟨w.heap.size + 1, 1, none⟩ = some (.int .u64 (lo b))
       ∧ w'.cell? ⟨w.heap.size + 3, 0, none⟩ = some (.int .i64 (hi S)) ∧ w'.cell? ⟨w.heap.size + 3, 1, none⟩ = some (.int .u64 (lo S))) (simp [go_sem])
      (first
      | (go_at_call 35; refine (below_any _ _).mono ?_; rintro e w' ⟨rfl, rfl⟩))
    | fail
    all_goals
      go_wp2
      refine bodyPost_ret (v := .tuple #[.agg #[.int .i64 0, .int .u64 0], .int .i64 3]) (by simp [results, Try.results28, go_sem]) rfl ⟨by rw [r.out.1, r.out.2] <;> rfl, ?_⟩
      repeat (first | exact Below.refl _ _ | apply Below.drew | refine Below.setCell ?_ (by simp) _ | refine Below.alloc ?_ (by simp; omega) _ | refine Below.alloc ?_ (by simp) _)
  · have r := Lib.hid (And.intro ((told_in (add_kept ha hb g1 g2)).trans (wr_in (add_kept ha hb g1 g2)).symm) (over_in (add_kept ha hb g1 g2)))
    clear ha hb
    generalize wr (a + b) = S at *
    go_enter Try.func28, Try.ntmps28
    go_wp2_with (first | simp only [add64_0 (lo a) (lo b) a0 b0] | simp only [add64 _ _ _ (u64_nn _) (u64_nn _) k0 k1])
    first
    | go_region_held3 (fun w' => w'.cell? ⟨w.heap.size, 0, none⟩ = some (.int .i64 (hi a)) ∧ w'.cell? ⟨w.heap.size, 1, none⟩ = some (.int .u64 (lo a)) ∧ w'.cell? ⟨w.heap.size + 1, 0, none⟩ = some (.int .i64 (hi b)) ∧ w'.cell? ⟨w.heap.size + 1, 1, none⟩ = some (.int .u64 (lo b))
       ∧ w'.cell? ⟨w.heap.size + 3, 0, none⟩ = some (.int .i64 (hi S)) ∧ w'.cell? ⟨w.heap.size + 3, 1, none⟩ = some (.int .u64 (lo S))) (simp [go_sem])
      (first
      | (go_at_call 35; refine (below_any _ _).mono ?_; rintro e w' ⟨rfl, rfl⟩))
    | fail
    all_goals
      go_wp2
      refine bodyPost_ret (v := .tuple #[.agg #[.int .i64 (hi S), .int .u64 (lo S)], .int .i64 0]) (by simp [results, Try.results28, go_sem]) rfl ⟨by rw [r.out.1, r.out.2] <;> rfl, ?_⟩
      repeat (first | exact Below.refl _ _ | apply Below.drew | refine Below.setCell ?_ (by simp) _ | refine Below.alloc ?_ (by simp; omega) _ | refine Below.alloc ?_ (by simp) _)
end Go.Proofs.Ytocoedpmcognpaa
namespace Go.Proofs.Ytocoedpmcognpaa
open Go.RowKit

theorem bcell {W w1 : World} (hb : Below W.heap.size W w1) : (∀ b o, b < W.heap.size → w1.cell? ⟨b, o, none⟩ = W.cell? ⟨b, o, none⟩) ∧ (∀ b o, b < W.heap.size → w1.frozen? ⟨b, o, none⟩ = W.frozen? ⟨b, o, none⟩) :=
  ⟨fun b o h => hb.cell (p := ⟨b, o, none⟩) h, fun b o h => hb.frozen (p := ⟨b, o, none⟩) h⟩
theorem bsz {W w1 : World} (hb : Below W.heap.size W w1) {n : Nat} (h : n < W.heap.size) : n < w1.heap.size := Nat.lt_of_lt_of_le h hb.size
theorem shr_hi {n : Int} (h0 : -9223372036854775808 ≤ n) (h1 : n ≤ 9223372036854775807) : n / 9223372036854775808 = hi n := by unfold hi; omega
theorem u64_lo (n : Int) : IntKind.u64.wrap n = lo n := by rw [IntKind.wrap_u64]; rfl
/-- wide.From -/
theorem from_at (n : Int) (w : World) (h0 : -9223372036854775808 ≤ n) (h1 : n ≤ 9223372036854775807) : Calls Try.prog 30 #[.int .i64 n] w fun e w' => e = .returned (Wv n) ∧ w.alloc (.cells #[.int .i64 (hi n), .int .u64 (lo n)] 49) = w' := by
  have e1 := shr_hi h0 h1
  have e2 := u64_lo n
  go_enter Try.func30, Try.ntmps30
  go_wp2
  exact bodyPost_ret (v := Wv n) (by simp [results, Try.results30, go_sem]) rfl ⟨rfl, rfl⟩
theorem from_any (n : Int) (w : World) (h0 : -9223372036854775808 ≤ n) (h1 : n ≤ 9223372036854775807) : Calls Try.prog 30 #[.int .i64 n] w fun e w' => e = .returned (Wv n) ∧ Below w.heap.size w w' :=
  (from_at n w h0 h1).mono fun _ _ ⟨he, hw⟩ => ⟨he, hw ▸ (Below.refl _ _).alloc (Nat.le_refl _) _⟩
/-- Is a an int64? -/
def isS (a : Int) : Bool := decide (-9223372036854775808 ≤ a ∧ a ≤ 9223372036854775807)
def sm (a : Int) : Int := if isS a = true then a else 0
theorem isS_bd {a : Int} (h : isS a = true) : -9223372036854775808 ≤ a ∧ a ≤ 9223372036854775807 := by unfold isS at h; exact of_decide_eq_true h
theorem small_back {a : Int} (h : isS a = true) : wrap64 (lo a) = a := by have := isS_bd h; unfold wrap64 lo; omega
theorem small_not {a : Int} (h : isS a = false) : (hi a == hi (wrap64 (lo a))) = false := by
  have : ¬ (-9223372036854775808 ≤ a ∧ a ≤ 9223372036854775807) := by unfold isS at h; exact of_decide_eq_false h
  simp only [beq_eq_false_iff_ne, ne_eq]; unfold wrap64 lo hi; omega
/-- wide.Small -/
theorem small_any (a : Int) (w : World) : Calls Try.prog 57 #[Wv a] w fun e w' => e = .returned (.tuple #[.int .i64 (sm a), .bool (isS a)]) ∧ Below w.heap.size w w' := by
  cases g : isS a with
  | true =>
    have B := Lib.hid (isS_bd g)
    have e1 := small_back g
    have e2 := Lib.hid (show sm a = a from if_pos g)
    clear g
    go_enter Try.func57, Try.ntmps57
    go_wp2
    go_region_held3 (fun w' => w'.cell? ⟨w.heap.size, 0, none⟩ = some (.int .i64 (hi a)) ∧ w'.cell? ⟨w.heap.size, 1, none⟩ = some (.int .u64 (lo a))) (simp [go_sem])
      (first
      | (rw [e1]; go_at_call 30; refine (from_at a _ B.out.1 B.out.2).mono ?_; rintro e w' ⟨rfl, rfl⟩)
      | (go_at_call 30; refine (from_at a _ B.out.1 B.out.2).mono ?_; rintro e w' ⟨rfl, rfl⟩))
    go_wp2
    go_ret2
    exact ⟨by rw [e2.out] <;> rfl, by repeat (first | exact Below.refl _ _ | apply Below.drew | refine Below.alloc ?_ (by simp) _)⟩
  | false =>
    have e3 := small_not g
    obtain ⟨m, em⟩ : ∃ m, wrap64 (lo a) = m := ⟨_, rfl⟩
    have B : Hid (-9223372036854775808 ≤ m ∧ m ≤ 9223372036854775807) := by subst em; unfold wrap64 Hid; omega
    have e2 := Lib.hid (show sm a = 0 from if_neg (by simp [g]))
    rw [em] at e3
    clear g
    go_enter Try.func57, Try.ntmps57
    go_wp2
    go_region_held3 (fun w' => w'.cell? ⟨w.heap.size, 0, none⟩ = some (.int .i64 (hi a)) ∧ w'.cell? ⟨w.heap.size, 1, none⟩ = some (.int .u64 (lo a))) (simp [go_sem])
      (first
      | (go_at_call 30; refine (from_at m _ B.out.1 B.out.2).mono ?_; rintro e w' ⟨rfl, rfl⟩)
      | (rw [em]; go_at_call 30; refine (from_at m _ B.out.1 B.out.2).mono ?_; rintro e w' ⟨rfl, rfl⟩))
    go_wp2
    go_ret2
    exact ⟨by rw [e2.out] <;> rfl, by repeat (first | exact Below.refl _ _ | apply Below.drew | refine Below.alloc ?_ (by simp) _)⟩
theorem tmod_64 (i n : Int) (h0 : 1 ≤ n) (h1 : n ≤ 9223372036854775807) : wrap64 ((IntKind.u64.wrap i).tmod n) = (i % 18446744073709551616) % n := by
  rw [IntKind.wrap_u64, Int.tmod_eq_emod_of_nonneg (by omega)]
  have := Int.emod_nonneg (i % 18446744073709551616) (show n ≠ 0 by omega)
  have := Int.emod_lt_of_pos (i % 18446744073709551616) (show 0 < n by omega)
  exact IntWalk.wrap64_in _ ⟨by omega, by omega⟩
theorem within_any (i n : Int) (w : World) (h0 : 1 ≤ n) (h1 : n ≤ 9223372036854775807) : Calls Try.prog 16 #[.int .i64 i, .int .i64 n] w fun e w' => e = .returned (.int .i64 ((i % 18446744073709551616) % n)) ∧ w = w' := by
  have E := Lib.hid (tmod_64 i n h0 h1)
  go_enter Try.func16, Try.ntmps16
  go_wp2
  go_ret
  exact ⟨by rw [← E.out]; rfl, rfl⟩
end Go.Proofs.Ytocoedpmcognpaa
namespace Go.Proofs.Ytocoedpmcognpaa
open Go Go.RowKit Go.Shelf
attribute [local go_sem] Oper.semAt_some

end Go.Proofs.Ytocoedpmcognpaa
namespace Go.Proofs.Ytocoedpmcognpaa
open Go Go.RowKit Go.Shelf
attribute [local go_sem] Oper.semAt_some

end Go.Proofs.Ytocoedpmcognpaa
namespace Go.Proofs.Ytocoedpmcognpaa

/-- s is a size. -/
def U (s : Int) : Prop := 0 ≤ hi s ∧ hi s ≤ 18446744073709551615
instance (s : Int) : Decidable (U s) := inferInstanceAs (Decidable (_ ∧ _))
theorem U_iff (s : Int) : U s ↔ 0 ≤ s ∧ s ≤ 340282366920938463463374607431768211455 := by unfold U hi; omega
/-- A size, wrapped. -/
def ws (x : Int) : Int := x % 340282366920938463463374607431768211456
theorem U_ws (x : Int) : U (ws x) := by rw [U_iff]; unfold ws; omega
theorem ws_in {x : Int} (h : U x) : ws x = x := by rw [U_iff] at h; unfold ws; omega
theorem ws_hi (x : Int) : hi (ws x) = hi x % 18446744073709551616 := by unfold ws hi; omega
theorem ws_lo (x : Int) : lo (ws x) = lo x := by unfold ws lo; omega
theorem lo_mul (s p : Int) : lo (s * p) = lo s * p % 18446744073709551616 := by
  unfold lo; rw [Int.mul_emod s p, Int.mul_emod (s % 18446744073709551616) p, Int.emod_emod]
theorem hi_mul64 (x : Int) : hi (x * 18446744073709551616) = x := by unfold hi; omega
theorem lo_mul64 (x : Int) : lo (x * 18446744073709551616) = 0 := by unfold lo; omega

theorem pow_split {n : Nat} (h : 64 ≤ n) : (2 : Int) ^ n = 2 ^ (n - 64) * 18446744073709551616 := by
  obtain ⟨k, rfl⟩ := Nat.exists_eq_add_of_le h
  rw [Nat.add_sub_cancel_left, Int.pow_add, Int.mul_comm]; rfl
theorem left64_hi (s : Int) (n : Nat) (h : 64 ≤ n) : IntKind.u64.wrap (lo s * 2 ^ (n - 64)) = hi (ws (s * 2 ^ n)) := by
  rw [IntKind.wrap_u64, ws_hi, pow_split h, ← Int.mul_assoc, hi_mul64]
  exact (lo_mul s (2 ^ (n - 64))).symm
theorem left64_lo (s : Int) (n : Nat) (h : 64 ≤ n) : 0 = lo (ws (s * 2 ^ n)) := by
  rw [ws_lo, pow_split h, ← Int.mul_assoc, lo_mul64]
theorem left_lo (s : Int) (n : Nat) : IntKind.u64.wrap (lo s * 2 ^ n) = lo (ws (s * 2 ^ n)) := by
  rw [IntKind.wrap_u64, ws_lo, lo_mul]
theorem pow_both {n : Nat} (h : n ≤ 64) : (2 : Int) ^ n * 2 ^ (64 - n) = 18446744073709551616 := by
  rw [← Int.pow_add, Nat.add_sub_cancel' h]; rfl
theorem hi_mul (s p q : Int) (hp : 0 < p) (hpq : p * q = 18446744073709551616) : hi (s * p) = hi s * p + lo s / q := by
  have e : s * p = hi s * p * 18446744073709551616 + lo s * p := by
    conv => lhs; rw [hi_lo s]
    rw [Int.add_mul]; congr 1
    rw [Int.mul_assoc, Int.mul_comm 18446744073709551616 p, ← Int.mul_assoc]
  have f : lo s * p / 18446744073709551616 = lo s / q := by
    rw [← hpq, Int.mul_comm p q]; exact Int.mul_ediv_mul_of_pos_left _ _ hp
  rw [e, ← f]; unfold hi; omega
theorem left_hi (s : Int) (n : Nat) (h : n ≤ 63) (_hs : 0 ≤ hi s) : bits BinOp.or IntKind.u64 (IntKind.u64.wrap (hi s * 2 ^ n)) (lo s / 2 ^ (64 - n)) = hi (ws (s * 2 ^ n)) := by
  have hpq := pow_both (n := n) (by omega)
  have hp : (0 : Int) < 2 ^ n := Int.pow_pos (by decide)
  have hq : (0 : Int) < 2 ^ (64 - n) := Int.pow_pos (by decide)
  rw [ws_hi, hi_mul s _ _ hp hpq]
  have hl := lo_bd s
  -- the parts as natural numbers
  have eP : (2 : Int) ^ n = ((2 ^ n : Nat) : Int) := by simp
  have a0 := Int.emod_nonneg (hi s) (show (2 : Int) ^ (64 - n) ≠ 0 by omega)
  have a1 := Int.emod_lt_of_pos (hi s) hq
  have eA : hi s * 2 ^ n % 18446744073709551616 = 2 ^ n * (hi s % 2 ^ (64 - n)) := by
    rw [← hpq, Int.mul_comm (hi s)]; exact Int.mul_emod_mul_of_pos _ _ hp
  have b0 : 0 ≤ lo s / 2 ^ (64 - n) := Int.ediv_nonneg hl.1 (by omega)
  have b1 : lo s / 2 ^ (64 - n) < 2 ^ n := Int.ediv_lt_of_lt_mul hq (by omega)
  have m1 : 2 ^ n * (hi s % 2 ^ (64 - n)) + 2 ^ n ≤ 18446744073709551616 := by
    have : (2 : Int) ^ n * (hi s % 2 ^ (64 - n) + 1) ≤ 2 ^ n * 2 ^ (64 - n) := Int.mul_le_mul_of_nonneg_left (by omega) (by omega)
    rw [hpq, Int.mul_add, Int.mul_one] at this
    exact this
  have m0 : 0 ≤ 2 ^ n * (hi s % 2 ^ (64 - n)) := Int.mul_nonneg (by omega) a0
  rw [IntKind.wrap_u64, eA]
  generalize hA : hi s % 2 ^ (64 - n) = A at *
  generalize hB : lo s / 2 ^ (64 - n) = B at *
  obtain ⟨A, rfl⟩ := Int.eq_ofNat_of_zero_le a0
  obtain ⟨B, rfl⟩ := Int.eq_ofNat_of_zero_le b0
  have r : (hi s * 2 ^ n + (B : Int)) % 18446744073709551616 = 2 ^ n * (A : Int) + B := by
    generalize hi s * 2 ^ n = X at eA
    generalize (2 : Int) ^ n * (A : Int) = Y at *
    generalize (2 : Int) ^ n = P at *
    omega
  rw [r, eP, ← Int.natCast_mul, u64_or_nat _ _ (by rw [eP, ← Int.natCast_mul] at m1; omega) (by rw [eP] at b1 m1; rw [← Int.natCast_mul] at m1; omega)]
  rw [← Int.natCast_add]
  congr 1
  have bn : B < 2 ^ n := by rw [eP] at b1; omega
  exact (Nat.two_pow_add_eq_or_of_lt bn A).symm

/-- How many bits a size has. -/
def bl (s : Int) : Nat := Lib.bitLenAux 128 s.toNat
theorem bl_zero : bl 0 = 0 := rfl
theorem bl_bd {s : Int} (h : U s) (h0 : s ≠ 0) : 1 ≤ bl s ∧ (2 : Int) ^ (bl s - 1) ≤ s ∧ s < 2 ^ bl s := by
  rw [U_iff] at h
  obtain ⟨x, rfl⟩ := Int.eq_ofNat_of_zero_le h.1
  have := Lib.bitLenAux_bounds 128 x (by have : (2 : Nat) ^ 128 = 340282366920938463463374607431768211456 := by decide
                                         omega) (by omega)
  obtain ⟨a, b, c⟩ := this
  refine ⟨a, ?_, ?_⟩
  · have : ((2 ^ (Lib.bitLenAux 128 x - 1) : Nat) : Int) ≤ (x : Int) := by omega
    simpa [bl] using this
  · have : (x : Int) < ((2 ^ (Lib.bitLenAux 128 x) : Nat) : Int) := by omega
    simpa [bl] using this
theorem bitLenAux_up : ∀ (k f x : Nat), 2 ^ k ≤ x → Lib.bitLenAux (k + f) x = k + Lib.bitLenAux f (x / 2 ^ k)
  | 0, f, x, _ => by simp
  | k + 1, f, x, h => by
    have h2 : 2 ^ k ≤ x / 2 := by rw [Nat.pow_succ] at h; omega
    have hx : x ≠ 0 := by have := Nat.two_pow_pos (k + 1); omega
    have e : x / 2 / 2 ^ k = x / 2 ^ (k + 1) := by rw [Nat.div_div_eq_div_mul, Nat.pow_succ, Nat.mul_comm 2]
    rw [show k + 1 + f = (k + f) + 1 by omega]
    simp only [Lib.bitLenAux, if_neg hx]
    rw [bitLenAux_up k f (x / 2) h2, e]
    omega
theorem bl_low {s : Int} (h : hi s = 0) : Lib.bitLen (lo s).toNat = bl s := by
  have e : s = lo s := by have := hi_lo s; omega
  have b := lo_bd s
  unfold bl Lib.bitLen
  rw [← e]
  exact (Lib.bitLenAux_fuel 64 s.toNat (by have : (2 : Nat) ^ 64 = 18446744073709551616 := by decide
                                           omega) 128 (by omega)).symm
theorem bl_high {s : Int} (h : U s) (g : hi s ≠ 0) : 64 + Lib.bitLen (hi s).toNat = bl s := by
  obtain ⟨h0, h1⟩ := h
  have b := lo_bd s
  have hs := hi_lo s
  have e : (hi s).toNat = s.toNat / 2 ^ 64 := by
    have : (2 : Nat) ^ 64 = 18446744073709551616 := by decide
    omega
  unfold bl Lib.bitLen
  rw [e]
  exact (bitLenAux_up 64 64 s.toNat (by have : (2 : Nat) ^ 64 = 18446744073709551616 := by decide
                                        omega)).symm
theorem bl_le {s : Int} (h : U s) : bl s ≤ 128 := by
  by_cases h0 : s = 0
  · subst h0; decide
  · rw [U_iff] at h
    refine Lib.bitLenAux_le 128 s.toNat 128 ?_
    have : (2 : Nat) ^ 128 = 340282366920938463463374607431768211456 := by decide
    omega
theorem bitLen_64 (x : Int) (h0 : 0 ≤ x) (h1 : x ≤ 18446744073709551615) : Lib.bitLen x.toNat ≤ 64 :=
  Lib.bitLen_le _ 64 (Nat.le_refl _) (by have : (2 : Nat) ^ 64 = 18446744073709551616 := by decide
                                         omega)
end Go.Proofs.Ytocoedpmcognpaa
namespace Go.Proofs.Ytocoedpmcognpaa
open Go.RowKit

abbrev Sv (s : Int) : Value := .agg #[.int .u64 (hi s), .int .u64 (lo s)]
theorem sv0 : Sv 0 = .agg #[.int .u64 0, .int .u64 0] := rfl

/-- odd -/
theorem odd_any (s : Int) (w : World) : Calls Try.prog 41 #[Sv s] w fun e w' => e = .returned (.bool (s % 2 == 1)) ∧ Below w.heap.size w w' := by
  obtain ⟨a0, a1⟩ := lo_bd s
  have e1 := Lib.hid (show lo s % 2 = s % 2 by unfold lo; omega)
  go_enter Try.func41, Try.ntmps41
  go_wp2
  go_ret
  exact ⟨by rw [← e1.out]; rfl, (Below.refl _ _).alloc (Nat.le_refl _) _⟩

theorem next_lo (s : Int) : (lo s + 1) % 18446744073709551616 = lo (s + 1) := by unfold lo; omega
theorem next_hi {s : Int} (h : U (s + 1)) : IntKind.u64.wrap (hi s + (lo s + 1) / 18446744073709551616) = hi (s + 1) := by
  rw [U_iff] at h; rw [IntKind.wrap_u64]; unfold hi lo; omega
/-- next -/
theorem next_any (s : Int) (w : World) (h : U (s + 1)) : Calls Try.prog 42 #[Sv s] w fun e w' => e = .returned (Sv (s + 1)) ∧ Below w.heap.size w w' := by
  obtain ⟨a0, a1⟩ := lo_bd s
  have e1 := next_lo s
  have e2 := next_hi h
  generalize s + 1 = t at *
  clear h
  go_enter Try.func42, Try.ntmps42
  go_wp2_with (simp only [add64_0 (lo s) 1 a0 (by decide)])
  refine bodyPost_ret (v := Sv t) (by simp [results, Try.results42, go_sem]) rfl ⟨rfl, ?_⟩
  exact ((Below.refl _ _).alloc (Nat.le_refl _) _).alloc (by simp) _

theorem less_lo (s o : Int) : (lo s - lo o) % 18446744073709551616 = lo (ws (s - o)) := by rw [ws_lo]; unfold lo; omega
theorem less_hi (s o : Int) : (hi s - hi o - bor (lo s) (lo o)) % 18446744073709551616 = hi (ws (s - o)) := by
  rw [ws_hi]; unfold hi lo bor; split <;> omega
/-- less -/
theorem less_any (s o : Int) (w : World) (h : U s) (k : U o) : Calls Try.prog 46 #[Sv s, Sv o] w fun e w' => e = .returned (Sv (ws (s - o))) ∧ Below w.heap.size w w' := by
  obtain ⟨a0, a1⟩ := lo_bd s
  obtain ⟨b0, b1⟩ := lo_bd o
  have b2 : lo o < 18446744073709551616 := by omega
  obtain ⟨c0, c1⟩ := h
  obtain ⟨d0, d1⟩ := k
  have d2 : hi o < 18446744073709551616 := by omega
  obtain ⟨k0, k1⟩ := bor_bd (lo s) (lo o)
  have e1 := less_lo s o
  have e2 := less_hi s o
  generalize ws (s - o) = t at *
  go_enter Try.func46, Try.ntmps46
  go_wp2_with (first | simp only [sub64_0 (lo s) (lo o) a0 b0 b2] | simp only [sub64_b _ _ _ c0 d0 d2 k0 k1])
  refine bodyPost_ret (v := Sv t) (by simp [results, Try.results46, go_sem]) rfl ⟨rfl, ?_⟩
  exact (((Below.refl _ _).alloc (Nat.le_refl _) _).alloc (by simp) _).alloc (by simp; omega) _

/-- left -/
theorem left_any (s : Int) (n : Nat) (w : World) (h : U s) (h1 : n ≤ 127) : Calls Try.prog 39 #[Sv s, .int .i64 n] w fun e w' => e = .returned (Sv (ws (s * 2 ^ n))) ∧ Below w.heap.size w w' := by
  obtain ⟨a0, a1⟩ := lo_bd s
  by_cases g : 64 ≤ n
  · have e1 := left64_hi s n g
    have e2 := left64_lo s n g
    have e3 : (((n : Int) - 64).toNat) = n - 64 := by omega
    have H := Lib.hid (And.intro e1 (And.intro e2.symm e3))
    clear e1 e2 e3
    generalize ws (s * 2 ^ n) = t at *
    go_enter Try.func39, Try.ntmps39
    go_wp2
    refine bodyPost_ret (v := Sv t) (by simp [results, Try.results39, go_sem, H.out.1, H.out.2.1]) rfl ⟨rfl, ?_⟩
    exact ((Below.refl _ _).alloc (Nat.le_refl _) _).alloc (by simp) _
  · have g' : n < 64 := by omega
    have e1 := left_hi s n (by omega) h.1
    have e2 := left_lo s n
    have e3 : ((64 - (n : Int)).toNat) = 64 - n := by omega
    have H := Lib.hid (And.intro e1 (And.intro e2 e3))
    clear e1 e2 e3
    generalize ws (s * 2 ^ n) = t at *
    go_enter Try.func39, Try.ntmps39
    go_wp2
    go_region
    go_wp2
    refine bodyPost_ret (v := Sv t) (by simp [results, Try.results39, go_sem, H.out.1, H.out.2.1]) rfl ⟨rfl, ?_⟩
    exact (((Below.refl _ _).alloc (Nat.le_refl _) _).alloc (by simp) _).drew

/-- compare -/
theorem compare_any (a b : Int) (w : World) : Calls Try.prog 40 #[Sv a, Sv b] w fun e w' => e = .returned (.int .i64 (sg a b)) ∧ Below w.heap.size w w' := by
  by_cases h : hi a = hi b
  · have H := Lib.hid (sg_lo h)
    have g : (hi a != hi b) = false := by simp [h]
    have K := Lib.hid h
    clear h
    go_enter Try.func40, Try.ntmps40
    go_wp2_with (go_at_call 49; refine (compare_u64 _ _ _).mono ?_; rintro e w' ⟨rfl, rfl⟩)
    go_ret
    exact ⟨by rw [H.out]; rfl, ((Below.refl _ _).alloc (Nat.le_refl _) _).alloc (by simp) _⟩
  · have H := Lib.hid (sg_hi h)
    have g : (hi a != hi b) = true := by simp [h]
    clear h
    go_enter Try.func40, Try.ntmps40
    go_wp2_with (go_at_call 49; refine (compare_u64 _ _ _).mono ?_; rintro e w' ⟨rfl, rfl⟩)
    go_ret
    exact ⟨by rw [H.out]; rfl, ((Below.refl _ _).alloc (Nat.le_refl _) _).alloc (by simp) _⟩

/-- length -/
theorem length_any (s : Int) (w : World) (h : U s) : Calls Try.prog 47 #[Sv s] w fun e w' => e = .returned (.int .i64 (bl s)) ∧ w.alloc (.cells #[.int .u64 (hi s), .int .u64 (lo s)] 69) = w' := by
  obtain ⟨a0, a1⟩ := lo_bd s
  by_cases g : hi s = 0
  · have H := Lib.hid (bl_low g)
    have g' : (hi s != 0) = false := by simp [g]
    have K := Lib.hid g
    clear g h
    go_enter Try.func47, Try.ntmps47
    go_wp2_with (go_at_call 55; refine (Try.bits_Len64 (lo s) _ a0 a1).mono ?_; rintro e w' ⟨rfl, rfl⟩)
    go_ret
    exact ⟨by rw [← H.out]; rfl, rfl⟩
  · have H := Lib.hid (bl_high h g)
    have g' : (hi s != 0) = true := by simp [g]
    obtain ⟨c0, c1⟩ := h
    have l := bitLen_64 (hi s) c0 c1
    clear g
    go_enter Try.func47, Try.ntmps47
    go_wp2_with (go_at_call 55; refine (Try.bits_Len64 (hi s) _ c0 c1).mono ?_; rintro e w' ⟨rfl, rfl⟩)
    go_ret
    exact ⟨by rw [← H.out]; rfl, rfl⟩
end Go.Proofs.Ytocoedpmcognpaa
namespace Go.Proofs.Ytocoedpmcognpaa
open Go.RowKit

theorem or_add (P Q k : Int) (n : Nat) (hP : P = 2 ^ n) (hk : 0 ≤ k) (hq : Q = 2 * P * k) (hM : Q + P < 18446744073709551616) : bits BinOp.or IntKind.u64 Q P = Q + P := by
  obtain ⟨k, rfl⟩ := Int.eq_ofNat_of_zero_le hk
  have eP : P = ((2 ^ n : Nat) : Int) := by rw [hP]; simp
  have eQ : Q = ((2 ^ (n + 1) * k : Nat) : Int) := by
    rw [hq, eP, Nat.pow_succ, Int.natCast_mul, Int.natCast_mul]
    congr 1
    exact Int.mul_comm _ _
  have hM2 : ((2 ^ (n + 1) * k : Nat) : Int) + ((2 ^ n : Nat) : Int) < 18446744073709551616 := by rw [← eQ, ← eP]; exact hM
  rw [eP, eQ]
  clear eP eQ hM hP hq
  generalize hA : 2 ^ (n + 1) * k = A at *
  generalize hB : 2 ^ n = B at *
  rw [u64_or_nat A B (by omega) (by omega), ← Int.natCast_add]
  subst hA hB
  congr 1
  exact (Nat.two_pow_add_eq_or_of_lt (by rw [Nat.pow_succ]; have := Nat.two_pow_pos n; omega) k).symm
theorem or_zero (Q : Int) (h0 : 0 ≤ Q) (h1 : Q ≤ 18446744073709551615) : bits BinOp.or IntKind.u64 Q 0 = Q := by
  rw [u64_or _ _ h0 (by omega) (by decide) (by decide)]
  simp; omega

theorem bit_high (s : Int) (n : Nat) (h : U s) (g : 64 ≤ n) (h1 : n ≤ 127) (hd : s % 2 ^ (n + 1) = 0) :
    bits BinOp.or IntKind.u64 (hi s) (hi (ws (2 ^ n))) = hi (s + 2 ^ n) ∧ bits BinOp.or IntKind.u64 (lo s) (lo (ws (2 ^ n))) = lo (s + 2 ^ n) := by
  have e1 : (2 : Int) ^ n = 2 ^ (n - 64) * 18446744073709551616 := pow_split g
  have e2 : (2 : Int) ^ (n + 1) = 2 * 2 ^ (n - 64) * 18446744073709551616 := by rw [Int.pow_succ, e1]; omega
  have hp : (0 : Int) < 2 ^ (n - 64) := Int.pow_pos (by decide)
  have hp1 : (2 : Int) ^ (n - 64) ≤ 9223372036854775808 := by
    have : (2 : Int) ^ (n - 64) * 2 ^ (127 - n) = 9223372036854775808 := by rw [← Int.pow_add, show n - 64 + (127 - n) = 63 by omega]; rfl
    have q : (0 : Int) < 2 ^ (127 - n) := Int.pow_pos (by decide)
    calc (2 : Int) ^ (n - 64) = 2 ^ (n - 64) * 1 := by omega
      _ ≤ 2 ^ (n - 64) * 2 ^ (127 - n) := Int.mul_le_mul_of_nonneg_left (by omega) (by omega)
      _ = _ := this
  obtain ⟨k, hk⟩ := Int.dvd_of_emod_eq_zero hd
  rw [e2] at hk
  have hU := (U_iff s).1 h
  have eh : hi s = 2 * 2 ^ (n - 64) * k := by
    rw [hk, Int.mul_assoc _ 18446744073709551616 k, Int.mul_comm 18446744073709551616 k, ← Int.mul_assoc, hi_mul64]
  have el : lo s = 0 := by
    rw [hk, Int.mul_assoc _ 18446744073709551616 k, Int.mul_comm 18446744073709551616 k, ← Int.mul_assoc, lo_mul64]
  have k0 : 0 ≤ k := by
    rcases Int.lt_or_le k 0 with hneg | h0
    · have : 2 * 2 ^ (n - 64) * k < 0 := Int.mul_neg_of_pos_of_neg (by omega) hneg
      have := h.1
      omega
    · exact h0
  have w1 : hi (ws (2 ^ n)) = 2 ^ (n - 64) := by rw [ws_hi, e1, hi_mul64]; omega
  have w2 : lo (ws (2 ^ n)) = 0 := by rw [ws_lo, e1, lo_mul64]
  -- 2 P k + P stays below 2^64, as 2 P divides 2^64
  have hM : hi s + 2 ^ (n - 64) < 18446744073709551616 := by
    have hq : (2 : Int) * 2 ^ (n - 64) * 2 ^ (127 - n) = 18446744073709551616 := by
      have : (2 : Int) ^ (n - 64) * 2 ^ (127 - n) = 9223372036854775808 := by rw [← Int.pow_add, show n - 64 + (127 - n) = 63 by omega]; rfl
      rw [Int.mul_assoc, this]; rfl
    have hkq : k < 2 ^ (127 - n) := by
      rcases Int.lt_or_le k (2 ^ (127 - n)) with hl | hge
      · exact hl
      · have := Int.mul_le_mul_of_nonneg_left hge (show (0 : Int) ≤ 2 * 2 ^ (n - 64) by omega)
        rw [hq, ← eh] at this
        have := h.2
        omega
    have := Int.mul_le_mul_of_nonneg_left (show k + 1 ≤ 2 ^ (127 - n) by omega) (show (0 : Int) ≤ 2 * 2 ^ (n - 64) by omega)
    rw [hq, Int.mul_add, ← eh] at this
    omega
  rw [w1, w2, el]
  refine ⟨?_, ?_⟩
  · rw [or_add _ _ k (n - 64) rfl k0 eh hM, e1]; unfold hi; omega
  · rw [or_zero 0 (by decide) (by decide), e1]; unfold lo; unfold lo at el; omega

theorem bit_low (s : Int) (n : Nat) (g : n < 64) (hd : s % 2 ^ (n + 1) = 0) (h : U s) :
    bits BinOp.or IntKind.u64 (hi s) (hi (ws (2 ^ n))) = hi (s + 2 ^ n) ∧ bits BinOp.or IntKind.u64 (lo s) (lo (ws (2 ^ n))) = lo (s + 2 ^ n) := by
  have hp : (0 : Int) < 2 ^ n := Int.pow_pos (by decide)
  have hQ : (0 : Int) < 2 ^ (63 - n) := Int.pow_pos (by decide)
  have hpq : (2 : Int) * 2 ^ n * 2 ^ (63 - n) = 18446744073709551616 := by
    rw [Int.mul_assoc, ← Int.pow_add, show n + (63 - n) = 63 by omega]; rfl
  have hp1 : (2 : Int) ^ n ≤ 9223372036854775808 := by
    have := Int.mul_le_mul_of_nonneg_left (show (1 : Int) ≤ 2 ^ (63 - n) by omega) (show (0 : Int) ≤ 2 * 2 ^ n by omega)
    omega
  obtain ⟨k, hk⟩ := Int.dvd_of_emod_eq_zero hd
  have e2 : (2 : Int) ^ (n + 1) = 2 * 2 ^ n := by rw [Int.pow_succ]; omega
  rw [e2] at hk
  have el : lo s = 2 * 2 ^ n * (k % 2 ^ (63 - n)) := by
    unfold lo; rw [hk, ← hpq]; exact Int.mul_emod_mul_of_pos _ _ (by omega)
  have a0 := Int.emod_nonneg k (show (2 : Int) ^ (63 - n) ≠ 0 by omega)
  have a1 := Int.emod_lt_of_pos k hQ
  have hM : lo s + 2 ^ n < 18446744073709551616 := by
    have := Int.mul_le_mul_of_nonneg_left (show k % 2 ^ (63 - n) + 1 ≤ 2 ^ (63 - n) by omega) (show (0 : Int) ≤ 2 * 2 ^ n by omega)
    rw [hpq, Int.mul_add, ← el] at this
    omega
  have w1 : hi (ws (2 ^ n)) = 0 := by rw [ws_hi]; unfold hi; omega
  have w2 : lo (ws (2 ^ n)) = 2 ^ n := by rw [ws_lo]; unfold lo; omega
  rw [w1, w2]
  refine ⟨?_, ?_⟩
  · rw [or_zero _ h.1 h.2]; unfold hi; unfold lo at hM; omega
  · rw [or_add _ _ _ n rfl a0 el hM]; unfold lo; unfold lo at hM; omega

theorem bit_any (s : Int) (n : Nat) (h : U s) (h1 : n ≤ 127) (hd : s % 2 ^ (n + 1) = 0) :
    bits BinOp.or IntKind.u64 (hi s) (hi (ws (2 ^ n))) = hi (s + 2 ^ n) ∧ bits BinOp.or IntKind.u64 (lo s) (lo (ws (2 ^ n))) = lo (s + 2 ^ n) := by
  by_cases g : 64 ≤ n
  · exact bit_high s n h g h1 hd
  · exact bit_low s n (by omega) hd h

/-- A whole number's size. -/
def ab (a : Int) : Int := (a.natAbs : Int)
theorem U_ab {a : Int} (h : R a) : U (ab a) := by rw [R_iff] at h; rw [U_iff]; unfold ab; omega
theorem ab_of_neg {a : Int} (ha : R a) (h : ng a = true) : ws (-ws a) = ab a := by
  rw [R_iff] at ha; unfold ng at h; have := of_decide_eq_true h; unfold ws ab; omega
theorem ab_of_pos {a : Int} (ha : R a) (h : ng a = false) : ws a = ab a := by
  rw [R_iff] at ha; unfold ng at h; have := of_decide_eq_false h; unfold ws ab; omega
theorem u64_hi_ws (a : Int) : IntKind.u64.wrap (hi a) = hi (ws a) := by rw [ws_hi, IntKind.wrap_u64]
theorem lo_ws (a : Int) : lo a = lo (ws a) := (ws_lo a).symm

/-- A sign laid on a size. -/
def sd (neg : Bool) (s : Int) : Int := if neg then -s else s
theorem neg_high {s : Int} (h : (0 : Int) < sg s 170141183460469231731687303715884105728) : ¬ R (-s) := by
  rw [R_iff]; unfold sg at h; split at h
  · omega
  · split at h <;> omega
theorem neg_low {s : Int} (hU : U s) (h : ¬ (0 : Int) < sg s 170141183460469231731687303715884105728) : R (-s) ∧ wrap64 (hi (ws (-s))) = hi (-s) ∧ lo (ws (-s)) = lo (-s) := by
  rw [U_iff] at hU
  have hs : s ≤ 170141183460469231731687303715884105728 := by
    unfold sg at h; split at h
    · omega
    · split at h <;> omega
  refine ⟨by rw [R_iff]; omega, ?_, ?_⟩
  · rw [ws_hi]; unfold hi wrap64; omega
  · rw [ws_lo]
theorem pos_high {s : Int} (h : 9223372036854775808 ≤ hi s) : ¬ R s := by intro r; have := r.2; omega
theorem pos_low {s : Int} (hU : U s) (h : hi s < 9223372036854775808) : R s ∧ wrap64 (hi s) = hi s := by
  have := hU.1
  exact ⟨⟨by omega, by omega⟩, by unfold wrap64; omega⟩
end Go.Proofs.Ytocoedpmcognpaa
namespace Go.Proofs.Ytocoedpmcognpaa
open Go.RowKit

theorem svbit : Sv 1 = .agg #[.int .u64 0, .int .u64 1] := rfl
theorem svtop : Sv 170141183460469231731687303715884105728 = .agg #[.int .u64 9223372036854775808, .int .u64 0] := by
  have e1 : hi 170141183460469231731687303715884105728 = 9223372036854775808 := by decide
  have e2 : lo 170141183460469231731687303715884105728 = 0 := by decide
  show Value.agg #[.int .u64 (hi _), .int .u64 (lo _)] = _
  rw [e1, e2]

set_option maxHeartbeats 1000000 in
/-- withBit -/
theorem withBit_any (s : Int) (n : Nat) (w : World) (h : U s) (h1 : n ≤ 127) (hd : s % 2 ^ (n + 1) = 0) : Calls Try.prog 48 #[Sv s, .int .i64 n] w fun e w' => e = .returned (Sv (s + 2 ^ n)) ∧ Below w.heap.size w w' := by
  have C := fun W => left_any 1 n W (by decide) h1
  rw [svbit] at C
  simp only [Int.one_mul] at C
  have CH := Lib.hid C
  obtain ⟨e1, e2⟩ := bit_any s n h h1 hd
  have H := Lib.hid (And.intro e1 e2)
  clear e1 e2 hd h C
  generalize ws (2 ^ n) = b at *
  generalize s + 2 ^ n = t at *
  go_enter Try.func48, Try.ntmps48
  go_wp2_with (go_at_call 39; (with_reducible refine (CH.out _).mono ?_); rintro e w' ⟨rfl, hb⟩; obtain ⟨hc, hf⟩ := bcell hb; have hz0 : w.heap.size < w'.heap.size := bsz hb (by first | omega | (simp; done) | (simp; omega)); have hz1 : w.heap.size + 1 < w'.heap.size := bsz hb (by first | omega | (simp; done) | (simp; omega)))
  refine bodyPost_ret (v := Sv t) (by simp [results, Try.results48, go_sem, H.out.1, H.out.2, hc, hz1]) rfl ⟨rfl, ?_⟩
  repeat (first | exact Below.refl _ _ | apply Below.drew | refine Below.setCell ?_ (by first | (simp; done) | (simp; omega) | omega) _ | refine Below.alloc ?_ (by first | (simp; done) | (simp; omega) | omega) _ | refine Below.trans ?_ (hb.mono (by first | (simp; done) | (simp; omega) | omega)))

set_option maxHeartbeats 1000000 in
/-- negated -/
theorem negated_any (s : Int) (w : World) (h : U s) : Calls Try.prog 50 #[Sv s] w fun e w' => e = .returned (.tuple #[Wv (told (-s)), .int .i64 (over (-s))]) ∧ Below w.heap.size w w' := by
  have CH := Lib.hid (fun W => svtop ▸ compare_any s 170141183460469231731687303715884105728 W)
  have DH := Lib.hid (fun W => Int.zero_sub s ▸ sv0 ▸ less_any 0 s W (by decide) h)
  by_cases g : (0 : Int) < sg s 170141183460469231731687303715884105728
  · have r := Lib.hid (And.intro (told_out (neg_high g)) (over_out (neg_high g)))
    generalize sg s 170141183460469231731687303715884105728 = c at *
    clear h
    go_enter Try.func50, Try.ntmps50
    go_wp2_with (go_at_call 40; (with_reducible refine (CH.out _).mono ?_); rintro e w' ⟨rfl, hb⟩; obtain ⟨hc, hf⟩ := bcell hb; have hz0 : w.heap.size < w'.heap.size := bsz hb (by first | omega | (simp; done) | (simp; omega)); have hz1 : w.heap.size + 1 < w'.heap.size := bsz hb (by first | omega | (simp; done) | (simp; omega)))
    refine bodyPost_ret (v := .tuple #[.agg #[.int .i64 0, .int .u64 0], .int .i64 3]) (by simp [results, Try.results50, go_sem, hc]) rfl ⟨by rw [r.out.1, r.out.2] <;> rfl, ?_⟩
    repeat (first | exact Below.refl _ _ | apply Below.drew | refine Below.setCell ?_ (by first | (simp; done) | (simp; omega) | omega) _ | refine Below.alloc ?_ (by first | (simp; done) | (simp; omega) | omega) _ | refine Below.trans ?_ (hb.mono (by first | (simp; done) | (simp; omega) | omega)))
  · obtain ⟨r1, r2, r3⟩ := neg_low h g
    have r := Lib.hid (And.intro (told_in r1) (over_in r1))
    have H := Lib.hid (And.intro r2 r3)
    clear h r1 r2 r3
    generalize sg s 170141183460469231731687303715884105728 = c at *
    go_enter Try.func50, Try.ntmps50
    go_wp2_with (first | (go_at_call 40; (with_reducible refine (CH.out _).mono ?_); rintro e w' ⟨rfl, hb⟩; obtain ⟨hc, hf⟩ := bcell hb; have hz0 : w.heap.size < w'.heap.size := bsz hb (by first | omega | (simp; done) | (simp; omega)); have hz1 : w.heap.size + 1 < w'.heap.size := bsz hb (by first | omega | (simp; done) | (simp; omega))) | (go_at_call 46; (with_reducible refine (DH.out _).mono ?_); rintro e w2 ⟨rfl, hb2⟩; obtain ⟨hc2, hf2⟩ := bcell hb2; have hz2 : w.heap.size < w2.heap.size := bsz hb2 (by first | omega | (simp; done) | (simp; omega)); have hz3 : w.heap.size + 1 < w2.heap.size := bsz hb2 (by first | omega | (simp; done) | (simp; omega))))
    refine bodyPost_ret (v := .tuple #[Wv (-s), .int .i64 0]) (by simp [results, Try.results50, go_sem, hc, hz1, hc2, hz3, H.out.1, H.out.2]) rfl ⟨by rw [r.out.1, r.out.2] <;> rfl, ?_⟩
    repeat (first | exact Below.refl _ _ | apply Below.drew | refine Below.setCell ?_ (by first | (simp; done) | (simp; omega) | omega) _ | refine Below.alloc ?_ (by first | (simp; done) | (simp; omega) | omega) _ | refine Below.trans ?_ (hb2.mono (by first | (simp; done) | (simp; omega) | omega)) | refine Below.trans ?_ (hb.mono (by first | (simp; done) | (simp; omega) | omega)))

set_option maxHeartbeats 1000000 in
/-- signed -/
theorem signed_any (s : Int) (neg : Bool) (w : World) (h : U s) : Calls Try.prog 43 #[Sv s, .bool neg] w fun e w' => e = .returned (.tuple #[Wv (told (sd neg s)), .int .i64 (over (sd neg s))]) ∧ Below w.heap.size w w' := by
  cases neg with
  | true =>
    have CH := Lib.hid (fun W => negated_any s W h)
    have e0 := Lib.hid (show sd true s = -s from rfl)
    clear h
    generalize sd true s = t at *
    go_enter Try.func43, Try.ntmps43
    go_wp2_with (go_at_call 50; (with_reducible refine (CH.out _).mono ?_); rintro e w' ⟨rfl, hb⟩; obtain ⟨hc, hf⟩ := bcell hb; have hz0 : w.heap.size < w'.heap.size := bsz hb (by first | omega | (simp; done) | (simp; omega)); have hz1 : w.heap.size + 1 < w'.heap.size := bsz hb (by first | omega | (simp; done) | (simp; omega)))
    refine bodyPost_ret (v := .tuple #[Wv (told (-s)), .int .i64 (over (-s))]) (by simp [results, Try.results43, go_sem, hc]) rfl ⟨by rw [e0.out], ?_⟩
    repeat (first | exact Below.refl _ _ | apply Below.drew | refine Below.setCell ?_ (by first | (simp; done) | (simp; omega) | omega) _ | refine Below.alloc ?_ (by first | (simp; done) | (simp; omega) | omega) _ | refine Below.trans ?_ (hb.mono (by first | (simp; done) | (simp; omega) | omega)))
  | false =>
    have e0 := Lib.hid (show sd false s = s from rfl)
    by_cases g : 9223372036854775808 ≤ hi s
    · have r := Lib.hid (And.intro (told_out (pos_high g)) (over_out (pos_high g)))
      clear h
      generalize sd false s = t at *
      go_enter Try.func43, Try.ntmps43
      go_wp2
      refine bodyPost_ret (v := .tuple #[.agg #[.int .i64 0, .int .u64 0], .int .i64 3]) (by simp [results, Try.results43, go_sem]) rfl ⟨by rw [e0.out, r.out.1, r.out.2] <;> rfl, ?_⟩
      repeat (first | exact Below.refl _ _ | apply Below.drew | refine Below.setCell ?_ (by first | (simp; done) | (simp; omega) | omega) _ | refine Below.alloc ?_ (by first | (simp; done) | (simp; omega) | omega) _)
    · have g' : hi s < 9223372036854775808 := by omega
      obtain ⟨r1, r2⟩ := pos_low h g'
      have r := Lib.hid (And.intro (told_in r1) (And.intro (over_in r1) r2))
      have g0 := h.1
      clear h r1 r2 g
      generalize sd false s = t at *
      go_enter Try.func43, Try.ntmps43
      go_wp2
      refine bodyPost_ret (v := .tuple #[Wv s, .int .i64 0]) (by simp [results, Try.results43, go_sem]) rfl ⟨by rw [e0.out, r.out.1, r.out.2.1] <;> rfl, ?_⟩
      repeat (first | exact Below.refl _ _ | apply Below.drew | refine Below.setCell ?_ (by first | (simp; done) | (simp; omega) | omega) _ | refine Below.alloc ?_ (by first | (simp; done) | (simp; omega) | omega) _)

set_option maxHeartbeats 1000000 in
/-- sizeOf -/
theorem sizeOf_any (a : Int) (w : World) (ha : R a) : Calls Try.prog 37 #[Wv a] w fun e w' => e = .returned (Sv (ab a)) ∧ Below w.heap.size w w' := by
  have DH := Lib.hid (fun W => Int.zero_sub (ws a) ▸ sv0 ▸ less_any 0 (ws a) W (by decide) (U_ws a))
  have l1 := lo_ws a
  have l2 := u64_hi_ws a
  cases g : ng a with
  | true =>
    have E := Lib.hid (ab_of_neg ha g)
    have LH := Lib.hid (And.intro l1 l2)
    clear ha l1 l2
    generalize ws a = u at *
    go_enter Try.func37, Try.ntmps37
    go_wp2_with (first | (go_at_call 35; (with_reducible refine (below_any a _).mono ?_); rintro e w' ⟨rfl, rfl⟩) | (rw [LH.out.1, LH.out.2]; go_at_call 46; (with_reducible refine (DH.out _).mono ?_); rintro e w2 ⟨rfl, hb⟩; obtain ⟨hc, hf⟩ := bcell hb; have hz0 : w.heap.size < w2.heap.size := bsz hb (by first | omega | (simp; done) | (simp; omega)); have hz1 : w.heap.size + 1 < w2.heap.size := bsz hb (by first | omega | (simp; done) | (simp; omega))))
    refine bodyPost_ret (v := Sv (ws (-u))) (by simp [results, Try.results37, go_sem, hc]) rfl ⟨by rw [E.out] <;> rfl, ?_⟩
    repeat (first | exact Below.refl _ _ | apply Below.drew | refine Below.setCell ?_ (by first | (simp; done) | (simp; omega) | omega) _ | refine Below.alloc ?_ (by first | (simp; done) | (simp; omega) | omega) _ | refine Below.trans ?_ (hb.mono (by first | (simp; done) | (simp; omega) | omega)))
  | false =>
    have E := Lib.hid (ab_of_pos ha g)
    have LH := Lib.hid (And.intro l1 l2)
    clear ha l1 l2
    generalize ws a = u at *
    go_enter Try.func37, Try.ntmps37
    go_wp2_with (first | (go_at_call 35; (with_reducible refine (below_any a _).mono ?_); rintro e w' ⟨rfl, rfl⟩))
    refine bodyPost_ret (v := Sv u) (by simp [results, Try.results37, go_sem, LH.out.1, LH.out.2]) rfl ⟨by rw [E.out] <;> rfl, ?_⟩
    repeat (first | exact Below.refl _ _ | apply Below.drew | refine Below.setCell ?_ (by first | (simp; done) | (simp; omega) | omega) _ | refine Below.alloc ?_ (by first | (simp; done) | (simp; omega) | omega) _)
end Go.Proofs.Ytocoedpmcognpaa
