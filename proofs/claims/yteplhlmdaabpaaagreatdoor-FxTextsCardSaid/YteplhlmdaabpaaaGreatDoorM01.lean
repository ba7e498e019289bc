/-
  FxTexts' argument opened: words, texts, a number.
  Whole numbers of 128 bits, as a wide number's two halves: hi a and lo a of a whole number a.
  What the calls of package wide do, said of whole numbers: the small ones.
  What the calls of package wide do, said of whole numbers: sums, differences, small numbers.
  What the calls of package wide do, said of whole numbers: From, Small, Neg, and the statements' own small functions.
  Sizes (whole numbers of 128 bits without a sign): their halves behind a shift, their lengths.
-/
import Derived.Test.YteplhlmdaabpaaaGreatDoorRows
import Derived.WalkKit
import Derived.Lib.Hide
import Derived.Deep.Slices
import Derived.Deep.Fields
import Derived.ProofKit
import Derived.Carry
import Derived.WalkSpells
import Derived.StillTactics
import Derived.Laws.Pointers
import Derived.Laws.Externs
import Derived.Deep.RegionHeld3
import Derived.Shelf.Spec.BitsCarry
import Derived.RowKit3
import Derived.Laws.BitsAllLaws
import Derived.Lib.BitFns
import Derived.Lib.ItoaNum
namespace Go.Proofs.YteplhlmdaabpaaaGreatDoor
open Go.ChangeShapes Go.WideShapes Go.ChangeAt Go.RowKit Go.Deep

theorem Tryz.own : ownKnob Tryz.prog.godebug = none := by kernel_rfl
theorem Tryz.laidOut : laidOutB Tryz.prog = true := by kernel_rfl
theorem cX1 : Tryz.prog.cellsOf 22 = 1 := by kernel_rfl
theorem cX2 : Tryz.prog.cellsOf 23 = 1 := by kernel_rfl
theorem cX3 : Tryz.prog.cellsOf 3 = 1 := by kernel_rfl
theorem cX4 : Tryz.prog.cellsOf 2 = 1 := by kernel_rfl
theorem cX5 : Tryz.prog.cellsOf 9 = 1 := by kernel_rfl
theorem cX6 : Tryz.prog.cellsOf 25 = 3 := by kernel_rfl

/-- A slice's cells. -/
def Cel (w : World) (o : Option Addr) (n : Nat) (vs : Nat → Value) : Prop := ∀ i, i < n → ∃ b f, o = some ⟨b, f, none⟩ ∧ b < w.heap.size ∧ w.cell? ⟨b, f + i, none⟩ = some (vs i)
theorem Cel.below {w W : World} {o : Option Addr} {n : Nat} {vs : Nat → Value} (h : Cel w o n vs) (hB : Below w.heap.size w W) {i : Nat} (hi : i < n) : ∃ b f, o = some ⟨b, f, none⟩ ∧ W.cell? ⟨b, f + i, none⟩ = some (vs i) := by
  obtain ⟨b, f, e, hl, hc⟩ := h i hi
  exact ⟨b, f, e, (hB.cell (p := ⟨b, f + i, none⟩) hl).trans hc⟩

section
variable {H : Type} {enc : TypeId × Value → H} {w : World} {base : Nat} {spare : Nat → Bool} {held : Bool}
set_option maxRecDepth 100000 in
theorem open_cells {α : Type} [Inhabited α] (mk : α → Value) (Ok : α → Prop) {t e : TypeId} (ht : Tryz.prog.underlying t = some (.slice e)) (hc : Tryz.prog.cellsOf e = 1)
    (he : ∀ {fuel : Nat} {cs : List Value} {x : DataW H × List MemPlace}, DataW.trod enc Tryz.prog w base spare held fuel e cs = some x → ∃ a, Ok a ∧ cs = [mk a])
    {fuel : Nat} {v : Value} {x : DataW H × List MemPlace} (h : DataW.trod enc Tryz.prog w base spare held fuel t [v] = some x) : ∃ (o : Option Addr) (n c : Nat) (ws : Nat → α), v = .slice o n c ∧ n ≤ 9223372036854775807 ∧ (∀ i, i < n → Ok (ws i)) ∧ Cel w o n (fun i => mk (ws i)) := by
  rcases open_slice1 ht hc h with ⟨hcs, _⟩ | ⟨a, len, cap, m, n, V, D, Pl, hcs, _, hl, hm, hmm, _, hi⟩
  · simp only [List.cons.injEq, and_true] at hcs
    exact ⟨none, 0, 0, fun _ => default, hcs, by decide, fun i hi => absurd hi (Nat.not_lt_zero _), fun i hi => absurd hi (Nat.not_lt_zero _)⟩
  · simp only [List.cons.injEq, and_true] at hcs
    subst hcs
    have hle : len ≤ m := by rw [hmm]; split <;> omega
    have hall : ∀ i, i < len → ∃ y : α, Ok y ∧ w.cell? (a.add i) = some (mk y) := by
      intro i hik
      obtain ⟨hcell, htr⟩ := hi i (by omega)
      obtain ⟨y, h1, h2⟩ := he htr
      simp only [List.cons.injEq, and_true] at h2
      exact ⟨y, h1, by rw [hcell, h2]⟩
    let ys : Nat → α := fun i => if h : i < len then (hall i h).choose else default
    have hys : ∀ i, i < len → Ok (ys i) ∧ w.cell? (a.add i) = some (mk (ys i)) := by
      intro i hik
      have := (hall i hik).choose_spec
      simp only [ys, dif_pos hik]
      exact this
    refine ⟨some a, len, cap, ys, rfl, by unfold maxLen at hm; omega, fun i hik => (hys i hik).1, fun i hi2 => ?_⟩
    obtain ⟨b, off, spot⟩ := a
    have hc2 := (hys i hi2).2
    have hspot : spot = none := by simpa [Addr.add] using World.cell?_spot (hys 0 (by omega)).2
    subst hspot
    rw [Go.WideShapes.add_plain] at hc2
    exact ⟨b, off, rfl, World.block_lt_of_cell? w _ hc2, hc2⟩

set_option maxRecDepth 100000 in
theorem open_text {fuel : Nat} {cs : List Value} {x : DataW H × List MemPlace} (h : DataW.trod enc Tryz.prog w base spare held fuel 25 cs = some x) :
    ∃ (oL : Option Addr) (nL cL : Nat) (ws : Nat → Int) (oS : Option Addr) (nS cS : Nat) (ss : Nat → ByteArray) (F : Int), cs = [.slice oL nL cL, .slice oS nS cS, .int .i64 F] ∧ nL ≤ 9223372036854775807 ∧ nS ≤ 9223372036854775807 ∧
      Cel w oL nL (fun i => .int .i64 (ws i)) ∧ (∀ i, i < nS → (ss i).size ≤ maxLen) ∧ Cel w oS nS (fun i => .string (ss i)) := by
  obtain ⟨xs, n, _, _, hl, hxl, hf⟩ := DataW.trod_struct Tryz.underlying25 h
  rw [cX6] at hl
  match cs, hl with
  | [v0, v1, v2], _ =>
    have hxl2 : xs.length = 3 := hxl
    match xs, hxl2 with
    | [x0, x1, x2], _ =>
      have h0 : DataW.trod enc Tryz.prog w base spare held n 22 ((([v0, v1, v2] : List Value).drop 0).take (Tryz.prog.cellsOf 22)) = some x0 := hf 0 _ rfl
      have h1 : DataW.trod enc Tryz.prog w base spare held n 23 ((([v0, v1, v2] : List Value).drop 1).take (Tryz.prog.cellsOf 23)) = some x1 := hf 1 _ rfl
      have h2 : DataW.trod enc Tryz.prog w base spare held n 3 ((([v0, v1, v2] : List Value).drop 2).take (Tryz.prog.cellsOf 3)) = some x2 := hf 2 _ rfl
      simp only [cX1, cX2, cX3, List.drop_zero, List.drop_succ_cons, List.take_succ_cons, List.take_zero] at h0 h1 h2
      obtain ⟨oL, nL, cL, ws, rfl, l1, _, hL⟩ := open_cells (fun a : Int => Value.int .i64 a) (fun _ => True) Tryz.underlying22 cX4 (fun h => by
        obtain ⟨y, e0, _, _⟩ := DataW.trod_int Tryz.underlying2 h
        exact ⟨y, trivial, e0⟩) h0
      obtain ⟨oS, nS, cS, ss, rfl, l2, hs, hS⟩ := open_cells (fun a : ByteArray => Value.string a) (fun a => a.size ≤ maxLen) Tryz.underlying23 cX5 (fun h => by
        obtain ⟨y, e0, _, e2⟩ := DataW.trod_string Tryz.underlying9 h
        exact ⟨y, e2, e0⟩) h1
      obtain ⟨F, e2, _, _⟩ := DataW.trod_int Tryz.underlying3 h2
      simp only [List.cons.injEq, and_true] at e2
      subst e2
      exact ⟨oL, nL, cL, ws, oS, nS, cS, ss, F, rfl, l1, l2, hL, hs, hS⟩
end
end Go.Proofs.YteplhlmdaabpaaaGreatDoor
namespace Go.Proofs.YteplhlmdaabpaaaGreatDoor

def hi (a : Int) : Int := a / 18446744073709551616
def lo (a : Int) : Int := a % 18446744073709551616
/-- a is a wide number. -/
def R (a : Int) : Prop := -9223372036854775808 ≤ hi a ∧ hi a ≤ 9223372036854775807
instance (a : Int) : Decidable (R a) := inferInstanceAs (Decidable (_ ∧ _))
/-- a is below 0. -/
def ng (a : Int) : Bool := decide (a < 0)

theorem lo_bd (a : Int) : 0 ≤ lo a ∧ lo a ≤ 18446744073709551615 := by unfold lo; omega
theorem hi_lo (a : Int) : a = hi a * 18446744073709551616 + lo a := by unfold hi lo; omega
theorem hi_mk (h l : Int) (l0 : 0 ≤ l) (l1 : l ≤ 18446744073709551615) : hi (h * 18446744073709551616 + l) = h := by unfold hi; omega
theorem lo_mk (h l : Int) (l0 : 0 ≤ l) (l1 : l ≤ 18446744073709551615) : lo (h * 18446744073709551616 + l) = l := by unfold lo; omega
theorem hi_neg (a : Int) : decide (hi a < 0) = ng a := by unfold hi ng; rw [Bool.eq_iff_iff]; simp only [decide_eq_true_eq]; omega
theorem hl_inj {a b : Int} (h : hi a = hi b) (l : lo a = lo b) : a = b := by rw [hi_lo a, hi_lo b, h, l]

end Go.Proofs.YteplhlmdaabpaaaGreatDoor
namespace Go.Proofs.YteplhlmdaabpaaaGreatDoor
open Go.RowKit

abbrev Wv (a : Int) : Value := .agg #[.int .i64 (hi a), .int .u64 (lo a)]

theorem below_any (a : Int) (w : World) :
    Calls Tryz.prog 125 #[Wv a] w fun e w' => e = .returned (.bool (ng a)) ∧ w.alloc (.cells #[.int .i64 (hi a), .int .u64 (lo a)] 143) = w' := by
  have H := Lib.hid (hi_neg a)
  go_enter Tryz.func125, Tryz.ntmps125
  go_wp2
  go_ret
  exact ⟨by rw [H.out]; rfl, rfl⟩

theorem isNaN_i64 (a : Int) (w : World) : Calls Tryz.prog 142 #[.int .i64 a] w fun e w' => e = .returned (.bool false) ∧ w = w' := by
  go_enter Tryz.func142, Tryz.ntmps142
  go_wp2
  go_ret
  exact ⟨by simp, rfl⟩
theorem isNaN_u64 (a : Int) (w : World) : Calls Tryz.prog 141 #[.int .u64 a] w fun e w' => e = .returned (.bool false) ∧ w = w' := by
  go_enter Tryz.func141, Tryz.ntmps141
  go_wp2
  go_ret
  exact ⟨by simp, rfl⟩

/-- -1, 0, 1: as cmp.Compare tells it. -/
def sg (a b : Int) : Int := if a < b then -1 else if a > b then 1 else 0
theorem sg_lt {a b : Int} (h : a < b) : sg a b = -1 := by unfold sg; rw [if_pos h]
theorem sg_gt {a b : Int} (h : b < a) : sg a b = 1 := by unfold sg; rw [if_neg (by omega), if_pos h]
theorem sg_eq (a : Int) : sg a a = 0 := by unfold sg; rw [if_neg (by omega), if_neg (by omega)]

theorem compare_i64 (a b : Int) (w : World) : Calls Tryz.prog 140 #[.int .i64 a, .int .i64 b] w fun e w' => e = .returned (.int .i64 (sg a b)) ∧ w = w' := by
  rcases Int.lt_trichotomy a b with h | rfl | h
  · have H := Lib.hid (sg_lt h)
    go_enter Tryz.func140, Tryz.ntmps140
    go_wp2_with (go_at_call 142; refine (isNaN_i64 _ _).mono ?_; rintro e w' ⟨rfl, rfl⟩)
    go_ret
    exact ⟨by rw [H.out]; rfl, rfl⟩
  · have H := Lib.hid (sg_eq a)
    go_enter Tryz.func140, Tryz.ntmps140
    go_wp2_with (go_at_call 142; refine (isNaN_i64 _ _).mono ?_; rintro e w' ⟨rfl, rfl⟩)
    go_ret
    exact ⟨by rw [H.out]; rfl, rfl⟩
  · have H := Lib.hid (sg_gt h)
    go_enter Tryz.func140, Tryz.ntmps140
    go_wp2_with (go_at_call 142; refine (isNaN_i64 _ _).mono ?_; rintro e w' ⟨rfl, rfl⟩)
    go_ret
    exact ⟨by rw [H.out]; rfl, rfl⟩

theorem compare_u64 (a b : Int) (w : World) : Calls Tryz.prog 138 #[.int .u64 a, .int .u64 b] w fun e w' => e = .returned (.int .i64 (sg a b)) ∧ w = w' := by
  rcases Int.lt_trichotomy a b with h | rfl | h
  · have H := Lib.hid (sg_lt h)
    go_enter Tryz.func138, Tryz.ntmps138
    go_wp2_with (go_at_call 141; refine (isNaN_u64 _ _).mono ?_; rintro e w' ⟨rfl, rfl⟩)
    go_ret
    exact ⟨by rw [H.out]; rfl, rfl⟩
  · have H := Lib.hid (sg_eq a)
    go_enter Tryz.func138, Tryz.ntmps138
    go_wp2_with (go_at_call 141; refine (isNaN_u64 _ _).mono ?_; rintro e w' ⟨rfl, rfl⟩)
    go_ret
    exact ⟨by rw [H.out]; rfl, rfl⟩
  · have H := Lib.hid (sg_gt h)
    go_enter Tryz.func138, Tryz.ntmps138
    go_wp2_with (go_at_call 141; refine (isNaN_u64 _ _).mono ?_; rintro e w' ⟨rfl, rfl⟩)
    go_ret
    exact ⟨by rw [H.out]; rfl, rfl⟩

theorem sg_hi {a b : Int} (h : hi a ≠ hi b) : sg (hi a) (hi b) = sg a b := by
  unfold sg hi at *
  repeat' split <;> try omega
theorem sg_lo {a b : Int} (h : hi a = hi b) : sg (lo a) (lo b) = sg a b := by
  unfold sg lo hi at *
  repeat' split <;> try omega

/-- wide.Cmp -/
theorem cmp_any (a b : Int) (w : World) : Calls Tryz.prog 136 #[Wv a, Wv b] w fun e w' => e = .returned (.int .i64 (sg a b)) ∧ Below w.heap.size w w' := by
  by_cases h : hi a = hi b
  · have H := Lib.hid (sg_lo h)
    have g : (hi a != hi b) = false := by simp [h]
    have K := Lib.hid h
    clear h
    go_enter Tryz.func136, Tryz.ntmps136
    go_wp2_with (go_at_call 138; refine (compare_u64 _ _ _).mono ?_; rintro e w' ⟨rfl, rfl⟩)
    go_ret
    exact ⟨by rw [H.out]; rfl, ((Below.refl _ _).alloc (Nat.le_refl _) _).alloc (by simp) _⟩
  · have H := Lib.hid (sg_hi h)
    have g : (hi a != hi b) = true := by simp [h]
    clear h
    go_enter Tryz.func136, Tryz.ntmps136
    go_wp2_with (go_at_call 140; refine (compare_i64 _ _ _).mono ?_; rintro e w' ⟨rfl, rfl⟩)
    go_ret
    exact ⟨by rw [H.out]; rfl, ((Below.refl _ _).alloc (Nat.le_refl _) _).alloc (by simp) _⟩

theorem wv0 : Wv 0 = .agg #[.int .i64 0, .int .u64 0] := rfl
/-- wide.Sign -/
theorem sign_any (a : Int) (w : World) : Calls Tryz.prog 130 #[Wv a] w fun e w' => e = .returned (.int .i64 (sg a 0)) ∧ Below w.heap.size w w' := by
  have C := Lib.hid (fun W => cmp_any a 0 W)
  rw [wv0] at C
  go_enter Tryz.func130, Tryz.ntmps130
  go_wp2_with (go_at_call 136; refine (C.out _).mono ?_; rintro e w' ⟨rfl, hb⟩)
  go_ret
  exact ⟨rfl, ((Below.refl _ _).alloc (Nat.le_refl _) _).trans (hb.mono (by simp))⟩
end Go.Proofs.YteplhlmdaabpaaaGreatDoor
namespace Go.Proofs.YteplhlmdaabpaaaGreatDoor
open Go.RowKit

theorem add64 (x y c : Int) (hx : 0 ≤ x) (hy : 0 ≤ y) (hc0 : 0 ≤ c) (hc : c ≤ 1) (w : World) : (callFunc 139 #[.int .u64 x, .int .u64 y, .int .u64 c]).run Tryz.prog w =
    .ok (.value (.tuple #[.int .u64 ((x + y + c) % 18446744073709551616), .int .u64 ((x + y + c) / 18446744073709551616)])) w := by
  rw [run_callFunc_extern Tryz.func139 (by kernel_rfl) (by kernel_rfl) (by kernel_rfl) (e := add64Entry) (by kernel_rfl), run_add64 x y c hx hy hc0 hc]
  rfl
theorem sub64 (x y b : Int) (hx : 0 ≤ x) (hy : 0 ≤ y) (hy' : y < 18446744073709551616) (hb0 : 0 ≤ b) (hb : b ≤ 1) (w : World) : (callFunc 135 #[.int .u64 x, .int .u64 y, .int .u64 b]).run Tryz.prog w =
    .ok (.value (.tuple #[.int .u64 ((x - y - b) % 18446744073709551616), .int .u64 (if x < y + b then 1 else 0)])) w := by
  obtain ⟨x, rfl⟩ := Int.eq_ofNat_of_zero_le hx
  obtain ⟨y, rfl⟩ := Int.eq_ofNat_of_zero_le hy
  obtain ⟨b, rfl⟩ := Int.eq_ofNat_of_zero_le hb0
  have e1 : (((x + 18446744073709551616 - y - b) % 18446744073709551616 : Nat) : Int) = ((x : Int) - y - b) % 18446744073709551616 := by omega
  have e2 : ((if x < y + b then 1 else 0 : Nat) : Int) = if (x : Int) < y + b then 1 else 0 := by split <;> split <;> omega
  rw [← e1, ← e2, run_callFunc_extern Tryz.func135 (by kernel_rfl) (by kernel_rfl) (by kernel_rfl) (e := sub64Entry) (by kernel_rfl), run_sub64 x y b (by omega)]
  rfl
theorem add64_0 (x y : Int) (hx : 0 ≤ x) (hy : 0 ≤ y) (w : World) : (callFunc 139 #[.int .u64 x, .int .u64 y, .int .u64 0]).run Tryz.prog w =
    .ok (.value (.tuple #[.int .u64 ((x + y) % 18446744073709551616), .int .u64 ((x + y) / 18446744073709551616)])) w := by
  simpa using add64 x y 0 hx hy (Int.le_refl 0) (by decide) w
def bor (x y : Int) : Int := if x < y then 1 else 0
theorem bor_bd (x y : Int) : 0 ≤ bor x y ∧ bor x y ≤ 1 := by unfold bor; split <;> decide
theorem sub64_b (x y b : Int) (hx : 0 ≤ x) (hy : 0 ≤ y) (hy' : y < 18446744073709551616) (hb0 : 0 ≤ b) (hb : b ≤ 1) (w : World) : (callFunc 135 #[.int .u64 x, .int .u64 y, .int .u64 b]).run Tryz.prog w =
    .ok (.value (.tuple #[.int .u64 ((x - y - b) % 18446744073709551616), .int .u64 (bor x (y + b))])) w := sub64 x y b hx hy hy' hb0 hb w
theorem sub64_0 (x y : Int) (hx : 0 ≤ x) (hy : 0 ≤ y) (hy' : y < 18446744073709551616) (w : World) : (callFunc 135 #[.int .u64 x, .int .u64 y, .int .u64 0]).run Tryz.prog w =
    .ok (.value (.tuple #[.int .u64 ((x - y) % 18446744073709551616), .int .u64 (bor x y)])) w := by
  simpa using sub64_b x y 0 hx hy hy' (Int.le_refl 0) (by decide) w


/-- What two halves added without a look at the sign hold: the sum, wrapped. -/
def wr (x : Int) : Int := (x + 170141183460469231731687303715884105728) % 340282366920938463463374607431768211456 - 170141183460469231731687303715884105728
theorem R_iff (a : Int) : R a ↔ -170141183460469231731687303715884105728 ≤ a ∧ a ≤ 170141183460469231731687303715884105727 := by unfold R hi; omega
theorem R_wr (a : Int) : R (wr a) := by rw [R_iff]; unfold wr; omega
theorem wr_in {a : Int} (h : R a) : wr a = a := by rw [R_iff] at h; unfold wr; omega
theorem wrap_hi (x : Int) : hi (wr x) = wrap64 (hi x) := by unfold wr hi wrap64; omega
theorem wr_lo (x : Int) : lo (wr x) = lo x := by unfold wr lo; omega
theorem u64_nn (x : Int) : 0 ≤ IntKind.u64.wrap x := by rw [IntKind.wrap_u64]; omega
theorem u64_lt (x : Int) : IntKind.u64.wrap x < 18446744073709551616 := by rw [IntKind.wrap_u64]; omega
theorem add_lo (a b : Int) : (lo a + lo b) % 18446744073709551616 = lo (wr (a + b)) := by rw [wr_lo]; unfold lo; omega
theorem add_hi (a b : Int) : wrap64 ((IntKind.u64.wrap (hi a) + IntKind.u64.wrap (hi b) + (lo a + lo b) / 18446744073709551616) % 18446744073709551616) = hi (wr (a + b)) := by
  rw [wrap_hi, IntKind.wrap_u64, IntKind.wrap_u64]; unfold hi lo wrap64; omega
theorem sub_lo (a b : Int) : (lo a - lo b) % 18446744073709551616 = lo (wr (a - b)) := by rw [wr_lo]; unfold lo; omega
theorem sub_hi (a b : Int) : wrap64 ((IntKind.u64.wrap (hi a) - IntKind.u64.wrap (hi b) - bor (lo a) (lo b)) % 18446744073709551616) = hi (wr (a - b)) := by
  rw [wrap_hi, IntKind.wrap_u64, IntKind.wrap_u64]; unfold hi lo wrap64 bor; split <;> omega

/-- What a sum, a difference, a rounded quotient is told as: the number, or 0 with ErrOver. -/
def told (x : Int) : Int := if R x then x else 0
def over (x : Int) : Int := if R x then 0 else 3
theorem told_in {x : Int} (h : R x) : told x = x := if_pos h
theorem over_in {x : Int} (h : R x) : over x = 0 := if_pos h
theorem told_out {x : Int} (h : ¬ R x) : told x = 0 := if_neg h
theorem over_out {x : Int} (h : ¬ R x) : over x = 3 := if_neg h
theorem add_apart {a b : Int} (ha : R a) (hb : R b) (h : (ng a == ng b) = false) : R (a + b) := by
  rw [R_iff] at *; unfold ng at h; by_cases x : a < 0 <;> by_cases y : b < 0 <;> simp [x, y] at h <;> omega
theorem add_turned {a b : Int} (h : (ng a == ng b) = true) (k : (ng (wr (a + b)) == ng a) = false) : ¬ R (a + b) := by
  intro hr; rw [wr_in hr] at k; unfold ng at h k; by_cases x : a < 0 <;> by_cases y : b < 0 <;> simp [x, y] at h k <;> omega
theorem add_kept {a b : Int} (ha : R a) (hb : R b) (h : (ng a == ng b) = true) (k : (ng (wr (a + b)) == ng a) = true) : R (a + b) := by
  rw [R_iff] at *; unfold ng wr at *; by_cases x : a < 0 <;> by_cases y : b < 0 <;> simp [x, y] at h k <;> omega
theorem sub_alike {a b : Int} (ha : R a) (hb : R b) (h : (ng a == ng b) = true) : R (a - b) := by
  rw [R_iff] at *; unfold ng at h; by_cases x : a < 0 <;> by_cases y : b < 0 <;> simp [x, y] at h <;> omega
theorem sub_turned {a b : Int} (h : (ng a == ng b) = false) (k : (ng (wr (a - b)) == ng a) = false) : ¬ R (a - b) := by
  intro hr; rw [wr_in hr] at k; unfold ng at h k; by_cases x : a < 0 <;> by_cases y : b < 0 <;> simp [x, y] at h k <;> omega
theorem sub_kept {a b : Int} (ha : R a) (hb : R b) (h : (ng a == ng b) = false) (k : (ng (wr (a - b)) == ng a) = true) : R (a - b) := by
  rw [R_iff] at *; unfold ng wr at *; by_cases x : a < 0 <;> by_cases y : b < 0 <;> simp [x, y] at h k <;> omega

end Go.Proofs.YteplhlmdaabpaaaGreatDoor
namespace Go.Proofs.YteplhlmdaabpaaaGreatDoor
open Go.RowKit

theorem bcell {W w1 : World} (hb : Below W.heap.size W w1) : (∀ b o, b < W.heap.size → w1.cell? ⟨b, o, none⟩ = W.cell? ⟨b, o, none⟩) ∧ (∀ b o, b < W.heap.size → w1.frozen? ⟨b, o, none⟩ = W.frozen? ⟨b, o, none⟩) :=
  ⟨fun b o h => hb.cell (p := ⟨b, o, none⟩) h, fun b o h => hb.frozen (p := ⟨b, o, none⟩) h⟩
theorem bsz {W w1 : World} (hb : Below W.heap.size W w1) {n : Nat} (h : n < W.heap.size) : n < w1.heap.size := Nat.lt_of_lt_of_le h hb.size
theorem hi_small {n : Int} (h0 : -9223372036854775808 ≤ n) (h1 : n ≤ 9223372036854775807) : hi n = if n < 0 then -1 else 0 := by unfold hi; split <;> omega


theorem shr_hi {n : Int} (h0 : -9223372036854775808 ≤ n) (h1 : n ≤ 9223372036854775807) : n / 9223372036854775808 = hi n := by unfold hi; omega
theorem u64_lo (n : Int) : IntKind.u64.wrap n = lo n := by rw [IntKind.wrap_u64]; rfl
/-- wide.From -/
theorem from_at (n : Int) (w : World) (h0 : -9223372036854775808 ≤ n) (h1 : n ≤ 9223372036854775807) : Calls Tryz.prog 116 #[.int .i64 n] w fun e w' => e = .returned (Wv n) ∧ w.alloc (.cells #[.int .i64 (hi n), .int .u64 (lo n)] 143) = w' := by
  have e1 := shr_hi h0 h1
  have e2 := u64_lo n
  go_enter Tryz.func116, Tryz.ntmps116
  go_wp2
  exact bodyPost_ret (v := Wv n) (by simp [results, Tryz.results116, go_sem]) rfl ⟨rfl, rfl⟩
theorem from_any (n : Int) (w : World) (h0 : -9223372036854775808 ≤ n) (h1 : n ≤ 9223372036854775807) : Calls Tryz.prog 116 #[.int .i64 n] w fun e w' => e = .returned (Wv n) ∧ Below w.heap.size w w' :=
  (from_at n w h0 h1).mono fun _ _ ⟨he, hw⟩ => ⟨he, hw ▸ (Below.refl _ _).alloc (Nat.le_refl _) _⟩
/-- Is a an int64? -/
def isS (a : Int) : Bool := decide (-9223372036854775808 ≤ a ∧ a ≤ 9223372036854775807)
def sm (a : Int) : Int := if isS a = true then a else 0
theorem isS_bd {a : Int} (h : isS a = true) : -9223372036854775808 ≤ a ∧ a ≤ 9223372036854775807 := by unfold isS at h; exact of_decide_eq_true h
theorem isS_mk {a : Int} (h : -9223372036854775808 ≤ a ∧ a ≤ 9223372036854775807) : isS a = true := by unfold isS; exact decide_eq_true h
theorem small_back {a : Int} (h : isS a = true) : wrap64 (lo a) = a := by have := isS_bd h; unfold wrap64 lo; omega
theorem small_not {a : Int} (h : isS a = false) : (hi a == hi (wrap64 (lo a))) = false := by
  have : ¬ (-9223372036854775808 ≤ a ∧ a ≤ 9223372036854775807) := by unfold isS at h; exact of_decide_eq_false h
  simp only [beq_eq_false_iff_ne, ne_eq]; unfold wrap64 lo hi; omega
theorem R_small {a : Int} (h0 : -9223372036854775808 ≤ a) (h1 : a ≤ 9223372036854775807) : R a := by rw [R_iff]; omega
/-- wide.Small -/
theorem small_any (a : Int) (w : World) : Calls Tryz.prog 127 #[Wv a] w fun e w' => e = .returned (.tuple #[.int .i64 (sm a), .bool (isS a)]) ∧ Below w.heap.size w w' := by
  cases g : isS a with
  | true =>
    have B := Lib.hid (isS_bd g)
    have e1 := small_back g
    have e2 := Lib.hid (show sm a = a from if_pos g)
    clear g
    go_enter Tryz.func127, Tryz.ntmps127
    go_wp2
    go_region_held3 (fun w' => w'.cell? ⟨w.heap.size, 0, none⟩ = some (.int .i64 (hi a)) ∧ w'.cell? ⟨w.heap.size, 1, none⟩ = some (.int .u64 (lo a))) (simp [go_sem])
      (first
      | (rw [e1]; go_at_call 116; refine (from_at a _ B.out.1 B.out.2).mono ?_; rintro e w' ⟨rfl, rfl⟩)
      | (go_at_call 116; refine (from_at a _ B.out.1 B.out.2).mono ?_; rintro e w' ⟨rfl, rfl⟩))
    go_wp2
    go_ret2
    exact ⟨by rw [e2.out] <;> rfl, by repeat (first | exact Below.refl _ _ | apply Below.drew | refine Below.alloc ?_ (by simp) _)⟩
  | false =>
    have e3 := small_not g
    obtain ⟨m, em⟩ : ∃ m, wrap64 (lo a) = m := ⟨_, rfl⟩
    have B : Hid (-9223372036854775808 ≤ m ∧ m ≤ 9223372036854775807) := by subst em; unfold wrap64 Hid; omega
    have e2 := Lib.hid (show sm a = 0 from if_neg (by simp [g]))
    rw [em] at e3
    clear g
    go_enter Tryz.func127, Tryz.ntmps127
    go_wp2
    go_region_held3 (fun w' => w'.cell? ⟨w.heap.size, 0, none⟩ = some (.int .i64 (hi a)) ∧ w'.cell? ⟨w.heap.size, 1, none⟩ = some (.int .u64 (lo a))) (simp [go_sem])
      (first
      | (go_at_call 116; refine (from_at m _ B.out.1 B.out.2).mono ?_; rintro e w' ⟨rfl, rfl⟩)
      | (rw [em]; go_at_call 116; refine (from_at m _ B.out.1 B.out.2).mono ?_; rintro e w' ⟨rfl, rfl⟩))
    go_wp2
    go_ret2
    exact ⟨by rw [e2.out] <;> rfl, by repeat (first | exact Below.refl _ _ | apply Below.drew | refine Below.alloc ?_ (by simp) _)⟩
theorem tmod_64 (i n : Int) (h0 : 1 ≤ n) (h1 : n ≤ 9223372036854775807) : wrap64 ((IntKind.u64.wrap i).tmod n) = (i % 18446744073709551616) % n := by
  rw [IntKind.wrap_u64, Int.tmod_eq_emod_of_nonneg (by omega)]
  have := Int.emod_nonneg (i % 18446744073709551616) (show n ≠ 0 by omega)
  have := Int.emod_lt_of_pos (i % 18446744073709551616) (show 0 < n by omega)
  exact IntWalk.wrap64_in _ ⟨by omega, by omega⟩
theorem within_any (i n : Int) (w : World) (h0 : 1 ≤ n) (h1 : n ≤ 9223372036854775807) : Calls Tryz.prog 13 #[.int .i64 i, .int .i64 n] w fun e w' => e = .returned (.int .i64 ((i % 18446744073709551616) % n)) ∧ w = w' := by
  have E := Lib.hid (tmod_64 i n h0 h1)
  go_enter Tryz.func13, Tryz.ntmps13
  go_wp2
  go_ret
  exact ⟨by rw [← E.out]; rfl, rfl⟩
end Go.Proofs.YteplhlmdaabpaaaGreatDoor
namespace Go.Proofs.YteplhlmdaabpaaaGreatDoor

/-- s is a size. -/
def U (s : Int) : Prop := 0 ≤ hi s ∧ hi s ≤ 18446744073709551615
instance (s : Int) : Decidable (U s) := inferInstanceAs (Decidable (_ ∧ _))
theorem U_iff (s : Int) : U s ↔ 0 ≤ s ∧ s ≤ 340282366920938463463374607431768211455 := by unfold U hi; omega
/-- A size, wrapped. -/
def ws (x : Int) : Int := x % 340282366920938463463374607431768211456
theorem U_ws (x : Int) : U (ws x) := by rw [U_iff]; unfold ws; omega
theorem ws_in {x : Int} (h : U x) : ws x = x := by rw [U_iff] at h; unfold ws; omega
theorem ws_hi (x : Int) : hi (ws x) = hi x % 18446744073709551616 := by unfold ws hi; omega
theorem ws_lo (x : Int) : lo (ws x) = lo x := by unfold ws lo; omega
theorem lo_mul (s p : Int) : lo (s * p) = lo s * p % 18446744073709551616 := by
  unfold lo; rw [Int.mul_emod s p, Int.mul_emod (s % 18446744073709551616) p, Int.emod_emod]
theorem hi_mul64 (x : Int) : hi (x * 18446744073709551616) = x := by unfold hi; omega
theorem lo_mul64 (x : Int) : lo (x * 18446744073709551616) = 0 := by unfold lo; omega

theorem pow_split {n : Nat} (h : 64 ≤ n) : (2 : Int) ^ n = 2 ^ (n - 64) * 18446744073709551616 := by
  obtain ⟨k, rfl⟩ := Nat.exists_eq_add_of_le h
  rw [Nat.add_sub_cancel_left, Int.pow_add, Int.mul_comm]; rfl
theorem left64_hi (s : Int) (n : Nat) (h : 64 ≤ n) : IntKind.u64.wrap (lo s * 2 ^ (n - 64)) = hi (ws (s * 2 ^ n)) := by
  rw [IntKind.wrap_u64, ws_hi, pow_split h, ← Int.mul_assoc, hi_mul64]
  exact (lo_mul s (2 ^ (n - 64))).symm
theorem left64_lo (s : Int) (n : Nat) (h : 64 ≤ n) : 0 = lo (ws (s * 2 ^ n)) := by
  rw [ws_lo, pow_split h, ← Int.mul_assoc, lo_mul64]
theorem left_lo (s : Int) (n : Nat) : IntKind.u64.wrap (lo s * 2 ^ n) = lo (ws (s * 2 ^ n)) := by
  rw [IntKind.wrap_u64, ws_lo, lo_mul]
theorem pow_both {n : Nat} (h : n ≤ 64) : (2 : Int) ^ n * 2 ^ (64 - n) = 18446744073709551616 := by
  rw [← Int.pow_add, Nat.add_sub_cancel' h]; rfl
theorem hi_mul (s p q : Int) (hp : 0 < p) (hpq : p * q = 18446744073709551616) : hi (s * p) = hi s * p + lo s / q := by
  have e : s * p = hi s * p * 18446744073709551616 + lo s * p := by
    conv => lhs; rw [hi_lo s]
    rw [Int.add_mul]; congr 1
    rw [Int.mul_assoc, Int.mul_comm 18446744073709551616 p, ← Int.mul_assoc]
  have f : lo s * p / 18446744073709551616 = lo s / q := by
    rw [← hpq, Int.mul_comm p q]; exact Int.mul_ediv_mul_of_pos_left _ _ hp
  rw [e, ← f]; unfold hi; omega
theorem left_hi (s : Int) (n : Nat) (h : n ≤ 63) (_hs : 0 ≤ hi s) : bits BinOp.or IntKind.u64 (IntKind.u64.wrap (hi s * 2 ^ n)) (lo s / 2 ^ (64 - n)) = hi (ws (s * 2 ^ n)) := by
  have hpq := pow_both (n := n) (by omega)
  have hp : (0 : Int) < 2 ^ n := Int.pow_pos (by decide)
  have hq : (0 : Int) < 2 ^ (64 - n) := Int.pow_pos (by decide)
  rw [ws_hi, hi_mul s _ _ hp hpq]
  have hl := lo_bd s
  -- the parts as natural numbers
  have eP : (2 : Int) ^ n = ((2 ^ n : Nat) : Int) := by simp
  have a0 := Int.emod_nonneg (hi s) (show (2 : Int) ^ (64 - n) ≠ 0 by omega)
  have a1 := Int.emod_lt_of_pos (hi s) hq
  have eA : hi s * 2 ^ n % 18446744073709551616 = 2 ^ n * (hi s % 2 ^ (64 - n)) := by
    rw [← hpq, Int.mul_comm (hi s)]; exact Int.mul_emod_mul_of_pos _ _ hp
  have b0 : 0 ≤ lo s / 2 ^ (64 - n) := Int.ediv_nonneg hl.1 (by omega)
  have b1 : lo s / 2 ^ (64 - n) < 2 ^ n := Int.ediv_lt_of_lt_mul hq (by omega)
  have m1 : 2 ^ n * (hi s % 2 ^ (64 - n)) + 2 ^ n ≤ 18446744073709551616 := by
    have : (2 : Int) ^ n * (hi s % 2 ^ (64 - n) + 1) ≤ 2 ^ n * 2 ^ (64 - n) := Int.mul_le_mul_of_nonneg_left (by omega) (by omega)
    rw [hpq, Int.mul_add, Int.mul_one] at this
    exact this
  have m0 : 0 ≤ 2 ^ n * (hi s % 2 ^ (64 - n)) := Int.mul_nonneg (by omega) a0
  rw [IntKind.wrap_u64, eA]
  generalize hA : hi s % 2 ^ (64 - n) = A at *
  generalize hB : lo s / 2 ^ (64 - n) = B at *
  obtain ⟨A, rfl⟩ := Int.eq_ofNat_of_zero_le a0
  obtain ⟨B, rfl⟩ := Int.eq_ofNat_of_zero_le b0
  have r : (hi s * 2 ^ n + (B : Int)) % 18446744073709551616 = 2 ^ n * (A : Int) + B := by
    generalize hi s * 2 ^ n = X at eA
    generalize (2 : Int) ^ n * (A : Int) = Y at *
    generalize (2 : Int) ^ n = P at *
    omega
  rw [r, eP, ← Int.natCast_mul, u64_or_nat _ _ (by rw [eP, ← Int.natCast_mul] at m1; omega) (by rw [eP] at b1 m1; rw [← Int.natCast_mul] at m1; omega)]
  rw [← Int.natCast_add]
  congr 1
  have bn : B < 2 ^ n := by rw [eP] at b1; omega
  exact (Nat.two_pow_add_eq_or_of_lt bn A).symm

/-- How many bits a size has. -/
def bl (s : Int) : Nat := Lib.bitLenAux 128 s.toNat
theorem bl_zero : bl 0 = 0 := rfl
theorem bl_bd {s : Int} (h : U s) (h0 : s ≠ 0) : 1 ≤ bl s ∧ (2 : Int) ^ (bl s - 1) ≤ s ∧ s < 2 ^ bl s := by
  rw [U_iff] at h
  obtain ⟨x, rfl⟩ := Int.eq_ofNat_of_zero_le h.1
  have := Lib.bitLenAux_bounds 128 x (by have : (2 : Nat) ^ 128 = 340282366920938463463374607431768211456 := by decide
                                         omega) (by omega)
  obtain ⟨a, b, c⟩ := this
  refine ⟨a, ?_, ?_⟩
  · have : ((2 ^ (Lib.bitLenAux 128 x - 1) : Nat) : Int) ≤ (x : Int) := by omega
    simpa [bl] using this
  · have : (x : Int) < ((2 ^ (Lib.bitLenAux 128 x) : Nat) : Int) := by omega
    simpa [bl] using this
theorem bitLenAux_up : ∀ (k f x : Nat), 2 ^ k ≤ x → Lib.bitLenAux (k + f) x = k + Lib.bitLenAux f (x / 2 ^ k)
  | 0, f, x, _ => by simp
  | k + 1, f, x, h => by
    have h2 : 2 ^ k ≤ x / 2 := by rw [Nat.pow_succ] at h; omega
    have hx : x ≠ 0 := by have := Nat.two_pow_pos (k + 1); omega
    have e : x / 2 / 2 ^ k = x / 2 ^ (k + 1) := by rw [Nat.div_div_eq_div_mul, Nat.pow_succ, Nat.mul_comm 2]
    rw [show k + 1 + f = (k + f) + 1 by omega]
    simp only [Lib.bitLenAux, if_neg hx]
    rw [bitLenAux_up k f (x / 2) h2, e]
    omega
theorem bl_low {s : Int} (h : hi s = 0) : Lib.bitLen (lo s).toNat = bl s := by
  have e : s = lo s := by have := hi_lo s; omega
  have b := lo_bd s
  unfold bl Lib.bitLen
  rw [← e]
  exact (Lib.bitLenAux_fuel 64 s.toNat (by have : (2 : Nat) ^ 64 = 18446744073709551616 := by decide
                                           omega) 128 (by omega)).symm
theorem bl_high {s : Int} (h : U s) (g : hi s ≠ 0) : 64 + Lib.bitLen (hi s).toNat = bl s := by
  obtain ⟨h0, h1⟩ := h
  have b := lo_bd s
  have hs := hi_lo s
  have e : (hi s).toNat = s.toNat / 2 ^ 64 := by
    have : (2 : Nat) ^ 64 = 18446744073709551616 := by decide
    omega
  unfold bl Lib.bitLen
  rw [e]
  exact (bitLenAux_up 64 64 s.toNat (by have : (2 : Nat) ^ 64 = 18446744073709551616 := by decide
                                        omega)).symm
theorem bl_le {s : Int} (h : U s) : bl s ≤ 128 := by
  by_cases h0 : s = 0
  · subst h0; decide
  · rw [U_iff] at h
    refine Lib.bitLenAux_le 128 s.toNat 128 ?_
    have : (2 : Nat) ^ 128 = 340282366920938463463374607431768211456 := by decide
    omega
theorem bitLen_64 (x : Int) (h0 : 0 ≤ x) (h1 : x ≤ 18446744073709551615) : Lib.bitLen x.toNat ≤ 64 :=
  Lib.bitLen_le _ 64 (Nat.le_refl _) (by have : (2 : Nat) ^ 64 = 18446744073709551616 := by decide
                                         omega)
end Go.Proofs.YteplhlmdaabpaaaGreatDoor
