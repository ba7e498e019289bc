/-
  The references' whole numbers with a sign: halved, divided.
  The references' whole numbers with a sign: divided, rounded down.
  Texts of whole numbers: the references' and package wide's.
  math/bits.Div64 by 10^19: the quotient and the rest.
  Package wide's text of a number.
  The document's own answer for package wide: a wide number as a whole one.
-/
import Derived.Test.YtmdjpnjpnfkihaaDoorShelf
import Derived.Deep.QuietTactic
import Derived.BigQuiet
import Derived.Lib.Hide
import Derived.Deep.CutBlock
import Derived.Deep.DeepCutAuto
import Derived.LoopTactic
import Derived.Shelf.Spec.BitsCarry
import Derived.Laws.BitsAllLaws
import Derived.Test.YtmdjpnjpnfkihaaDoorM01
import Derived.Test.YtmdjpnjpnfkihaaDoorM02
import Derived.Test.YtmdjpnjpnfkihaaDoorM04
import Derived.Test.YtmdjpnjpnfkihaaDoorM05
namespace Go.Proofs.YtmdjpnjpnfkihaaDoor
open Go.RowKit

theorem right_pos {z : Int} (h : 0 ≤ z) (n : Nat) : z / 2 ^ n = if false = true then -((z.natAbs / 2 ^ n : Nat) : Int) else ((z.natAbs / 2 ^ n : Nat) : Int) := by
  rw [if_neg (by decide), Int.natCast_ediv, Int.natAbs_of_nonneg h]
  simp
theorem right_even {z : Int} {n m : Nat} (h : z < 0) (_hm : m = z.natAbs / 2 ^ n) (he : m * 2 ^ n = z.natAbs) : z / 2 ^ n = -(m : Int) := by
  have p : (0 : Int) < 2 ^ n := Int.pow_pos (by decide)
  have e : z = -(m : Int) * 2 ^ n := by
    have : ((m * 2 ^ n : Nat) : Int) = z.natAbs := by rw [he]
    rw [Int.natCast_mul, Int.natCast_pow] at this
    rw [Int.neg_mul]
    have e2 : ((2 : Nat) : Int) = 2 := rfl
    rw [e2] at this
    omega
  rw [e, Int.mul_ediv_cancel _ (by omega)]
theorem right_odd {z : Int} {n m : Nat} (h : z < 0) (hm : m = z.natAbs / 2 ^ n) (he : m * 2 ^ n ≠ z.natAbs) : z / 2 ^ n = -((m + 1 : Nat) : Int) := by
  have p : (0 : Nat) < 2 ^ n := Nat.two_pow_pos n
  have d := Nat.div_add_mod z.natAbs (2 ^ n)
  have l := Nat.mod_lt z.natAbs p
  rw [← hm] at d
  have r0 : z.natAbs % 2 ^ n ≠ 0 := by intro e; rw [e, Nat.mul_comm] at d; exact he (by omega)
  have hP : (((2 : Nat) ^ n : Nat) : Int) = (2 : Int) ^ n := by simp
  rw [← hP]
  generalize z.natAbs % 2 ^ n = r at *
  generalize (2 : Nat) ^ n = P at *
  have e : z = ((P : Int) - r) + (P : Int) * (-((m : Int) + 1)) := by
    have h1 : ((P * m + r : Nat) : Int) = z.natAbs := by rw [d]
    rw [Int.natCast_add, Int.natCast_mul] at h1
    rw [Int.mul_neg, Int.mul_add, Int.mul_one]
    generalize (P : Int) * (m : Int) = A at *
    omega
  rw [e, Int.add_mul_ediv_left _ _ (by omega), Int.ediv_eq_zero_of_lt (by omega) (by omega)]
  omega

theorem nof_1 (w : World) : Calls Tryd.prog 37 #[.int .u64 1] w (SomeN w 1) := nof_num 1 w (by decide)
set_option maxRecDepth 100000 in
set_option maxHeartbeats 8000000 in
/-- Right -/
theorem iright_any (x : Value) (z : Int) (n : Nat) (w : World) (h : IsI w x z) (gz : z.natAbs < BIG) (hn : n ≤ 1048576) : Calls Tryd.prog 67 #[x, .int .i64 n] w (SomeI w (z / 2 ^ n)) := by
  obtain ⟨ba, oa, la, ca, rfl, Ha⟩ := h.open
  have G := Lib.hid (And.intro gz hn)
  have DC := Lib.hid (fun W h => down2_any (.slice oa la ca) z.natAbs n W h gz (by omega))
  clear gz hn h
  cases ba with
  | false =>
    have zp : Hid (0 ≤ z) := by have := Ha.out.1; simp at this; exact this
    go_enter Tryd.func67, Tryd.ntmps67
    go_wp2_with (first | (go_at_call 91; (with_reducible refine (DC.out _ (Ha.out.2.1.below (by repeat (first | exact Below.refl _ _ | assumption | apply Below.drew | refine Below.setCell ?_ (by first | omega | (simp; done) | (simp; omega)) _ | refine Below.alloc ?_ (by first | omega | (simp; done) | (simp; omega)) _)))).mono ?_); rintro e w1 ⟨vm, rfl, hnm, hb1⟩; have e10 : w1.cell? ⟨w.heap.size, 0, none⟩ = some (.bool false) := cell_on hb1 (by first | (simp [go_sem, *]; done) | (simp [go_sem, World.cell?_alloc_some, *]; done) | fail); have e11 : w1.cell? ⟨w.heap.size, 1, none⟩ = some (Value.slice oa la ca) := cell_on hb1 (by first | (simp [go_sem, *]; done) | (simp [go_sem, World.cell?_alloc_some, *]; done) | fail); have e12 : w1.cell? ⟨w.heap.size + 1, 0, none⟩ = some (.bool false) := cell_on hb1 (by first | (simp [go_sem, *]; done) | (simp [go_sem, World.cell?_alloc_some, *]; done) | fail); have e13 : w1.cell? ⟨w.heap.size + 1, 1, none⟩ = some (.slice none 0 0) := cell_on hb1 (by first | (simp [go_sem, *]; done) | (simp [go_sem, World.cell?_alloc_some, *]; done) | fail); have s10 : w.heap.size < w1.heap.size := World.block_lt_of_cell? _ _ e10; have t10 : w.heap.size < w1.heap.size + 1 := Nat.lt_succ_of_lt s10; have s12 : w.heap.size + 1 < w1.heap.size := World.block_lt_of_cell? _ _ e12; have t12 : w.heap.size + 1 < w1.heap.size + 1 := Nat.lt_succ_of_lt s12; have y12 : w1.frozen? ⟨w.heap.size + 1, 0, none⟩ = false := frozen_on hb1 (v := .bool false) (by first | (simp [go_sem, *]; done) | (simp [go_sem, World.cell?_alloc_some, *]; done) | fail) (by first | (simp [go_sem, *]; done) | (simp [go_sem, frozen?_alloc_cells, *]; done) | fail); have y13 : w1.frozen? ⟨w.heap.size + 1, 1, none⟩ = false := frozen_on hb1 (v := .slice none 0 0) (by first | (simp [go_sem, *]; done) | (simp [go_sem, World.cell?_alloc_some, *]; done) | fail) (by first | (simp [go_sem, *]; done) | (simp [go_sem, frozen?_alloc_cells, *]; done) | fail); have q1 := hb1.size; (try simp at q1); have Nm := Lib.hid hnm; clear hnm) | (go_at_call 36; (with_reducible refine (made_as _ _ (z.natAbs / 2 ^ n) (z / 2 ^ n) _ Nm.out (right_pos zp.out n)).mono ?_); rintro e w2 ⟨v, rfl, hv, hb2⟩; have e20 : w2.cell? ⟨w.heap.size, 0, none⟩ = some (.bool false) := cell_on hb2 (by first | (simp [go_sem, *]; done) | (simp [go_sem, World.cell?_alloc_some, *]; done) | fail); have e21 : w2.cell? ⟨w.heap.size, 1, none⟩ = some (Value.slice oa la ca) := cell_on hb2 (by first | (simp [go_sem, *]; done) | (simp [go_sem, World.cell?_alloc_some, *]; done) | fail); have e22 : w2.cell? ⟨w.heap.size + 1, 0, none⟩ = some (.bool false) := cell_on hb2 (by first | (simp [go_sem, *]; done) | (simp [go_sem, World.cell?_alloc_some, *]; done) | fail); have e23 : w2.cell? ⟨w.heap.size + 1, 1, none⟩ = some (.slice none 0 0) := cell_on hb2 (by first | (simp [go_sem, *]; done) | (simp [go_sem, World.cell?_alloc_some, *]; done) | fail); have s20 : w.heap.size < w2.heap.size := World.block_lt_of_cell? _ _ e20; have t20 : w.heap.size < w2.heap.size + 1 := Nat.lt_succ_of_lt s20; have s22 : w.heap.size + 1 < w2.heap.size := World.block_lt_of_cell? _ _ e22; have t22 : w.heap.size + 1 < w2.heap.size + 1 := Nat.lt_succ_of_lt s22; have y22 : w2.frozen? ⟨w.heap.size + 1, 0, none⟩ = false := frozen_on hb2 (v := .bool false) (by first | (simp [go_sem, *]; done) | (simp [go_sem, World.cell?_alloc_some, *]; done) | fail) (by first | (simp [go_sem, *]; done) | (simp [go_sem, frozen?_alloc_cells, *]; done) | fail); have y23 : w2.frozen? ⟨w.heap.size + 1, 1, none⟩ = false := frozen_on hb2 (v := .slice none 0 0) (by first | (simp [go_sem, *]; done) | (simp [go_sem, World.cell?_alloc_some, *]; done) | fail) (by first | (simp [go_sem, *]; done) | (simp [go_sem, frozen?_alloc_cells, *]; done) | fail); have q2 := hb2.size; (try simp at q2); obtain ⟨bv, ov, lv, cv, rfl, Hv⟩ := hv.open; clear hv) | fail)
    first | (go_region_with fail) | fail
    all_goals
      go_wp2_with (first | (go_at_call 36; (with_reducible refine (made_as _ _ (z.natAbs / 2 ^ n) (z / 2 ^ n) _ (Nm.out.below (by repeat (first | exact Below.refl _ _ | assumption | apply Below.drew | refine Below.setCell ?_ (by first | omega | (simp; done) | (simp; omega)) _ | refine Below.alloc ?_ (by first | omega | (simp; done) | (simp; omega)) _))) (right_pos zp.out n)).mono ?_); rintro e w2 ⟨v, rfl, hv, hb2⟩; have e20 : w2.cell? ⟨w.heap.size, 0, none⟩ = some (.bool false) := cell_on hb2 (by first | (simp [go_sem, *]; done) | (simp [go_sem, World.cell?_alloc_some, *]; done) | fail); have e21 : w2.cell? ⟨w.heap.size, 1, none⟩ = some (Value.slice oa la ca) := cell_on hb2 (by first | (simp [go_sem, *]; done) | (simp [go_sem, World.cell?_alloc_some, *]; done) | fail); have e22 : w2.cell? ⟨w.heap.size + 1, 0, none⟩ = some (.bool false) := cell_on hb2 (by first | (simp [go_sem, *]; done) | (simp [go_sem, World.cell?_alloc_some, *]; done) | fail); have e23 : w2.cell? ⟨w.heap.size + 1, 1, none⟩ = some (.slice none 0 0) := cell_on hb2 (by first | (simp [go_sem, *]; done) | (simp [go_sem, World.cell?_alloc_some, *]; done) | fail); have s20 : w.heap.size < w2.heap.size := World.block_lt_of_cell? _ _ e20; have t20 : w.heap.size < w2.heap.size + 1 := Nat.lt_succ_of_lt s20; have s22 : w.heap.size + 1 < w2.heap.size := World.block_lt_of_cell? _ _ e22; have t22 : w.heap.size + 1 < w2.heap.size + 1 := Nat.lt_succ_of_lt s22; have y22 : w2.frozen? ⟨w.heap.size + 1, 0, none⟩ = false := frozen_on hb2 (v := .bool false) (by first | (simp [go_sem, *]; done) | (simp [go_sem, World.cell?_alloc_some, *]; done) | fail) (by first | (simp [go_sem, *]; done) | (simp [go_sem, frozen?_alloc_cells, *]; done) | fail); have y23 : w2.frozen? ⟨w.heap.size + 1, 1, none⟩ = false := frozen_on hb2 (v := .slice none 0 0) (by first | (simp [go_sem, *]; done) | (simp [go_sem, World.cell?_alloc_some, *]; done) | fail) (by first | (simp [go_sem, *]; done) | (simp [go_sem, frozen?_alloc_cells, *]; done) | fail); have q2 := hb2.size; (try simp at q2); obtain ⟨bv, ov, lv, cv, rfl, Hv⟩ := hv.open; clear hv) | fail)
      refine bodyPost_ret (v := Iv bv (.slice ov lv cv)) (by simp [results, Tryd.results67, go_sem, *]) rfl ⟨_, rfl, (IsI.mk Hv.out.1 Hv.out.2.1).put e22 (by simp) e23 (by simp), ?_⟩
      repeat (first | exact Below.refl _ _ | assumption | apply Below.drew | refine Below.setCell ?_ (by first | omega | (simp; done) | (simp; omega)) _ | refine Below.alloc ?_ (by first | omega | (simp; done) | (simp; omega)) _ | refine Below.trans ?_ (hb2.mono (by first | omega | (simp; done) | (simp; omega))) | refine Below.trans ?_ (hb1.mono (by first | omega | (simp; done) | (simp; omega))))
  | true =>
    have zn : Hid (z < 0) := by have := Ha.out.1; simp at this; exact this
    obtain ⟨m, hm⟩ : ∃ m, m = z.natAbs / 2 ^ n := ⟨_, rfl⟩
    rw [← hm] at DC
    have mle : m ≤ z.natAbs := by rw [hm]; exact Nat.div_le_self _ _
    have mul : m * 2 ^ n ≤ z.natAbs := by rw [hm]; exact Nat.div_mul_le_self _ _
    have GM : Hid (m < BIG ∧ m * 2 ^ n < BIG ∧ m + 1 ≤ BIG) := ⟨Nat.lt_of_le_of_lt mle G.out.1, Nat.lt_of_le_of_lt mul G.out.1, Nat.lt_of_le_of_lt mle G.out.1⟩
    by_cases he : m * 2 ^ n = z.natAbs
    · have RV := Lib.hid (right_even zn.out hm he)
      have CE := Lib.hid he
      have CM : Hid (∀ (W : World) (u : Value), IsN W u (m * 2 ^ n) → IsN W (.slice oa la ca) z.natAbs → Calls Tryd.prog 44 #[u, .slice oa la ca] W fun e w' => e = .returned (.int .i64 (0)) ∧ Below W.heap.size W w') := fun W u h1 h2 => by
        have h := ncmp_any _ _ _ _ W h1 h2 GM.out.2.1 G.out.1
        rw [show sg ((m * 2 ^ n : Nat) : Int) (z.natAbs : Nat) = 0 from by rw [CE.out]; exact sg_eq _] at h
        exact h
      clear he mle mul hm
      go_enter Tryd.func67, Tryd.ntmps67
      go_wp2_with (first | (go_at_call 91; (with_reducible refine (DC.out _ (Ha.out.2.1.below (by repeat (first | exact Below.refl _ _ | assumption | apply Below.drew | refine Below.setCell ?_ (by first | omega | (simp; done) | (simp; omega)) _ | refine Below.alloc ?_ (by first | omega | (simp; done) | (simp; omega)) _)))).mono ?_); rintro e w1 ⟨vm, rfl, hnm, hb1⟩; have e10 : w1.cell? ⟨w.heap.size, 0, none⟩ = some (.bool true) := cell_on hb1 (by first | (simp [go_sem, *]; done) | (simp [go_sem, World.cell?_alloc_some, *]; done) | fail); have e11 : w1.cell? ⟨w.heap.size, 1, none⟩ = some (Value.slice oa la ca) := cell_on hb1 (by first | (simp [go_sem, *]; done) | (simp [go_sem, World.cell?_alloc_some, *]; done) | fail); have e12 : w1.cell? ⟨w.heap.size + 1, 0, none⟩ = some (.bool false) := cell_on hb1 (by first | (simp [go_sem, *]; done) | (simp [go_sem, World.cell?_alloc_some, *]; done) | fail); have e13 : w1.cell? ⟨w.heap.size + 1, 1, none⟩ = some (.slice none 0 0) := cell_on hb1 (by first | (simp [go_sem, *]; done) | (simp [go_sem, World.cell?_alloc_some, *]; done) | fail); have s10 : w.heap.size < w1.heap.size := World.block_lt_of_cell? _ _ e10; have t10 : w.heap.size < w1.heap.size + 1 := Nat.lt_succ_of_lt s10; have s12 : w.heap.size + 1 < w1.heap.size := World.block_lt_of_cell? _ _ e12; have t12 : w.heap.size + 1 < w1.heap.size + 1 := Nat.lt_succ_of_lt s12; have y12 : w1.frozen? ⟨w.heap.size + 1, 0, none⟩ = false := frozen_on hb1 (v := .bool false) (by first | (simp [go_sem, *]; done) | (simp [go_sem, World.cell?_alloc_some, *]; done) | fail) (by first | (simp [go_sem, *]; done) | (simp [go_sem, frozen?_alloc_cells, *]; done) | fail); have y13 : w1.frozen? ⟨w.heap.size + 1, 1, none⟩ = false := frozen_on hb1 (v := .slice none 0 0) (by first | (simp [go_sem, *]; done) | (simp [go_sem, World.cell?_alloc_some, *]; done) | fail) (by first | (simp [go_sem, *]; done) | (simp [go_sem, frozen?_alloc_cells, *]; done) | fail); have q1 := hb1.size; (try simp at q1); have Nm := Lib.hid hnm; clear hnm) | fail)
      go_region_held3 (fun w' => w'.cell? ⟨w.heap.size, 0, none⟩ = some (.bool true) ∧ w'.cell? ⟨w.heap.size, 1, none⟩ = some (Value.slice oa la ca)) (first | (simp [go_sem, *]; done) | (simp [go_sem, World.cell?_alloc_some, *]; done)) (first | (go_at_call 51; (with_reducible refine (up2_any _ m n _ (Nm.out.below (by repeat (first | exact Below.refl _ _ | assumption | apply Below.drew | refine Below.setCell ?_ (by first | omega | (simp; done) | (simp; omega)) _ | refine Below.alloc ?_ (by first | omega | (simp; done) | (simp; omega)) _))) GM.out.1 G.out.2).mono ?_); rintro e w3 ⟨vu, rfl, hnu, hb3⟩; have e30 : w3.cell? ⟨w.heap.size, 0, none⟩ = some (.bool true) := cell_on hb3 (by first | (simp [go_sem, *]; done) | (simp [go_sem, World.cell?_alloc_some, *]; done) | fail); have e31 : w3.cell? ⟨w.heap.size, 1, none⟩ = some (Value.slice oa la ca) := cell_on hb3 (by first | (simp [go_sem, *]; done) | (simp [go_sem, World.cell?_alloc_some, *]; done) | fail); have e32 : w3.cell? ⟨w.heap.size + 1, 0, none⟩ = some (.bool false) := cell_on hb3 (by first | (simp [go_sem, *]; done) | (simp [go_sem, World.cell?_alloc_some, *]; done) | fail); have e33 : w3.cell? ⟨w.heap.size + 1, 1, none⟩ = some (.slice none 0 0) := cell_on hb3 (by first | (simp [go_sem, *]; done) | (simp [go_sem, World.cell?_alloc_some, *]; done) | fail); have s30 : w.heap.size < w3.heap.size := World.block_lt_of_cell? _ _ e30; have t30 : w.heap.size < w3.heap.size + 1 := Nat.lt_succ_of_lt s30; have s32 : w.heap.size + 1 < w3.heap.size := World.block_lt_of_cell? _ _ e32; have t32 : w.heap.size + 1 < w3.heap.size + 1 := Nat.lt_succ_of_lt s32; have y32 : w3.frozen? ⟨w.heap.size + 1, 0, none⟩ = false := frozen_on hb3 (v := .bool false) (by first | (simp [go_sem, *]; done) | (simp [go_sem, World.cell?_alloc_some, *]; done) | fail) (by first | (simp [go_sem, *]; done) | (simp [go_sem, frozen?_alloc_cells, *]; done) | fail); have y33 : w3.frozen? ⟨w.heap.size + 1, 1, none⟩ = false := frozen_on hb3 (v := .slice none 0 0) (by first | (simp [go_sem, *]; done) | (simp [go_sem, World.cell?_alloc_some, *]; done) | fail) (by first | (simp [go_sem, *]; done) | (simp [go_sem, frozen?_alloc_cells, *]; done) | fail); have q3 := hb3.size; (try simp at q3); have Nu := Lib.hid hnu; clear hnu) | (go_at_call 44; (with_reducible refine (CM.out _ _ (Nu.out.below (by repeat (first | exact Below.refl _ _ | assumption | apply Below.drew | refine Below.setCell ?_ (by first | omega | (simp; done) | (simp; omega)) _ | refine Below.alloc ?_ (by first | omega | (simp; done) | (simp; omega)) _))) (Ha.out.2.1.below (by repeat (first | exact Below.refl _ _ | assumption | apply Below.drew | refine Below.setCell ?_ (by first | omega | (simp; done) | (simp; omega)) _ | refine Below.alloc ?_ (by first | omega | (simp; done) | (simp; omega)) _ | refine Below.trans ?_ (hb3.mono (by first | omega | (simp; done) | (simp; omega))) | refine Below.trans ?_ (hb1.mono (by first | omega | (simp; done) | (simp; omega))))))).mono ?_); rintro e w4 ⟨rfl, hb4⟩; have e40 : w4.cell? ⟨w.heap.size, 0, none⟩ = some (.bool true) := cell_on hb4 (by first | (simp [go_sem, *]; done) | (simp [go_sem, World.cell?_alloc_some, *]; done) | fail); have e41 : w4.cell? ⟨w.heap.size, 1, none⟩ = some (Value.slice oa la ca) := cell_on hb4 (by first | (simp [go_sem, *]; done) | (simp [go_sem, World.cell?_alloc_some, *]; done) | fail); have e42 : w4.cell? ⟨w.heap.size + 1, 0, none⟩ = some (.bool false) := cell_on hb4 (by first | (simp [go_sem, *]; done) | (simp [go_sem, World.cell?_alloc_some, *]; done) | fail); have e43 : w4.cell? ⟨w.heap.size + 1, 1, none⟩ = some (.slice none 0 0) := cell_on hb4 (by first | (simp [go_sem, *]; done) | (simp [go_sem, World.cell?_alloc_some, *]; done) | fail); have s40 : w.heap.size < w4.heap.size := World.block_lt_of_cell? _ _ e40; have t40 : w.heap.size < w4.heap.size + 1 := Nat.lt_succ_of_lt s40; have s42 : w.heap.size + 1 < w4.heap.size := World.block_lt_of_cell? _ _ e42; have t42 : w.heap.size + 1 < w4.heap.size + 1 := Nat.lt_succ_of_lt s42; have y42 : w4.frozen? ⟨w.heap.size + 1, 0, none⟩ = false := frozen_on hb4 (v := .bool false) (by first | (simp [go_sem, *]; done) | (simp [go_sem, World.cell?_alloc_some, *]; done) | fail) (by first | (simp [go_sem, *]; done) | (simp [go_sem, frozen?_alloc_cells, *]; done) | fail); have y43 : w4.frozen? ⟨w.heap.size + 1, 1, none⟩ = false := frozen_on hb4 (v := .slice none 0 0) (by first | (simp [go_sem, *]; done) | (simp [go_sem, World.cell?_alloc_some, *]; done) | fail) (by first | (simp [go_sem, *]; done) | (simp [go_sem, frozen?_alloc_cells, *]; done) | fail); have q4 := hb4.size; (try simp at q4)))
      all_goals
        go_wp2_with (first | (go_at_call 36; (with_reducible refine (made_as _ _ m (z / 2 ^ n) _ (Nm.out.below (by repeat (first | exact Below.refl _ _ | assumption | apply Below.drew | refine Below.setCell ?_ (by first | omega | (simp; done) | (simp; omega)) _ | refine Below.alloc ?_ (by first | omega | (simp; done) | (simp; omega)) _ | refine Below.trans ?_ (hb4.mono (by first | omega | (simp; done) | (simp; omega))) | refine Below.trans ?_ (hb3.mono (by first | omega | (simp; done) | (simp; omega)))))) (RV.out.trans (if_pos rfl).symm)).mono ?_); rintro e w7 ⟨v, rfl, hv, hb7⟩; have e70 : w7.cell? ⟨w.heap.size, 0, none⟩ = some (.bool true) := cell_on hb7 (by first | (simp [go_sem, *]; done) | (simp [go_sem, World.cell?_alloc_some, *]; done) | fail); have e71 : w7.cell? ⟨w.heap.size, 1, none⟩ = some (Value.slice oa la ca) := cell_on hb7 (by first | (simp [go_sem, *]; done) | (simp [go_sem, World.cell?_alloc_some, *]; done) | fail); have e72 : w7.cell? ⟨w.heap.size + 1, 0, none⟩ = some (.bool false) := cell_on hb7 (by first | (simp [go_sem, *]; done) | (simp [go_sem, World.cell?_alloc_some, *]; done) | fail); have e73 : w7.cell? ⟨w.heap.size + 1, 1, none⟩ = some (.slice none 0 0) := cell_on hb7 (by first | (simp [go_sem, *]; done) | (simp [go_sem, World.cell?_alloc_some, *]; done) | fail); have s70 : w.heap.size < w7.heap.size := World.block_lt_of_cell? _ _ e70; have t70 : w.heap.size < w7.heap.size + 1 := Nat.lt_succ_of_lt s70; have s72 : w.heap.size + 1 < w7.heap.size := World.block_lt_of_cell? _ _ e72; have t72 : w.heap.size + 1 < w7.heap.size + 1 := Nat.lt_succ_of_lt s72; have y72 : w7.frozen? ⟨w.heap.size + 1, 0, none⟩ = false := frozen_on hb7 (v := .bool false) (by first | (simp [go_sem, *]; done) | (simp [go_sem, World.cell?_alloc_some, *]; done) | fail) (by first | (simp [go_sem, *]; done) | (simp [go_sem, frozen?_alloc_cells, *]; done) | fail); have y73 : w7.frozen? ⟨w.heap.size + 1, 1, none⟩ = false := frozen_on hb7 (v := .slice none 0 0) (by first | (simp [go_sem, *]; done) | (simp [go_sem, World.cell?_alloc_some, *]; done) | fail) (by first | (simp [go_sem, *]; done) | (simp [go_sem, frozen?_alloc_cells, *]; done) | fail); have q7 := hb7.size; (try simp at q7); obtain ⟨bv, ov, lv, cv, rfl, Hv⟩ := hv.open; clear hv) | fail)
        refine bodyPost_ret (v := Iv bv (.slice ov lv cv)) (by simp [results, Tryd.results67, go_sem, *]) rfl ⟨_, rfl, (IsI.mk Hv.out.1 Hv.out.2.1).put e72 (by simp) e73 (by simp), ?_⟩
        repeat (first | exact Below.refl _ _ | assumption | apply Below.drew | refine Below.setCell ?_ (by first | omega | (simp; done) | (simp; omega)) _ | refine Below.alloc ?_ (by first | omega | (simp; done) | (simp; omega)) _ | refine Below.trans ?_ (hb7.mono (by first | omega | (simp; done) | (simp; omega))) | refine Below.trans ?_ (hb6.mono (by first | omega | (simp; done) | (simp; omega))) | refine Below.trans ?_ (hb5.mono (by first | omega | (simp; done) | (simp; omega))) | refine Below.trans ?_ (hb4.mono (by first | omega | (simp; done) | (simp; omega))) | refine Below.trans ?_ (hb3.mono (by first | omega | (simp; done) | (simp; omega))) | refine Below.trans ?_ (hb1.mono (by first | omega | (simp; done) | (simp; omega))))
    · have RV := Lib.hid (right_odd zn.out hm he)
      have CE := Lib.hid (show m * 2 ^ n < z.natAbs by omega)
      have CM : Hid (∀ (W : World) (u : Value), IsN W u (m * 2 ^ n) → IsN W (.slice oa la ca) z.natAbs → Calls Tryd.prog 44 #[u, .slice oa la ca] W fun e w' => e = .returned (.int .i64 (-1)) ∧ Below W.heap.size W w') := fun W u h1 h2 => by
        have h := ncmp_any _ _ _ _ W h1 h2 GM.out.2.1 G.out.1
        rw [show sg ((m * 2 ^ n : Nat) : Int) (z.natAbs : Nat) = -1 from sg_lt (by have := CE.out; omega)] at h
        exact h
      clear he mle mul hm
      go_enter Tryd.func67, Tryd.ntmps67
      go_wp2_with (first | (go_at_call 91; (with_reducible refine (DC.out _ (Ha.out.2.1.below (by repeat (first | exact Below.refl _ _ | assumption | apply Below.drew | refine Below.setCell ?_ (by first | omega | (simp; done) | (simp; omega)) _ | refine Below.alloc ?_ (by first | omega | (simp; done) | (simp; omega)) _)))).mono ?_); rintro e w1 ⟨vm, rfl, hnm, hb1⟩; have e10 : w1.cell? ⟨w.heap.size, 0, none⟩ = some (.bool true) := cell_on hb1 (by first | (simp [go_sem, *]; done) | (simp [go_sem, World.cell?_alloc_some, *]; done) | fail); have e11 : w1.cell? ⟨w.heap.size, 1, none⟩ = some (Value.slice oa la ca) := cell_on hb1 (by first | (simp [go_sem, *]; done) | (simp [go_sem, World.cell?_alloc_some, *]; done) | fail); have e12 : w1.cell? ⟨w.heap.size + 1, 0, none⟩ = some (.bool false) := cell_on hb1 (by first | (simp [go_sem, *]; done) | (simp [go_sem, World.cell?_alloc_some, *]; done) | fail); have e13 : w1.cell? ⟨w.heap.size + 1, 1, none⟩ = some (.slice none 0 0) := cell_on hb1 (by first | (simp [go_sem, *]; done) | (simp [go_sem, World.cell?_alloc_some, *]; done) | fail); have s10 : w.heap.size < w1.heap.size := World.block_lt_of_cell? _ _ e10; have t10 : w.heap.size < w1.heap.size + 1 := Nat.lt_succ_of_lt s10; have s12 : w.heap.size + 1 < w1.heap.size := World.block_lt_of_cell? _ _ e12; have t12 : w.heap.size + 1 < w1.heap.size + 1 := Nat.lt_succ_of_lt s12; have y12 : w1.frozen? ⟨w.heap.size + 1, 0, none⟩ = false := frozen_on hb1 (v := .bool false) (by first | (simp [go_sem, *]; done) | (simp [go_sem, World.cell?_alloc_some, *]; done) | fail) (by first | (simp [go_sem, *]; done) | (simp [go_sem, frozen?_alloc_cells, *]; done) | fail); have y13 : w1.frozen? ⟨w.heap.size + 1, 1, none⟩ = false := frozen_on hb1 (v := .slice none 0 0) (by first | (simp [go_sem, *]; done) | (simp [go_sem, World.cell?_alloc_some, *]; done) | fail) (by first | (simp [go_sem, *]; done) | (simp [go_sem, frozen?_alloc_cells, *]; done) | fail); have q1 := hb1.size; (try simp at q1); have Nm := Lib.hid hnm; clear hnm) | fail)
      go_region_held3 (fun w' => w'.cell? ⟨w.heap.size, 0, none⟩ = some (.bool true) ∧ w'.cell? ⟨w.heap.size, 1, none⟩ = some (Value.slice oa la ca)) (first | (simp [go_sem, *]; done) | (simp [go_sem, World.cell?_alloc_some, *]; done)) (first | (go_at_call 51; (with_reducible refine (up2_any _ m n _ (Nm.out.below (by repeat (first | exact Below.refl _ _ | assumption | apply Below.drew | refine Below.setCell ?_ (by first | omega | (simp; done) | (simp; omega)) _ | refine Below.alloc ?_ (by first | omega | (simp; done) | (simp; omega)) _))) GM.out.1 G.out.2).mono ?_); rintro e w3 ⟨vu, rfl, hnu, hb3⟩; have e30 : w3.cell? ⟨w.heap.size, 0, none⟩ = some (.bool true) := cell_on hb3 (by first | (simp [go_sem, *]; done) | (simp [go_sem, World.cell?_alloc_some, *]; done) | fail); have e31 : w3.cell? ⟨w.heap.size, 1, none⟩ = some (Value.slice oa la ca) := cell_on hb3 (by first | (simp [go_sem, *]; done) | (simp [go_sem, World.cell?_alloc_some, *]; done) | fail); have e32 : w3.cell? ⟨w.heap.size + 1, 0, none⟩ = some (.bool false) := cell_on hb3 (by first | (simp [go_sem, *]; done) | (simp [go_sem, World.cell?_alloc_some, *]; done) | fail); have e33 : w3.cell? ⟨w.heap.size + 1, 1, none⟩ = some (.slice none 0 0) := cell_on hb3 (by first | (simp [go_sem, *]; done) | (simp [go_sem, World.cell?_alloc_some, *]; done) | fail); have s30 : w.heap.size < w3.heap.size := World.block_lt_of_cell? _ _ e30; have t30 : w.heap.size < w3.heap.size + 1 := Nat.lt_succ_of_lt s30; have s32 : w.heap.size + 1 < w3.heap.size := World.block_lt_of_cell? _ _ e32; have t32 : w.heap.size + 1 < w3.heap.size + 1 := Nat.lt_succ_of_lt s32; have y32 : w3.frozen? ⟨w.heap.size + 1, 0, none⟩ = false := frozen_on hb3 (v := .bool false) (by first | (simp [go_sem, *]; done) | (simp [go_sem, World.cell?_alloc_some, *]; done) | fail) (by first | (simp [go_sem, *]; done) | (simp [go_sem, frozen?_alloc_cells, *]; done) | fail); have y33 : w3.frozen? ⟨w.heap.size + 1, 1, none⟩ = false := frozen_on hb3 (v := .slice none 0 0) (by first | (simp [go_sem, *]; done) | (simp [go_sem, World.cell?_alloc_some, *]; done) | fail) (by first | (simp [go_sem, *]; done) | (simp [go_sem, frozen?_alloc_cells, *]; done) | fail); have q3 := hb3.size; (try simp at q3); have Nu := Lib.hid hnu; clear hnu) | (go_at_call 44; (with_reducible refine (CM.out _ _ (Nu.out.below (by repeat (first | exact Below.refl _ _ | assumption | apply Below.drew | refine Below.setCell ?_ (by first | omega | (simp; done) | (simp; omega)) _ | refine Below.alloc ?_ (by first | omega | (simp; done) | (simp; omega)) _))) (Ha.out.2.1.below (by repeat (first | exact Below.refl _ _ | assumption | apply Below.drew | refine Below.setCell ?_ (by first | omega | (simp; done) | (simp; omega)) _ | refine Below.alloc ?_ (by first | omega | (simp; done) | (simp; omega)) _ | refine Below.trans ?_ (hb3.mono (by first | omega | (simp; done) | (simp; omega))) | refine Below.trans ?_ (hb1.mono (by first | omega | (simp; done) | (simp; omega))))))).mono ?_); rintro e w4 ⟨rfl, hb4⟩; have e40 : w4.cell? ⟨w.heap.size, 0, none⟩ = some (.bool true) := cell_on hb4 (by first | (simp [go_sem, *]; done) | (simp [go_sem, World.cell?_alloc_some, *]; done) | fail); have e41 : w4.cell? ⟨w.heap.size, 1, none⟩ = some (Value.slice oa la ca) := cell_on hb4 (by first | (simp [go_sem, *]; done) | (simp [go_sem, World.cell?_alloc_some, *]; done) | fail); have e42 : w4.cell? ⟨w.heap.size + 1, 0, none⟩ = some (.bool false) := cell_on hb4 (by first | (simp [go_sem, *]; done) | (simp [go_sem, World.cell?_alloc_some, *]; done) | fail); have e43 : w4.cell? ⟨w.heap.size + 1, 1, none⟩ = some (.slice none 0 0) := cell_on hb4 (by first | (simp [go_sem, *]; done) | (simp [go_sem, World.cell?_alloc_some, *]; done) | fail); have s40 : w.heap.size < w4.heap.size := World.block_lt_of_cell? _ _ e40; have t40 : w.heap.size < w4.heap.size + 1 := Nat.lt_succ_of_lt s40; have s42 : w.heap.size + 1 < w4.heap.size := World.block_lt_of_cell? _ _ e42; have t42 : w.heap.size + 1 < w4.heap.size + 1 := Nat.lt_succ_of_lt s42; have y42 : w4.frozen? ⟨w.heap.size + 1, 0, none⟩ = false := frozen_on hb4 (v := .bool false) (by first | (simp [go_sem, *]; done) | (simp [go_sem, World.cell?_alloc_some, *]; done) | fail) (by first | (simp [go_sem, *]; done) | (simp [go_sem, frozen?_alloc_cells, *]; done) | fail); have y43 : w4.frozen? ⟨w.heap.size + 1, 1, none⟩ = false := frozen_on hb4 (v := .slice none 0 0) (by first | (simp [go_sem, *]; done) | (simp [go_sem, World.cell?_alloc_some, *]; done) | fail) (by first | (simp [go_sem, *]; done) | (simp [go_sem, frozen?_alloc_cells, *]; done) | fail); have q4 := hb4.size; (try simp at q4)))
      all_goals
        go_wp2_with (first | (go_at_call 37; (with_reducible refine (nof_1 _).mono ?_); rintro e w5 ⟨vo, rfl, hno, hb5⟩; have e50 : w5.cell? ⟨w.heap.size, 0, none⟩ = some (.bool true) := cell_on hb5 (by first | (simp [go_sem, *]; done) | (simp [go_sem, World.cell?_alloc_some, *]; done) | fail); have e51 : w5.cell? ⟨w.heap.size, 1, none⟩ = some (Value.slice oa la ca) := cell_on hb5 (by first | (simp [go_sem, *]; done) | (simp [go_sem, World.cell?_alloc_some, *]; done) | fail); have e52 : w5.cell? ⟨w.heap.size + 1, 0, none⟩ = some (.bool false) := cell_on hb5 (by first | (simp [go_sem, *]; done) | (simp [go_sem, World.cell?_alloc_some, *]; done) | fail); have e53 : w5.cell? ⟨w.heap.size + 1, 1, none⟩ = some (.slice none 0 0) := cell_on hb5 (by first | (simp [go_sem, *]; done) | (simp [go_sem, World.cell?_alloc_some, *]; done) | fail); have s50 : w.heap.size < w5.heap.size := World.block_lt_of_cell? _ _ e50; have t50 : w.heap.size < w5.heap.size + 1 := Nat.lt_succ_of_lt s50; have s52 : w.heap.size + 1 < w5.heap.size := World.block_lt_of_cell? _ _ e52; have t52 : w.heap.size + 1 < w5.heap.size + 1 := Nat.lt_succ_of_lt s52; have y52 : w5.frozen? ⟨w.heap.size + 1, 0, none⟩ = false := frozen_on hb5 (v := .bool false) (by first | (simp [go_sem, *]; done) | (simp [go_sem, World.cell?_alloc_some, *]; done) | fail) (by first | (simp [go_sem, *]; done) | (simp [go_sem, frozen?_alloc_cells, *]; done) | fail); have y53 : w5.frozen? ⟨w.heap.size + 1, 1, none⟩ = false := frozen_on hb5 (v := .slice none 0 0) (by first | (simp [go_sem, *]; done) | (simp [go_sem, World.cell?_alloc_some, *]; done) | fail) (by first | (simp [go_sem, *]; done) | (simp [go_sem, frozen?_alloc_cells, *]; done) | fail); have q5 := hb5.size; (try simp at q5); have No := Lib.hid hno; clear hno) | (go_at_call 43; (with_reducible refine (nplus_any _ _ m 1 _ (Nm.out.below (by repeat (first | exact Below.refl _ _ | assumption | apply Below.drew | refine Below.setCell ?_ (by first | omega | (simp; done) | (simp; omega)) _ | refine Below.alloc ?_ (by first | omega | (simp; done) | (simp; omega)) _ | refine Below.trans ?_ (hb5.mono (by first | omega | (simp; done) | (simp; omega))) | refine Below.trans ?_ (hb4.mono (by first | omega | (simp; done) | (simp; omega))) | refine Below.trans ?_ (hb3.mono (by first | omega | (simp; done) | (simp; omega)))))) (No.out.below (by repeat (first | exact Below.refl _ _ | assumption | apply Below.drew | refine Below.setCell ?_ (by first | omega | (simp; done) | (simp; omega)) _ | refine Below.alloc ?_ (by first | omega | (simp; done) | (simp; omega)) _))) GM.out.1 (big_of (k := 1) (by decide) (by decide))).mono ?_); rintro e w6 ⟨vp, rfl, hnp, hb6⟩; have e60 : w6.cell? ⟨w.heap.size, 0, none⟩ = some (.bool true) := cell_on hb6 (by first | (simp [go_sem, *]; done) | (simp [go_sem, World.cell?_alloc_some, *]; done) | fail); have e61 : w6.cell? ⟨w.heap.size, 1, none⟩ = some (Value.slice oa la ca) := cell_on hb6 (by first | (simp [go_sem, *]; done) | (simp [go_sem, World.cell?_alloc_some, *]; done) | fail); have e62 : w6.cell? ⟨w.heap.size + 1, 0, none⟩ = some (.bool false) := cell_on hb6 (by first | (simp [go_sem, *]; done) | (simp [go_sem, World.cell?_alloc_some, *]; done) | fail); have e63 : w6.cell? ⟨w.heap.size + 1, 1, none⟩ = some (.slice none 0 0) := cell_on hb6 (by first | (simp [go_sem, *]; done) | (simp [go_sem, World.cell?_alloc_some, *]; done) | fail); have s60 : w.heap.size < w6.heap.size := World.block_lt_of_cell? _ _ e60; have t60 : w.heap.size < w6.heap.size + 1 := Nat.lt_succ_of_lt s60; have s62 : w.heap.size + 1 < w6.heap.size := World.block_lt_of_cell? _ _ e62; have t62 : w.heap.size + 1 < w6.heap.size + 1 := Nat.lt_succ_of_lt s62; have y62 : w6.frozen? ⟨w.heap.size + 1, 0, none⟩ = false := frozen_on hb6 (v := .bool false) (by first | (simp [go_sem, *]; done) | (simp [go_sem, World.cell?_alloc_some, *]; done) | fail) (by first | (simp [go_sem, *]; done) | (simp [go_sem, frozen?_alloc_cells, *]; done) | fail); have y63 : w6.frozen? ⟨w.heap.size + 1, 1, none⟩ = false := frozen_on hb6 (v := .slice none 0 0) (by first | (simp [go_sem, *]; done) | (simp [go_sem, World.cell?_alloc_some, *]; done) | fail) (by first | (simp [go_sem, *]; done) | (simp [go_sem, frozen?_alloc_cells, *]; done) | fail); have q6 := hb6.size; (try simp at q6); have Np := Lib.hid hnp; clear hnp) | (go_at_call 36; (with_reducible refine (made_as _ _ (m + 1) (z / 2 ^ n) _ (Np.out.below (by repeat (first | exact Below.refl _ _ | assumption | apply Below.drew | refine Below.setCell ?_ (by first | omega | (simp; done) | (simp; omega)) _ | refine Below.alloc ?_ (by first | omega | (simp; done) | (simp; omega)) _ | refine Below.trans ?_ (hb4.mono (by first | omega | (simp; done) | (simp; omega))) | refine Below.trans ?_ (hb3.mono (by first | omega | (simp; done) | (simp; omega)))))) (RV.out.trans (if_pos rfl).symm)).mono ?_); rintro e w7 ⟨v, rfl, hv, hb7⟩; have e70 : w7.cell? ⟨w.heap.size, 0, none⟩ = some (.bool true) := cell_on hb7 (by first | (simp [go_sem, *]; done) | (simp [go_sem, World.cell?_alloc_some, *]; done) | fail); have e71 : w7.cell? ⟨w.heap.size, 1, none⟩ = some (Value.slice oa la ca) := cell_on hb7 (by first | (simp [go_sem, *]; done) | (simp [go_sem, World.cell?_alloc_some, *]; done) | fail); have e72 : w7.cell? ⟨w.heap.size + 1, 0, none⟩ = some (.bool false) := cell_on hb7 (by first | (simp [go_sem, *]; done) | (simp [go_sem, World.cell?_alloc_some, *]; done) | fail); have e73 : w7.cell? ⟨w.heap.size + 1, 1, none⟩ = some (.slice none 0 0) := cell_on hb7 (by first | (simp [go_sem, *]; done) | (simp [go_sem, World.cell?_alloc_some, *]; done) | fail); have s70 : w.heap.size < w7.heap.size := World.block_lt_of_cell? _ _ e70; have t70 : w.heap.size < w7.heap.size + 1 := Nat.lt_succ_of_lt s70; have s72 : w.heap.size + 1 < w7.heap.size := World.block_lt_of_cell? _ _ e72; have t72 : w.heap.size + 1 < w7.heap.size + 1 := Nat.lt_succ_of_lt s72; have y72 : w7.frozen? ⟨w.heap.size + 1, 0, none⟩ = false := frozen_on hb7 (v := .bool false) (by first | (simp [go_sem, *]; done) | (simp [go_sem, World.cell?_alloc_some, *]; done) | fail) (by first | (simp [go_sem, *]; done) | (simp [go_sem, frozen?_alloc_cells, *]; done) | fail); have y73 : w7.frozen? ⟨w.heap.size + 1, 1, none⟩ = false := frozen_on hb7 (v := .slice none 0 0) (by first | (simp [go_sem, *]; done) | (simp [go_sem, World.cell?_alloc_some, *]; done) | fail) (by first | (simp [go_sem, *]; done) | (simp [go_sem, frozen?_alloc_cells, *]; done) | fail); have q7 := hb7.size; (try simp at q7); obtain ⟨bv, ov, lv, cv, rfl, Hv⟩ := hv.open; clear hv) | fail)
        refine bodyPost_ret (v := Iv bv (.slice ov lv cv)) (by simp [results, Tryd.results67, go_sem, *]) rfl ⟨_, rfl, (IsI.mk Hv.out.1 Hv.out.2.1).put e72 (by simp) e73 (by simp), ?_⟩
        repeat (first | exact Below.refl _ _ | assumption | apply Below.drew | refine Below.setCell ?_ (by first | omega | (simp; done) | (simp; omega)) _ | refine Below.alloc ?_ (by first | omega | (simp; done) | (simp; omega)) _ | refine Below.trans ?_ (hb7.mono (by first | omega | (simp; done) | (simp; omega))) | refine Below.trans ?_ (hb6.mono (by first | omega | (simp; done) | (simp; omega))) | refine Below.trans ?_ (hb5.mono (by first | omega | (simp; done) | (simp; omega))) | refine Below.trans ?_ (hb4.mono (by first | omega | (simp; done) | (simp; omega))) | refine Below.trans ?_ (hb3.mono (by first | omega | (simp; done) | (simp; omega))) | refine Below.trans ?_ (hb1.mono (by first | omega | (simp; done) | (simp; omega))))
end Go.Proofs.YtmdjpnjpnfkihaaDoor
namespace Go.Proofs.YtmdjpnjpnfkihaaDoor
open Go.RowKit

def SomeII (w : World) (q r : Int) (e : Ending) (w' : World) : Prop := ∃ u v, e = .returned (.tuple #[u, v]) ∧ IsI w' u q ∧ IsI w' v r ∧ Below w.heap.size w w'

theorem dn_same {a b : Int} {x y : Bool} (hx : x = decide (a < 0)) (hy : y = decide (b < 0)) (h : (x == y) = true) : dn a b = ((a.natAbs / b.natAbs : Nat) : Int) := by
  have e : (ng a != ng b) = false := by
    unfold ng; rw [← hx, ← hy]; cases x <;> cases y <;> simp at h ⊢
  unfold dn
  rw [e]
  simp [sd, ab]
theorem dn_even {a b : Int} {x y : Bool} (hx : x = decide (a < 0)) (hy : y = decide (b < 0)) (h : (x == y) = false) (hr : a.natAbs % b.natAbs = 0) : dn a b = -((a.natAbs / b.natAbs : Nat) : Int) := by
  have e : (ng a != ng b) = true := by
    unfold ng; rw [← hx, ← hy]; cases x <;> cases y <;> simp at h ⊢
  have r : (ab a % ab b == 0) = true := by
    have : ab a % ab b = ((a.natAbs % b.natAbs : Nat) : Int) := rfl
    rw [this, hr]; rfl
  unfold dn
  rw [e, r]
  simp [sd, ab]
theorem dn_odd {a b : Int} {x y : Bool} (hx : x = decide (a < 0)) (hy : y = decide (b < 0)) (h : (x == y) = false) (hr : a.natAbs % b.natAbs ≠ 0) : dn a b = -((a.natAbs / b.natAbs : Nat) : Int) - 1 := by
  have e : (ng a != ng b) = true := by
    unfold ng; rw [← hx, ← hy]; cases x <;> cases y <;> simp at h ⊢
  have r : (ab a % ab b == 0) = false := by
    have : ab a % ab b = ((a.natAbs % b.natAbs : Nat) : Int) := rfl
    rw [this, beq_eq_false_iff_ne]; omega
  have q : ab a / ab b = ((a.natAbs / b.natAbs : Nat) : Int) := rfl
  unfold dn
  rw [e, r, q]
  simp [sd]
  omega
theorem one_big : (1 : Int).natAbs < BIG := big_of (k := 1) (by decide) (by decide)
theorem dn_le {a b : Int} (h0 : b ≠ 0) : (dn a b).natAbs ≤ a.natAbs := by
  have dp : 0 < b.natAbs := by omega
  have q1 := Nat.div_le_self a.natAbs b.natAbs
  have d := Nat.div_add_mod a.natAbs b.natAbs
  by_cases h : (decide (a < 0) == decide (b < 0)) = true
  · rw [dn_same rfl rfl h]
    generalize a.natAbs / b.natAbs = q at *
    omega
  · have h : (decide (a < 0) == decide (b < 0)) = false := by simpa using h
    by_cases hr : a.natAbs % b.natAbs = 0
    · rw [dn_even rfl rfl h hr]
      generalize a.natAbs / b.natAbs = q at *
      omega
    · rw [dn_odd rfl rfl h hr]
      have l := Nat.mod_lt a.natAbs dp
      have : 1 * (a.natAbs / b.natAbs) ≤ b.natAbs * (a.natAbs / b.natAbs) := Nat.mul_le_mul_right _ dp
      generalize a.natAbs / b.natAbs = q at *
      generalize b.natAbs * q = m at *
      omega
theorem dn_mul {a b : Int} (ga : a.natAbs < MID) (gb : b.natAbs < MID) (h0 : b ≠ 0) : (dn a b).natAbs < BIG ∧ (dn a b * b).natAbs < BIG := by
  have h := dn_le (a := a) h0
  refine ⟨Nat.lt_of_le_of_lt h (mid_big ga), ?_⟩
  rw [Int.natAbs_mul]
  unfold MID at ga gb
  exact big_of (k := 131073) (mul_pow_lt 65536 65536 131073 (Nat.le_of_lt (Nat.lt_of_le_of_lt h ga)) (Nat.le_of_lt gb) (by decide)) (by decide)

end Go.Proofs.YtmdjpnjpnfkihaaDoor
namespace Go.Proofs.YtmdjpnjpnfkihaaDoor
open Go.RowKit Go.Lib

theorem cat_toArray (a b : List UInt8) : ((⟨a.toArray⟩ : ByteArray) ++ ⟨b.toArray⟩) = ⟨(a ++ b).toArray⟩ := by
  apply ByteArray.ext
  simp
theorem ten45 : (2 : Nat) ^ 128 < 10 ^ (9 * 5) := by decide
set_option maxRecDepth 100000 in
set_option maxHeartbeats 8000000 in
theorem ntext_zero (v : Value) (w : World) (h : IsN w v 0) : Calls Tryd.prog 50 #[v] w fun e w' => e = .returned (.string ⟨(decDigits 0).toArray⟩) ∧ Below w.heap.size w w' := by
  have H := Lib.hid h
  have B0 : Hid (0 < BIG ∧ True) := ⟨big_of (k := 1) (by decide) (by decide), trivial⟩
  have E : Hid (decDigits 0 = [48]) := by unfold Hid; rw [dec_small (by decide)]; rfl
  clear h
  go_enter Tryd.func50, Tryd.ntmps50
  go_wp2_with (go_at_call 68; (with_reducible refine (halves_num v 0 _ H.out B0.out.1).mono ?_); rintro e w1 ⟨vx, rfl, hx, hb1⟩; obtain ⟨ox, lx, cx, rfl, fx⟩ := hx.form; have hl1 : lx = 0 := fx.2 rfl; subst hl1; clear fx hx)
  go_ret
  exact ⟨by rw [E.out] <;> rfl, hb1⟩
theorem ntext_wide (v : Value) (n : Nat) (w : World) (h : IsN w v n) (hn : n < 2 ^ 128) : Calls Tryd.prog 50 #[v] w fun e w' => e = .returned (.string ⟨(decDigits n).toArray⟩) ∧ Below w.heap.size w w' := by
  rcases Nat.eq_zero_or_pos n with g | g
  · subst g; exact ntext_zero v w h
  · exact ntext_any v n 5 w h g (big_of hn (by decide)) (Nat.lt_trans hn ten45) (by decide) (by decide)
set_option maxRecDepth 100000 in
set_option maxHeartbeats 8000000 in
theorem itext_any (x : Value) (z : Int) (w : World) (h : IsI w x z) (hz : z.natAbs < 2 ^ 128) : Calls Tryd.prog 14 #[x] w fun e w' => e = .returned (.string ⟨(itoa z).toArray⟩) ∧ Below w.heap.size w w' := by
  obtain ⟨bn, on, ln, cn, rfl, Hn⟩ := h.open
  have NT := Lib.hid (fun W h => ntext_wide (.slice on ln cn) z.natAbs W h hz)
  have hl : (decDigits z.natAbs).length ≤ 45 := (pad_dec 45 z.natAbs (by decide) (Nat.lt_trans hz ten45)).1
  clear h hz
  cases g : bn with
  | true =>
    have hz : z < 0 := by have := Hn.out.1; rw [g] at this; simpa using this.symm
    have E : Hid (itoa z = 45 :: decDigits z.natAbs) := by unfold itoa; rw [if_pos hz]; exact Lib.hid rfl
    clear hz
    subst g
    generalize decDigits z.natAbs = D at *
    have hl2 : ¬ 9223372036854775807 < 1 + D.length := by omega
    go_enter Tryd.func14, Tryd.ntmps14
    go_wp2_with (go_at_call 50; (with_reducible refine (NT.out _ (Hn.out.2.1.below ((Below.refl _ _).alloc (Nat.le_refl _) _))).mono ?_); rintro e w1 ⟨rfl, hb1⟩)
    go_ret
    exact ⟨by rw [E.out, cat_toArray] <;> rfl, ((Below.refl _ _).alloc (Nat.le_refl _) _).trans (hb1.mono (by simp))⟩
  | false =>
    have hz : ¬ z < 0 := by have := Hn.out.1; rw [g] at this; simpa using this.symm
    have E : Hid (itoa z = decDigits z.natAbs) := by unfold itoa; rw [if_neg hz, show z.toNat = z.natAbs by omega]; exact Lib.hid rfl
    clear hz
    subst g
    generalize decDigits z.natAbs = D at *
    have hl2 : ¬ 9223372036854775807 < 1 + D.length := by omega
    go_enter Tryd.func14, Tryd.ntmps14
    go_wp2_with (go_at_call 50; (with_reducible refine (NT.out _ (Hn.out.2.1.below ((Below.refl _ _).alloc (Nat.le_refl _) _))).mono ?_); rintro e w1 ⟨rfl, hb1⟩)
    go_ret
    exact ⟨by rw [E.out] <;> rfl, ((Below.refl _ _).alloc (Nat.le_refl _) _).trans (hb1.mono (by simp))⟩
end Go.Proofs.YtmdjpnjpnfkihaaDoor
namespace Go.Proofs.YtmdjpnjpnfkihaaDoor
open Go.RowKit

/-- The guess q of U B + u over a B + b, and what is left of U. -/
def DvInv (a U Q q rh : Nat) : Prop := U = q * a + rh ∧ Q ≤ q
theorem dv_and_mask (x : Nat) (h : x < 18446744073709551616) : bits BinOp.and IntKind.u64 (x : Int) 4294967295 = ((x % 4294967296 : Nat) : Int) := by
  have e : (4294967295 : Int) = ((2 ^ 32 - 1 : Nat) : Int) := by decide
  rw [e, u64_and_nat _ _ (by omega) (by decide), Nat.and_two_pow_sub_one_eq_mod]
theorem dv_or_zero (x : Nat) (h : x < 18446744073709551616) : bits BinOp.or IntKind.u64 (x : Int) 0 = (x : Int) := by
  have e : (0 : Int) = ((0 : Nat) : Int) := rfl
  rw [e, u64_or_nat _ _ (by omega) (by decide), Nat.or_zero]
theorem dv_wr (n : Nat) (h : n < 18446744073709551616) : IntKind.u64.wrap (n : Int) = (n : Int) := by rw [IntKind.wrap_u64]; omega
theorem dv_wr_sub (n m : Nat) (h : n < 18446744073709551616) (g : m ≤ n) : IntKind.u64.wrap ((n : Int) - (m : Int)) = ((n - m : Nat) : Int) := by rw [IntKind.wrap_u64]; omega
/-- What is left behind a digit, as the walk spells it. -/
theorem dv_mid (U u Q Y R : Nat) (hQ : Q = (U * 4294967296 + u) / Y) (hR : R = (U * 4294967296 + u) % Y) (hY : 0 < Y) (hY2 : Y < 18446744073709551616) : ∃ X1 X2 X3 : Nat, IntKind.u64.wrap ((U : Int) * 4294967296) = (X1 : Int) ∧ IntKind.u64.wrap ((X1 : Int) + (u : Int)) = (X2 : Int) ∧ IntKind.u64.wrap ((Q : Int) * (Y : Int)) = (X3 : Int) ∧ IntKind.u64.wrap ((X2 : Int) - (X3 : Int)) = (R : Int) := by
  have e := Nat.div_add_mod (U * 4294967296 + u) Y
  have l := Nat.mod_lt (U * 4294967296 + u) hY
  rw [← hQ, ← hR, Nat.mul_comm] at e
  rw [← hR] at l
  have c : (Q : Int) * (Y : Int) = ((Q * Y : Nat) : Int) := by simp
  rw [c]
  generalize Q * Y = P at *
  refine ⟨U * 4294967296 % 18446744073709551616, (U * 4294967296 + u) % 18446744073709551616, P % 18446744073709551616, ?_, ?_, ?_, ?_⟩ <;> rw [IntKind.wrap_u64] <;> omega
/-- Both digits, as the walk spells them. -/
theorem dv_end (hi u v Y Q1 R1 Q0 R0 : Nat) (h1 : hi < Y) (hY : 0 < Y) (_hY2 : Y < 18446744073709551616) (hu : u < 4294967296) (hv : v < 4294967296) (hQ1 : Q1 = (hi * 4294967296 + u) / Y) (hR1 : R1 = (hi * 4294967296 + u) % Y) (hQ0 : Q0 = (R1 * 4294967296 + v) / Y) (hR0 : R0 = (R1 * 4294967296 + v) % Y) :
    ∃ T D : Nat, (Q1 : Int) * 4294967296 = (T : Int) ∧ IntKind.u64.wrap (T : Int) = (T : Int) ∧ (T : Int) + (Q0 : Int) = (D : Int) ∧ IntKind.u64.wrap (D : Int) = (D : Int) ∧ D = (hi * 18446744073709551616 + (u * 4294967296 + v)) / Y ∧ R0 = (hi * 18446744073709551616 + (u * 4294967296 + v)) % Y := by
  have e1 := Nat.div_add_mod (hi * 4294967296 + u) Y
  have e0 := Nat.div_add_mod (R1 * 4294967296 + v) Y
  have l1 := Nat.mod_lt (hi * 4294967296 + u) hY
  have l0 := Nat.mod_lt (R1 * 4294967296 + v) hY
  rw [← hQ1, ← hR1] at e1
  rw [← hQ0, ← hR0] at e0
  rw [← hR1] at l1
  rw [← hR0] at l0
  have b1 : Q1 < 4294967296 := by
    rw [hQ1, Nat.div_lt_iff_lt_mul hY]
    have := Nat.mul_le_mul_right 4294967296 (show hi + 1 ≤ Y by omega)
    rw [Nat.succ_mul] at this
    rw [Nat.mul_comm 4294967296]
    omega
  have b0 : Q0 < 4294967296 := by
    rw [hQ0, Nat.div_lt_iff_lt_mul hY]
    have := Nat.mul_le_mul_right 4294967296 (show R1 + 1 ≤ Y by omega)
    rw [Nat.succ_mul] at this
    rw [Nat.mul_comm 4294967296]
    omega
  have tot : hi * 18446744073709551616 + (u * 4294967296 + v) = Y * (Q1 * 4294967296 + Q0) + R0 := by
    rw [Nat.mul_add, ← Nat.mul_assoc]
    omega
  refine ⟨Q1 * 4294967296, Q1 * 4294967296 + Q0, by simp, dv_wr _ (by omega), by simp, dv_wr _ (by omega), ?_, ?_⟩
  · rw [tot, Nat.mul_add_div hY, Nat.div_eq_of_lt l0, Nat.add_zero]
  · rw [tot, Nat.mul_add_mod, Nat.mod_eq_of_lt l0]
/-- A round's numbers, as the walk spells them. -/
theorem dv_round (q rh A B u : Nat) (hq : q ≤ 4294967297) (hr : rh < 4294967296) (hA : A < 4294967296) (hB : B < 4294967296) (hu : u < 4294967296) : ∃ p t M N1 N : Nat, p = q - 1 ∧ t = rh + A ∧ M = q * B ∧ N = rh * 4294967296 + u ∧ (rh : Int) + (A : Int) = (t : Int) ∧ IntKind.u64.wrap (t : Int) = (t : Int) ∧ (q : Int) * (B : Int) = (M : Int) ∧ (q < 4294967296 → IntKind.u64.wrap (M : Int) = (M : Int)) ∧ (4294967296 : Int) * (rh : Int) = (N1 : Int) ∧ IntKind.u64.wrap (N1 : Int) = (N1 : Int) ∧ (N1 : Int) + (u : Int) = (N : Int) ∧ IntKind.u64.wrap (N : Int) = (N : Int) ∧ (0 < q → (q : Int) - 1 = (p : Int)) ∧ IntKind.u64.wrap (p : Int) = (p : Int) := by
  refine ⟨_, _, _, 4294967296 * rh, _, rfl, rfl, rfl, rfl, by simp, dv_wr _ (by omega), by simp, fun h => dv_wr _ ?_, by simp, dv_wr _ (by omega), by simp; omega, dv_wr _ (by omega), fun h => by omega, dv_wr _ (by omega)⟩
  have := Nat.mul_le_mul (Nat.le_of_lt_succ h) (Nat.le_of_lt hB)
  omega
/-- What the first guess leaves, as the walk spells it. -/
theorem dv_start (hi A q0 r0 p0 : Nat) (h : hi < 18446744073709551616) (hq0 : q0 = hi / A) (hr0 : r0 = hi % A) (hp0 : p0 = q0 * A) : ((hi : Int) / (A : Int)) = (q0 : Int) ∧ IntKind.u64.wrap (q0 : Int) = (q0 : Int) ∧ ((q0 : Int) * (A : Int)) = (p0 : Int) ∧ IntKind.u64.wrap (p0 : Int) = (p0 : Int) ∧ IntKind.u64.wrap ((hi : Int) - (p0 : Int)) = (r0 : Int) := by
  have e := Nat.div_add_mod hi A
  rw [Nat.mul_comm, ← hq0, ← hr0, ← hp0] at e
  have l := Nat.div_le_self hi A
  rw [← hq0] at l
  refine ⟨by rw [hq0]; rfl, dv_wr _ (by omega), by rw [hp0]; simp, dv_wr _ (by omega), ?_⟩
  rw [dv_wr_sub _ _ h (by omega)]
  congr 1
  omega
theorem dv_bit {Y : Nat} (h : 9223372036854775808 ≤ Y) (h2 : Y < 18446744073709551616) : Lib.bitLen Y = 64 := by
  have a := Lib.bitLen_le Y 64 (Nat.le_refl _) h2
  rcases Nat.lt_or_ge (Lib.bitLen Y) 64 with g | g
  · have := (Lib.bitLenAux_bounds 64 Y h2 (by omega)).2.2
    have p := Nat.pow_le_pow_right (show 0 < 2 by decide) (show Lib.bitLen Y ≤ 63 by omega)
    unfold Lib.bitLen at p
    omega
  · omega
theorem dvk_start {a b B U u : Nat} (ha : 0 < a) (hu : u < B) : DvInv a U ((U * B + u) / (a * B + b)) (U / a) (U % a) := by
  refine ⟨by rw [Nat.mul_comm]; exact (Nat.div_add_mod U a).symm, ?_⟩
  rw [Nat.le_div_iff_mul_le ha]
  have h := Nat.div_mul_le_self (U * B + u) (a * B + b)
  generalize (U * B + u) / (a * B + b) = Q at *
  have e : Q * (a * B + b) = Q * a * B + Q * b := by rw [Nat.mul_add, Nat.mul_assoc]
  rcases Nat.lt_or_ge U (Q * a) with g | g
  · have := Nat.mul_le_mul_right B g
    rw [Nat.succ_mul] at this
    omega
  · exact g
theorem dvk_first {a b B U : Nat} (ha : B ≤ 2 * a) (hb : b < B) (hU : U < a * B + b) : U / a ≤ B + 1 := by
  have a0 : 0 < a := by omega
  have : U / a < B + 2 := by
    rw [Nat.div_lt_iff_lt_mul a0, Nat.add_mul, Nat.mul_comm B a]
    omega
  omega
theorem dvk_down {a b B U u q rh : Nat} (hU : U < a * B + b) (hu : u < B) (h : DvInv a U ((U * B + u) / (a * B + b)) q rh) (hc : B ≤ q ∨ rh * B + u < q * b) : DvInv a U ((U * B + u) / (a * B + b)) (q - 1) (rh + a) ∧ 0 < q := by
  have Y0 : 0 < a * B + b := by omega
  have lt : (U * B + u) / (a * B + b) < q := by
    rcases hc with g | g
    · refine Nat.lt_of_lt_of_le ?_ g
      rw [Nat.div_lt_iff_lt_mul Y0, Nat.mul_comm B]
      have := Nat.mul_le_mul_right B (show U + 1 ≤ a * B + b by omega)
      rw [Nat.succ_mul] at this
      omega
    · rw [Nat.div_lt_iff_lt_mul Y0, h.1, Nat.mul_add, Nat.add_mul, Nat.mul_assoc]
      omega
  obtain ⟨e, _⟩ := h
  generalize (U * B + u) / (a * B + b) = Q at *
  obtain ⟨p, rfl⟩ : ∃ p, q = p + 1 := ⟨q - 1, by omega⟩
  refine ⟨⟨?_, by omega⟩, by omega⟩
  rw [e, Nat.add_sub_cancel, Nat.succ_mul]
  omega
theorem dvk_end {a b B U u q rh : Nat} (hY : 0 < a * B + b) (h : DvInv a U ((U * B + u) / (a * B + b)) q rh) (hc : q * b ≤ rh * B + u) : q = (U * B + u) / (a * B + b) := by
  refine Nat.le_antisymm ?_ h.2
  rw [Nat.le_div_iff_mul_le hY, h.1, Nat.mul_add, Nat.add_mul, Nat.mul_assoc]
  omega
theorem dvk_break {a b B U u q rh : Nat} (hY : 0 < a * B + b) (hb : b < B) (hq : q ≤ B) (hr : B ≤ rh) (h : DvInv a U ((U * B + u) / (a * B + b)) q rh) : q = (U * B + u) / (a * B + b) := by
  refine dvk_end hY h ?_
  have h1 := Nat.mul_le_mul hq (Nat.le_of_lt hb)
  have h2 := Nat.mul_le_mul_right B hr
  omega
theorem dv_drewn {B : Nat} {w W : World} (h : Below B w W) (n : Nat) : Below B w (W.drewN n) := ⟨h.os, h.tape, h.output, h.size, h.block⟩
set_option maxRecDepth 100000 in
set_option maxHeartbeats 8000000 in
theorem div64_none (lo Y : Nat) (w : World) (h2 : lo < 18446744073709551616) (hY : 0 < Y) (hY2 : Y < 18446744073709551616) : Calls Tryd.prog 47 #[.int .u64 0, .int .u64 lo, .int .u64 Y] w fun e w' => e = .returned (.tuple #[.int .u64 (lo / Y : Nat), .int .u64 (lo % Y : Nat)]) ∧ Below w.heap.size w w' := by
  have hz : ((Y : Int) == 0) = false := by rw [beq_eq_false_iff_ne]; omega
  have hz2 : decide ((Y : Int) ≤ 0) = false := decide_eq_false (by omega)
  have hn : ¬ Y = 0 := by omega
  have e1 : (lo : Int) / (Y : Int) = ((lo / Y : Nat) : Int) := rfl
  have e2 : (lo : Int) % (Y : Int) = ((lo % Y : Nat) : Int) := rfl
  have w1 := dv_wr (lo / Y) (by have := Nat.div_le_self lo Y; omega)
  have w2 := dv_wr (lo % Y) (by have := Nat.mod_le lo Y; omega)
  generalize lo / Y = q at *
  generalize lo % Y = r at *
  clear h2 hY2
  go_enter Tryd.func47, Tryd.ntmps47
  go_wp2
  go_quiet (fail)
  go_wp2
  go_ret2
  exact ⟨by show Ending.returned (.tuple #[.int .u64 (q : Int), .int .u64 ((lo : Int) % (Y : Int))]) = _; rw [e2], dv_drewn (Below.refl _ _) _⟩
set_option maxRecDepth 100000 in
set_option maxHeartbeats 8000000 in
theorem div64_norm (hi lo Y : Nat) (w : World) (h0 : 0 < hi) (h1 : hi < Y) (h2 : lo < 18446744073709551616) (hY : 9223372036854775808 ≤ Y) (hY2 : Y < 18446744073709551616) : Calls Tryd.prog 47 #[.int .u64 hi, .int .u64 lo, .int .u64 Y] w fun e w' => e = .returned (.tuple #[.int .u64 ((hi * 18446744073709551616 + lo) / Y : Nat), .int .u64 ((hi * 18446744073709551616 + lo) % Y : Nat)]) ∧ Below w.heap.size w w' := by
  have LZ := Lib.hid (show ∀ W : World, Calls Tryd.prog 72 #[.int .u64 Y] W fun e w' => e = .returned (.int .i64 0) ∧ w' = W from fun W => by
    have := Tryd.bits_LeadingZeros64 Y W (by omega) (by omega)
    rw [Int.toNat_natCast, dv_bit hY hY2] at this
    exact this)
  have H := Lib.hid (And.intro h2 (And.intro hY hY2))
  have hz : ((Y : Int) == 0) = false := by rw [beq_eq_false_iff_ne]; omega
  have hz2 : ((hi : Int) == 0) = false := by rw [beq_eq_false_iff_ne]; omega
  obtain ⟨A, hA⟩ : ∃ A, A = Y / 4294967296 := ⟨_, rfl⟩
  obtain ⟨B, hB⟩ : ∃ B, B = Y % 4294967296 := ⟨_, rfl⟩
  obtain ⟨u, hu⟩ : ∃ u, u = lo / 4294967296 := ⟨_, rfl⟩
  obtain ⟨v, hv⟩ : ∃ v, v = lo % 4294967296 := ⟨_, rfl⟩
  have wY : IntKind.u64.wrap (Y : Int) = (Y : Int) := by rw [IntKind.wrap_u64]; omega
  have wh : IntKind.u64.wrap (hi : Int) = (hi : Int) := by rw [IntKind.wrap_u64]; omega
  have wl : IntKind.u64.wrap (lo : Int) = (lo : Int) := by rw [IntKind.wrap_u64]; omega
  have e0 : (lo : Int) / 18446744073709551616 = 0 := by omega
  have eo := dv_or_zero hi (by omega)
  have ea := dv_and_mask Y hY2
  have ea2 := dv_and_mask lo h2
  rw [← hB] at ea
  rw [← hv] at ea2
  have eA : (Y : Int) / 4294967296 = (A : Int) := by omega
  have eB : (Y : Int) % 4294967296 = (B : Int) := by omega
  have eu : (lo : Int) / 4294967296 = (u : Int) := by omega
  have ev : (lo : Int) % 4294967296 = (v : Int) := by omega
  have A0 : 0 < A := by omega
  have E := Lib.hid (And.intro hA (And.intro hB (And.intro hu hv)))
  clear h2 hY hY2 hA hB hu hv
  obtain ⟨q0, hq0⟩ : ∃ q, q = hi / A := ⟨_, rfl⟩
  obtain ⟨r0, hr0⟩ : ∃ r, r = hi % A := ⟨_, rfl⟩
  obtain ⟨p0, hp0⟩ : ∃ p, p = q0 * A := ⟨_, rfl⟩
  obtain ⟨eq0, eq1, ep0, ep1, er0⟩ := dv_start hi A q0 r0 p0 (by have := H.out.2.2; omega) hq0 hr0 hp0
  have HY : Hid (Y = A * 4294967296 + B) := by have := E.out; unfold Hid; omega
  have HB : Hid (B < 4294967296 ∧ u < 4294967296 ∧ v < 4294967296 ∧ A < 4294967296 ∧ 4294967296 ≤ 2 * A) := by have := E.out; have := H.out; unfold Hid; omega
  obtain ⟨Q1, hQ1⟩ : ∃ Q, Q = (hi * 4294967296 + u) / (A * 4294967296 + B) := ⟨_, rfl⟩
  have HQ1 := Lib.hid hQ1
  have HU : Hid (hi < A * 4294967296 + B) := by have := HY.out; unfold Hid; omega
  have K0 : Hid (DvInv A hi Q1 q0 r0) := by rw [hQ1, hq0, hr0]; exact dvk_start (by omega) HB.out.2.1
  have q0b : q0 ≤ 4294967297 := by rw [hq0]; exact dvk_first HB.out.2.2.2.2 HB.out.1 HU.out
  have r0b : r0 < 4294967296 := by have := Nat.mod_lt hi A0; have := HB.out; omega
  clear hq0 hr0 hp0 hQ1
  go_enter Tryd.func47, Tryd.ntmps47
  go_upto_block 0 with (go_at_call 72; (with_reducible refine (LZ.out _).mono ?_); rintro e w' ⟨rfl, rfl⟩)
  go_cut [15, 16] (fun s15 _ wx => s15 = .int .u64 Q1 ∧ w' = wx)
  case first =>
    go_wp2_with fail
    go_loop [15, 16] (fun s15 s16 => ∃ q rh : Nat, s15 = .int .u64 q ∧ s16 = .int .u64 rh ∧ Hid (DvInv A hi Q1 q rh) ∧ rh < 4294967296 ∧ q ≤ 4294967297) (fun s15 _ => (intOf s15).toNat)
    case atStart => exact ⟨q0, r0, rfl, rfl, K0, r0b, q0b⟩
    case round =>
      obtain ⟨q, rh, rfl, rfl, HK, hr, hq⟩ := hrel
      clear K0 r0b q0b eq0 eq1 ep0 ep1 er0
      obtain ⟨p, t, M, N1, N, hp, ht, hM, hN, f1, f2, f3, f4, f5, f6, f7, f8, f9, f10⟩ := dv_round q rh A B u hq hr HB.out.2.2.2.1 HB.out.1 HB.out.2.1
      have PH := Lib.hid (And.intro hp ht)
      by_cases hc : 4294967296 ≤ q ∨ N < M
      · obtain ⟨KD, q1⟩ := dvk_down (b := B) (u := u) HU.out HB.out.2.1 (by rw [← HQ1.out]; exact HK.out) (by rw [← hM, ← hN]; exact hc)
        rw [← hp, ← ht, ← HQ1.out] at KD
        have KD := Lib.hid KD
        have pq : p < q := by omega
        have f9 := f9 q1
        have KE := Lib.hid (fun g : 4294967296 ≤ t => dvk_break (a := A) (b := B) (u := u) (q := p) (rh := t) (by have := HU.out; omega) HB.out.1 (by omega) g (by rw [← HQ1.out]; exact KD.out))
        clear hp ht hM hN
        by_cases h1 : 4294967296 ≤ q
        · have g1 : decide ((4294967296 : Int) ≤ (q : Int)) = true := decide_eq_true (by omega)
          have PB : Hid (p ≤ 4294967297 ∧ p < q) := ⟨by omega, pq⟩
          by_cases h2 : 4294967296 ≤ t
          · have KE2 := Lib.hid (KE.out h2)
            have g2 : decide ((4294967296 : Int) ≤ (t : Int)) = true := decide_eq_true (by omega)
            clear f4 f5 f6 f7 f8 hc h1 hq h2 pq q1 hr
            go_wp2
            go_meet
            exact ⟨by rw [KE2.out, ← HQ1.out], rfl⟩
          · have g2 : decide ((4294967296 : Int) ≤ (t : Int)) = false := decide_eq_false (by omega)
            have TB := Lib.hid h2
            clear f4 f5 f6 f7 f8 hc h1 hq h2 pq q1 hr
            go_wp2
            have := TB.out
            have := PB.out
            refine ⟨⟨p, t, rfl, rfl, KD, by omega, by omega⟩, by simp [intOf]; omega⟩
        · have f4 := f4 (by omega)
          have g1 : decide ((4294967296 : Int) ≤ (q : Int)) = false := decide_eq_false (by omega)
          have g3 : decide (N < M) = true := decide_eq_true (by omega)
          have PB : Hid (p ≤ 4294967297 ∧ p < q) := ⟨by omega, pq⟩
          by_cases h2 : 4294967296 ≤ t
          · have KE2 := Lib.hid (KE.out h2)
            have g2 : decide ((4294967296 : Int) ≤ (t : Int)) = true := decide_eq_true (by omega)
            clear hc h1 hq h2 pq q1 hr
            go_wp2
            go_meet
            exact ⟨by rw [KE2.out, ← HQ1.out], rfl⟩
          · have g2 : decide ((4294967296 : Int) ≤ (t : Int)) = false := decide_eq_false (by omega)
            have TB := Lib.hid h2
            clear hc h1 hq h2 pq q1 hr
            go_wp2
            have := TB.out
            have := PB.out
            refine ⟨⟨p, t, rfl, rfl, KD, by omega, by omega⟩, by simp [intOf]; omega⟩
      · have h1 : ¬ 4294967296 ≤ q := by omega
        have KE := Lib.hid (dvk_end (a := A) (b := B) (B := 4294967296) (u := u) (q := q) (rh := rh) (by have := HU.out; omega) (by rw [← HQ1.out]; exact HK.out) (by omega))
        have f4 := f4 (by omega)
        have g1 : decide ((4294967296 : Int) ≤ (q : Int)) = false := decide_eq_false (by omega)
        have g3 : decide (N < M) = false := decide_eq_false (by omega)
        clear hp ht hM hN hc h1 hq hr
        go_wp2
        go_meet
        exact ⟨by rw [KE.out, ← HQ1.out], rfl⟩
  case rest =>
    obtain ⟨rfl, rfl⟩ := hcut
    obtain ⟨R1, hR1⟩ : ∃ R, R = (hi * 4294967296 + u) % Y := ⟨_, rfl⟩
    have hQY : Q1 = (hi * 4294967296 + u) / Y := by rw [HY.out]; exact HQ1.out
    obtain ⟨X1, X2, X3, m1, m2, m3, m4⟩ := dv_mid hi u Q1 Y R1 hQY hR1 (by omega) H.out.2.2
    have R1Y : R1 < Y := by rw [hR1]; exact Nat.mod_lt _ (by omega)
    obtain ⟨q2, hq2⟩ : ∃ q, q = R1 / A := ⟨_, rfl⟩
    obtain ⟨r2, hr2⟩ : ∃ r, r = R1 % A := ⟨_, rfl⟩
    obtain ⟨p2, hp2⟩ : ∃ p, p = q2 * A := ⟨_, rfl⟩
    obtain ⟨fq0, fq1, fp0, fp1, fr0⟩ := dv_start R1 A q2 r2 p2 (by have := H.out.2.2; omega) hq2 hr2 hp2
    obtain ⟨Q0, hQ0⟩ : ∃ Q, Q = (R1 * 4294967296 + v) / (A * 4294967296 + B) := ⟨_, rfl⟩
    have HQ0 := Lib.hid hQ0
    have HU2 : Hid (R1 < A * 4294967296 + B) := by have := HY.out; unfold Hid; omega
    have K2 : Hid (DvInv A R1 Q0 q2 r2) := by rw [hQ0, hq2, hr2]; exact dvk_start (by omega) HB.out.2.2.1
    have q2b : q2 ≤ 4294967297 := by rw [hq2]; exact dvk_first HB.out.2.2.2.2 HB.out.1 HU2.out
    have r2b : r2 < 4294967296 := by have := Nat.mod_lt R1 A0; have := HB.out; omega
    have QQ := Lib.hid (And.intro hQY hR1)
    clear hq2 hr2 hp2 hQ0 hQY hR1 K0 q0b r0b eq0 eq1 ep0 ep1 er0
    go_upto_block 2 with fail

    go_cut [18, 16] (fun s18 _ wx => s18 = .int .u64 Q0 ∧ w' = wx)
    case first =>
      go_wp2_with fail
      go_loop [18, 16] (fun s18 s16 => ∃ q rh : Nat, s18 = .int .u64 q ∧ s16 = .int .u64 rh ∧ Hid (DvInv A R1 Q0 q rh) ∧ rh < 4294967296 ∧ q ≤ 4294967297) (fun s18 _ => (intOf s18).toNat)
      case atStart => exact ⟨q2, r2, rfl, rfl, K2, r2b, q2b⟩
      case round =>
        obtain ⟨q, rh, rfl, rfl, HK, hr, hq⟩ := hrel
        clear K2 r2b q2b fq0 fq1 fp0 fp1 fr0
        obtain ⟨p, t, M, N1, N, hp, ht, hM, hN, f1, f2, f3, f4, f5, f6, f7, f8, f9, f10⟩ := dv_round q rh A B v hq hr HB.out.2.2.2.1 HB.out.1 HB.out.2.2.1
        have PH := Lib.hid (And.intro hp ht)
        by_cases hc : 4294967296 ≤ q ∨ N < M
        · obtain ⟨KD, q1⟩ := dvk_down (b := B) (u := v) HU2.out HB.out.2.2.1 (by rw [← HQ0.out]; exact HK.out) (by rw [← hM, ← hN]; exact hc)
          rw [← hp, ← ht, ← HQ0.out] at KD
          have KD := Lib.hid KD
          have pq : p < q := by omega
          have f9 := f9 q1
          have KE := Lib.hid (fun g : 4294967296 ≤ t => dvk_break (a := A) (b := B) (u := v) (q := p) (rh := t) (by have := HU2.out; omega) HB.out.1 (by omega) g (by rw [← HQ0.out]; exact KD.out))
          clear hp ht hM hN
          by_cases h1 : 4294967296 ≤ q
          · have g1 : decide ((4294967296 : Int) ≤ (q : Int)) = true := decide_eq_true (by omega)
            have PB : Hid (p ≤ 4294967297 ∧ p < q) := ⟨by omega, pq⟩
            by_cases h2 : 4294967296 ≤ t
            · have KE2 := Lib.hid (KE.out h2)
              have g2 : decide ((4294967296 : Int) ≤ (t : Int)) = true := decide_eq_true (by omega)
              clear f4 f5 f6 f7 f8 hc h1 hq h2 pq q1 hr
              go_wp2
              go_meet
              exact ⟨by rw [KE2.out, ← HQ0.out], rfl⟩
            · have g2 : decide ((4294967296 : Int) ≤ (t : Int)) = false := decide_eq_false (by omega)
              have TB := Lib.hid h2
              clear f4 f5 f6 f7 f8 hc h1 hq h2 pq q1 hr
              go_wp2
              have := TB.out
              have := PB.out
              refine ⟨⟨p, t, rfl, rfl, KD, by omega, by omega⟩, by simp [intOf]; omega⟩
          · have f4 := f4 (by omega)
            have g1 : decide ((4294967296 : Int) ≤ (q : Int)) = false := decide_eq_false (by omega)
            have g3 : decide (N < M) = true := decide_eq_true (by omega)
            have PB : Hid (p ≤ 4294967297 ∧ p < q) := ⟨by omega, pq⟩
            by_cases h2 : 4294967296 ≤ t
            · have KE2 := Lib.hid (KE.out h2)
              have g2 : decide ((4294967296 : Int) ≤ (t : Int)) = true := decide_eq_true (by omega)
              clear hc h1 hq h2 pq q1 hr
              go_wp2
              go_meet
              exact ⟨by rw [KE2.out, ← HQ0.out], rfl⟩
            · have g2 : decide ((4294967296 : Int) ≤ (t : Int)) = false := decide_eq_false (by omega)
              have TB := Lib.hid h2
              clear hc h1 hq h2 pq q1 hr
              go_wp2
              have := TB.out
              have := PB.out
              refine ⟨⟨p, t, rfl, rfl, KD, by omega, by omega⟩, by simp [intOf]; omega⟩
        · have h1 : ¬ 4294967296 ≤ q := by omega
          have KE := Lib.hid (dvk_end (a := A) (b := B) (B := 4294967296) (u := v) (q := q) (rh := rh) (by have := HU2.out; omega) (by rw [← HQ0.out]; exact HK.out) (by omega))
          have f4 := f4 (by omega)
          have g1 : decide ((4294967296 : Int) ≤ (q : Int)) = false := decide_eq_false (by omega)
          have g3 : decide (N < M) = false := decide_eq_false (by omega)
          clear hp ht hM hN hc h1 hq hr
          go_wp2
          go_meet
          exact ⟨by rw [KE.out, ← HQ0.out], rfl⟩
    case rest =>
      obtain ⟨rfl, rfl⟩ := hcut
      obtain ⟨R0, hR0⟩ : ∃ R, R = (R1 * 4294967296 + v) % Y := ⟨_, rfl⟩
      have hQY : Q0 = (R1 * 4294967296 + v) / Y := by rw [HY.out]; exact HQ0.out
      obtain ⟨X4, X5, X6, n1, n2, n3, n4⟩ := dv_mid R1 v Q0 Y R0 hQY hR0 (by omega) H.out.2.2
      obtain ⟨T, D, t1, t2, t3, t4, t5, t6⟩ := dv_end hi u v Y Q1 R1 Q0 R0 h1 (by omega) H.out.2.2 HB.out.2.1 HB.out.2.2.1 QQ.out.1 QQ.out.2 hQY hR0
      have lo2 : u * 4294967296 + v = lo := by have := E.out; omega
      rw [lo2] at t5 t6
      have HT := Lib.hid (And.intro t5 t6)
      clear t5 t6 lo2 hQY hR0 K2 q2b r2b fq0 fq1 fp0 fp1 fr0 m1 m2 m3 m4
      go_wp2
      go_ret2
      exact ⟨by rw [← HT.out.1, ← HT.out.2] <;> rfl, Below.refl _ _⟩
/-- By a number whose highest bit is set. -/
theorem div64_any (hi lo Y : Nat) (w : World) (h1 : hi < Y) (h2 : lo < 18446744073709551616) (hY : 9223372036854775808 ≤ Y) (hY2 : Y < 18446744073709551616) : Calls Tryd.prog 47 #[.int .u64 hi, .int .u64 lo, .int .u64 Y] w fun e w' => e = .returned (.tuple #[.int .u64 ((hi * 18446744073709551616 + lo) / Y : Nat), .int .u64 ((hi * 18446744073709551616 + lo) % Y : Nat)]) ∧ Below w.heap.size w w' := by
  rcases Nat.eq_zero_or_pos hi with g | g
  · subst g
    rw [Nat.zero_mul, Nat.zero_add]
    exact div64_none lo Y w h2 (by omega) hY2
  · exact div64_norm hi lo Y w g h1 h2 hY hY2
end Go.Proofs.YtmdjpnjpnfkihaaDoor
namespace Go.Proofs.YtmdjpnjpnfkihaaDoor
open Go.RowKit Go.Lib

theorem dec_two {S q r : Nat} (hq : q = S / 10000000000000000000) (hr : r = S % 10000000000000000000) (h0 : 0 < q) : decDigits S = decDigits q ++ (List.replicate (19 - (decDigits r).length) 48 ++ decDigits r) := by
  have e : S = q * 10 ^ 19 + r := by rw [hq, hr]; omega
  have lr : r < 10 ^ 19 := by rw [hr]; omega
  rw [e, dec_split 19 q r h0 lr, (pad_dec 19 r (by decide) lr).2]
theorem cat_1 (a : List UInt8) : (ByteArray.mk #[45] ++ ⟨a.toArray⟩) = ⟨(45 :: a).toArray⟩ := cat_toArray [45] a
theorem cat_0 (a : List UInt8) : (ByteArray.mk #[] ++ ⟨a.toArray⟩) = ⟨a.toArray⟩ := cat_toArray [] a
theorem cat_4 (a b c : List UInt8) : (((ByteArray.mk #[45] ++ ⟨a.toArray⟩) ++ ⟨b.toArray⟩) ++ ⟨c.toArray⟩) = ⟨(45 :: (a ++ (b ++ c))).toArray⟩ := by
  rw [cat_1, cat_toArray, cat_toArray]; simp
theorem cat_3 (a b c : List UInt8) : (((ByteArray.mk #[] ++ ⟨a.toArray⟩) ++ ⟨b.toArray⟩) ++ ⟨c.toArray⟩) = ⟨(a ++ (b ++ c)).toArray⟩ := by
  rw [cat_0, cat_toArray, cat_toArray]; simp
theorem rep_48 : ∀ c, Lib.repeatL [48] c = List.replicate c 48
  | 0 => rfl
  | c + 1 => by rw [Lib.repeatL, rep_48 c, List.replicate_succ]; rfl
set_option maxRecDepth 100000 in
set_option maxHeartbeats 8000000 in
theorem wtext_any (a : Int) (w : World) (ha : R a) (htab : ∀ W, Below w.heap.size w W → Lib.TabIs Tryd.prog W "internal/strconv.uint64pow10" .u64 Lib.pow10Tab) : Calls Tryd.prog 13 #[Wv a] w fun e w' => e = .returned (.string ⟨(itoa a).toArray⟩) ∧ Below w.heap.size w w' := by
  have aR := R_iff a |>.1 ha
  obtain ⟨S, hS⟩ : ∃ S, S = a.natAbs := ⟨_, rfl⟩
  obtain ⟨q, hq⟩ : ∃ q, q = S / 10000000000000000000 := ⟨_, rfl⟩
  obtain ⟨r, hr⟩ : ∃ r, r = S % 10000000000000000000 := ⟨_, rfl⟩
  have SB : S ≤ 170141183460469231731687303715884105728 := by omega
  obtain ⟨H, hH⟩ : ∃ H, H = S / 18446744073709551616 := ⟨_, rfl⟩
  obtain ⟨L, hL⟩ : ∃ L, L = S % 18446744073709551616 := ⟨_, rfl⟩
  have eH : hi (ab a) = (H : Int) := by unfold hi ab; omega
  have eL : lo (ab a) = (L : Int) := by unfold lo ab; omega
  have DV : Hid (∀ W : World, Calls Tryd.prog 47 #[.int .u64 H, .int .u64 L, .int .u64 10000000000000000000] W fun e w' => e = .returned (.tuple #[.int .u64 q, .int .u64 r]) ∧ Below W.heap.size W w') := fun W => by
    have := div64_any H L 10000000000000000000 W (by omega) (by omega) (by decide) (by decide)
    rw [show H * 18446744073709551616 + L = S by omega, ← hq, ← hr] at this
    exact this
  have FQ := Lib.hid (fun W h => fu_any q (by omega) W (htab W h))
  have FR := Lib.hid (fun W h => fu_any r (by omega) W (htab W h))
  have SZ : Hid (∀ W : World, Calls Tryd.prog 46 #[Wv a] W fun e w' => e = .returned (.agg #[.int .u64 H, .int .u64 L]) ∧ Below W.heap.size W w') := fun W => by
    have := sizeOf_any a W ha
    unfold Sv at this
    rw [eH, eL] at this
    exact this
  have LR : (decDigits r).length ≤ 19 := (pad_dec 19 r (by decide) (by omega)).1
  have LQ : (decDigits q).length ≤ 20 := (pad_dec 20 q (by decide) (by omega)).1
  have LR0 := dec_pos r
  obtain ⟨c, hc⟩ : ∃ c, c = 19 - (decDigits r).length := ⟨_, rfl⟩
  have RP : Hid (∀ W : World, Calls Tryd.prog 49 #[.string ⟨#[48]⟩, .int .i64 c] W fun e w' => e = .returned (.string ⟨(List.replicate c 48).toArray⟩) ∧ Below W.heap.size W w') := fun W => by
    have := Tryd.strings_Repeat ⟨#[48]⟩ c W (by omega) (by show 1 * c ≤ _; omega)
    rw [show (ByteArray.mk #[48]).data.toList = [48] from rfl, rep_48] at this
    exact this
  have ec : (19 : Int) - ((decDigits r).length : Int) = (c : Int) := by omega
  have cb : c ≤ 18 := by omega
  have DS : Hid ((q = 0 → decDigits S = decDigits r) ∧ (0 < q → decDigits S = decDigits q ++ (List.replicate c 48 ++ decDigits r))) := by
    refine ⟨fun h => ?_, fun h => by rw [hc]; exact dec_two hq hr h⟩
    rw [show S = r by omega]
  have BW := fun W : World => below_any a W
  have HH := Lib.hid (And.intro hS (And.intro eH eL))
  cases g : ng a with
  | true =>
    rw [g] at BW
    have BW := Lib.hid BW
    have a0 : a < 0 := of_decide_eq_true g
    have IT : Hid (itoa a = 45 :: decDigits S) := by unfold itoa; rw [if_pos a0, hS]; exact Lib.hid rfl
    clear hS hq hr SB hH hL ha aR a0 g hc htab
    generalize decDigits q = Dq at *
    generalize decDigits r = Dr at *
    by_cases q0 : q = 0
    · subst q0
      have s1 : ¬ 9223372036854775807 < 1 + Dr.length := by omega
      go_enter Tryd.func13, Tryd.ntmps13
      go_wp2_with (first | (go_at_call 39; (with_reducible refine (BW.out _).mono ?_); rintro e w' ⟨rfl, rfl⟩) | (go_at_call 46; (with_reducible refine (SZ.out _).mono ?_); rintro e w2 ⟨rfl, hb2⟩; have q2 := hb2.size; (try simp at q2)) | (go_at_call 47; (with_reducible refine (DV.out _).mono ?_); rintro e w3 ⟨rfl, hb3⟩; have q3 := hb3.size; (try simp at q3)) | (go_at_call 48; (with_reducible refine (FR.out _ (by repeat (first | exact Below.refl _ _ | assumption | apply Below.drew | refine Below.setCell ?_ (by first | omega | (simp; done) | (simp; omega)) _ | refine Below.alloc ?_ (by first | omega | (simp; done) | (simp; omega)) _ | refine Below.trans ?_ (hb3.mono (by first | omega | (simp; done) | (simp; omega))) | refine Below.trans ?_ (hb2.mono (by first | omega | (simp; done) | (simp; omega)))))).mono ?_); rintro e w4 ⟨rfl, hb4⟩; have q4 := hb4.size; (try simp at q4)))
      go_ret
      refine ⟨by rw [IT.out, DS.out.1 (by first | trivial | rfl)]; exact congrArg (fun b => Ending.returned (.string b)) (cat_1 _), ?_⟩
      repeat (first | exact Below.refl _ _ | assumption | apply Below.drew | refine Below.setCell ?_ (by first | omega | (simp; done) | (simp; omega)) _ | refine Below.alloc ?_ (by first | omega | (simp; done) | (simp; omega)) _ | refine Below.trans ?_ (hb4.mono (by first | omega | (simp; done) | (simp; omega))) | refine Below.trans ?_ (hb3.mono (by first | omega | (simp; done) | (simp; omega))) | refine Below.trans ?_ (hb2.mono (by first | omega | (simp; done) | (simp; omega))))
    · have z1 : ((q : Int) == 0) = false := by rw [beq_eq_false_iff_ne]; omega
      have s1 : ¬ 9223372036854775807 < 1 + Dq.length := by omega
      have s2 : ¬ 9223372036854775807 < 1 + Dq.length + c := by omega
      have s3 : ¬ 9223372036854775807 < 1 + Dq.length + c + Dr.length := by omega
      have QP : Hid (0 < q) := by unfold Hid; omega
      clear q0
      go_enter Tryd.func13, Tryd.ntmps13
      go_wp2_with (first | (go_at_call 39; (with_reducible refine (BW.out _).mono ?_); rintro e w' ⟨rfl, rfl⟩) | (go_at_call 46; (with_reducible refine (SZ.out _).mono ?_); rintro e w2 ⟨rfl, hb2⟩; have q2 := hb2.size; (try simp at q2)) | (go_at_call 47; (with_reducible refine (DV.out _).mono ?_); rintro e w3 ⟨rfl, hb3⟩; have q3 := hb3.size; (try simp at q3)) | (go_at_call 48; (with_reducible refine (FR.out _ (by repeat (first | exact Below.refl _ _ | assumption | apply Below.drew | refine Below.setCell ?_ (by first | omega | (simp; done) | (simp; omega)) _ | refine Below.alloc ?_ (by first | omega | (simp; done) | (simp; omega)) _ | refine Below.trans ?_ (hb3.mono (by first | omega | (simp; done) | (simp; omega))) | refine Below.trans ?_ (hb2.mono (by first | omega | (simp; done) | (simp; omega)))))).mono ?_); rintro e w4 ⟨rfl, hb4⟩; have q4 := hb4.size; (try simp at q4)) | (go_at_call 48; (with_reducible refine (FQ.out _ (by repeat (first | exact Below.refl _ _ | assumption | apply Below.drew | refine Below.setCell ?_ (by first | omega | (simp; done) | (simp; omega)) _ | refine Below.alloc ?_ (by first | omega | (simp; done) | (simp; omega)) _ | refine Below.trans ?_ (hb4.mono (by first | omega | (simp; done) | (simp; omega))) | refine Below.trans ?_ (hb3.mono (by first | omega | (simp; done) | (simp; omega))) | refine Below.trans ?_ (hb2.mono (by first | omega | (simp; done) | (simp; omega)))))).mono ?_); rintro e w5 ⟨rfl, hb5⟩; have q5 := hb5.size; (try simp at q5)) | (go_at_call 49; (with_reducible refine (RP.out _).mono ?_); rintro e w6 ⟨rfl, hb6⟩; have q6 := hb6.size; (try simp at q6)))
      go_ret
      refine ⟨by rw [IT.out, DS.out.2 QP.out]; exact congrArg (fun b => Ending.returned (.string b)) (cat_4 _ _ _), ?_⟩
      repeat (first | exact Below.refl _ _ | assumption | apply Below.drew | refine Below.setCell ?_ (by first | omega | (simp; done) | (simp; omega)) _ | refine Below.alloc ?_ (by first | omega | (simp; done) | (simp; omega)) _ | refine Below.trans ?_ (hb6.mono (by first | omega | (simp; done) | (simp; omega))) | refine Below.trans ?_ (hb5.mono (by first | omega | (simp; done) | (simp; omega))) | refine Below.trans ?_ (hb4.mono (by first | omega | (simp; done) | (simp; omega))) | refine Below.trans ?_ (hb3.mono (by first | omega | (simp; done) | (simp; omega))) | refine Below.trans ?_ (hb2.mono (by first | omega | (simp; done) | (simp; omega))))
  | false =>
    rw [g] at BW
    have BW := Lib.hid BW
    have a0 : ¬ a < 0 := of_decide_eq_false g
    have IT : Hid (itoa a = decDigits S) := by unfold itoa; rw [if_neg a0, hS, show a.toNat = a.natAbs by omega]; exact Lib.hid rfl
    clear hS hq hr SB hH hL ha aR a0 g hc htab
    generalize decDigits q = Dq at *
    generalize decDigits r = Dr at *
    by_cases q0 : q = 0
    · subst q0
      have s1 : ¬ 9223372036854775807 < Dr.length := by omega
      go_enter Tryd.func13, Tryd.ntmps13
      go_wp2_with (first | (go_at_call 39; (with_reducible refine (BW.out _).mono ?_); rintro e w' ⟨rfl, rfl⟩) | (go_at_call 46; (with_reducible refine (SZ.out _).mono ?_); rintro e w2 ⟨rfl, hb2⟩; have q2 := hb2.size; (try simp at q2)) | (go_at_call 47; (with_reducible refine (DV.out _).mono ?_); rintro e w3 ⟨rfl, hb3⟩; have q3 := hb3.size; (try simp at q3)) | (go_at_call 48; (with_reducible refine (FR.out _ (by repeat (first | exact Below.refl _ _ | assumption | apply Below.drew | refine Below.setCell ?_ (by first | omega | (simp; done) | (simp; omega)) _ | refine Below.alloc ?_ (by first | omega | (simp; done) | (simp; omega)) _ | refine Below.trans ?_ (hb3.mono (by first | omega | (simp; done) | (simp; omega))) | refine Below.trans ?_ (hb2.mono (by first | omega | (simp; done) | (simp; omega)))))).mono ?_); rintro e w4 ⟨rfl, hb4⟩; have q4 := hb4.size; (try simp at q4)))
      go_ret
      refine ⟨by rw [IT.out, DS.out.1 (by first | trivial | rfl)]; exact congrArg (fun b => Ending.returned (.string b)) (cat_0 _), ?_⟩
      repeat (first | exact Below.refl _ _ | assumption | apply Below.drew | refine Below.setCell ?_ (by first | omega | (simp; done) | (simp; omega)) _ | refine Below.alloc ?_ (by first | omega | (simp; done) | (simp; omega)) _ | refine Below.trans ?_ (hb4.mono (by first | omega | (simp; done) | (simp; omega))) | refine Below.trans ?_ (hb3.mono (by first | omega | (simp; done) | (simp; omega))) | refine Below.trans ?_ (hb2.mono (by first | omega | (simp; done) | (simp; omega))))
    · have z1 : ((q : Int) == 0) = false := by rw [beq_eq_false_iff_ne]; omega
      have s1 : ¬ 9223372036854775807 < Dq.length := by omega
      have s2 : ¬ 9223372036854775807 < Dq.length + c := by omega
      have s3 : ¬ 9223372036854775807 < Dq.length + c + Dr.length := by omega
      have QP : Hid (0 < q) := by unfold Hid; omega
      clear q0
      go_enter Tryd.func13, Tryd.ntmps13
      go_wp2_with (first | (go_at_call 39; (with_reducible refine (BW.out _).mono ?_); rintro e w' ⟨rfl, rfl⟩) | (go_at_call 46; (with_reducible refine (SZ.out _).mono ?_); rintro e w2 ⟨rfl, hb2⟩; have q2 := hb2.size; (try simp at q2)) | (go_at_call 47; (with_reducible refine (DV.out _).mono ?_); rintro e w3 ⟨rfl, hb3⟩; have q3 := hb3.size; (try simp at q3)) | (go_at_call 48; (with_reducible refine (FR.out _ (by repeat (first | exact Below.refl _ _ | assumption | apply Below.drew | refine Below.setCell ?_ (by first | omega | (simp; done) | (simp; omega)) _ | refine Below.alloc ?_ (by first | omega | (simp; done) | (simp; omega)) _ | refine Below.trans ?_ (hb3.mono (by first | omega | (simp; done) | (simp; omega))) | refine Below.trans ?_ (hb2.mono (by first | omega | (simp; done) | (simp; omega)))))).mono ?_); rintro e w4 ⟨rfl, hb4⟩; have q4 := hb4.size; (try simp at q4)) | (go_at_call 48; (with_reducible refine (FQ.out _ (by repeat (first | exact Below.refl _ _ | assumption | apply Below.drew | refine Below.setCell ?_ (by first | omega | (simp; done) | (simp; omega)) _ | refine Below.alloc ?_ (by first | omega | (simp; done) | (simp; omega)) _ | refine Below.trans ?_ (hb4.mono (by first | omega | (simp; done) | (simp; omega))) | refine Below.trans ?_ (hb3.mono (by first | omega | (simp; done) | (simp; omega))) | refine Below.trans ?_ (hb2.mono (by first | omega | (simp; done) | (simp; omega)))))).mono ?_); rintro e w5 ⟨rfl, hb5⟩; have q5 := hb5.size; (try simp at q5)) | (go_at_call 49; (with_reducible refine (RP.out _).mono ?_); rintro e w6 ⟨rfl, hb6⟩; have q6 := hb6.size; (try simp at q6)))
      go_ret
      refine ⟨by rw [IT.out, DS.out.2 QP.out]; exact congrArg (fun b => Ending.returned (.string b)) (cat_3 _ _ _), ?_⟩
      repeat (first | exact Below.refl _ _ | assumption | apply Below.drew | refine Below.setCell ?_ (by first | omega | (simp; done) | (simp; omega)) _ | refine Below.alloc ?_ (by first | omega | (simp; done) | (simp; omega)) _ | refine Below.trans ?_ (hb6.mono (by first | omega | (simp; done) | (simp; omega))) | refine Below.trans ?_ (hb5.mono (by first | omega | (simp; done) | (simp; omega))) | refine Below.trans ?_ (hb4.mono (by first | omega | (simp; done) | (simp; omega))) | refine Below.trans ?_ (hb3.mono (by first | omega | (simp; done) | (simp; omega))) | refine Below.trans ?_ (hb2.mono (by first | omega | (simp; done) | (simp; omega))))
end Go.Proofs.YtmdjpnjpnfkihaaDoor
namespace Go.Proofs.YtmdjpnjpnfkihaaDoor
open Go.RowKit

theorem ileft_64 (x : Value) (z : Int) (w : World) (h : IsI w x z) (gz : z.natAbs < BIG) : Calls Tryd.prog 15 #[x, .int .i64 64] w (SomeI w (z * 2 ^ 64)) := ileft_any x z 64 w h gz (by decide)
theorem iright_64 (x : Value) (z : Int) (w : World) (h : IsI w x z) (gz : z.natAbs < BIG) : Calls Tryd.prog 67 #[x, .int .i64 64] w (SomeI w (z / 2 ^ 64)) := iright_any x z 64 w h gz (by decide)
set_option maxRecDepth 100000 in
set_option maxHeartbeats 8000000 in
/-- Int -/
theorem refint_any (a : Int) (w : World) (ha : R a) : Calls Tryd.prog 5 #[Wv a] w (SomeI w a) := by
  obtain ⟨l0, l1⟩ := lo_bd a
  obtain ⟨ln, hln⟩ := Int.eq_ofNat_of_zero_le l0
  have NC : Hid (∀ W : World, Calls Tryd.prog 37 #[.int .u64 (lo a)] W (SomeN W ln)) := fun W => by rw [hln]; exact nof_num ln W (by omega)
  have FC := Lib.hid (fun W : World => ifrom_any (hi a) W ha.1 ha.2)
  have G : Hid ((hi a).natAbs < BIG ∧ (hi a * 2 ^ 64).natAbs < BIG ∧ (ln : Int).natAbs < BIG) := by
    have := ha.1
    have := ha.2
    exact ⟨big_of (k := 64) (by omega) (by decide), big_of (k := 128) (by omega) (by decide), big_of (k := 64) (by omega) (by decide)⟩
  have E := Lib.hid (show hi a * 2 ^ 64 + (ln : Int) = a by have := hln; unfold hi lo at *; omega)
  clear ha l0 l1 hln
  go_enter Tryd.func5, Tryd.ntmps5
  go_wp2
  go_region_held3 (fun w' => w'.cell? ⟨w.heap.size, 0, none⟩ = some (.int .i64 (hi a)) ∧ w'.cell? ⟨w.heap.size, 1, none⟩ = some (.int .u64 (lo a))) (first | (simp [go_sem, *]; done) | (simp [go_sem, World.cell?_alloc_some, *]; done)) (first | (go_at_call 19; (with_reducible refine (FC.out _).mono ?_); rintro e w1 ⟨vf, rfl, hv, hb1⟩; have e10 : w1.cell? ⟨w.heap.size, 0, none⟩ = some (.int .i64 (hi a)) := cell_on hb1 (by first | (simp [go_sem, *]; done) | (simp [go_sem, World.cell?_alloc_some, *]; done) | fail); have e11 : w1.cell? ⟨w.heap.size, 1, none⟩ = some (.int .u64 (lo a)) := cell_on hb1 (by first | (simp [go_sem, *]; done) | (simp [go_sem, World.cell?_alloc_some, *]; done) | fail); have e12 : w1.cell? ⟨w.heap.size + 1, 0, none⟩ = some (.bool false) := cell_on hb1 (by first | (simp [go_sem, *]; done) | (simp [go_sem, World.cell?_alloc_some, *]; done) | fail); have e13 : w1.cell? ⟨w.heap.size + 1, 1, none⟩ = some (.slice none 0 0) := cell_on hb1 (by first | (simp [go_sem, *]; done) | (simp [go_sem, World.cell?_alloc_some, *]; done) | fail); have s10 : w.heap.size < w1.heap.size := World.block_lt_of_cell? _ _ e10; have t10 : w.heap.size < w1.heap.size + 1 := Nat.lt_succ_of_lt s10; have s12 : w.heap.size + 1 < w1.heap.size := World.block_lt_of_cell? _ _ e12; have t12 : w.heap.size + 1 < w1.heap.size + 1 := Nat.lt_succ_of_lt s12; have y12 : w1.frozen? ⟨w.heap.size + 1, 0, none⟩ = false := frozen_on hb1 (v := .bool false) (by first | (simp [go_sem, *]; done) | (simp [go_sem, World.cell?_alloc_some, *]; done) | fail) (by first | (simp [go_sem, *]; done) | (simp [go_sem, frozen?_alloc_cells, *]; done) | fail); have y13 : w1.frozen? ⟨w.heap.size + 1, 1, none⟩ = false := frozen_on hb1 (v := .slice none 0 0) (by first | (simp [go_sem, *]; done) | (simp [go_sem, World.cell?_alloc_some, *]; done) | fail) (by first | (simp [go_sem, *]; done) | (simp [go_sem, frozen?_alloc_cells, *]; done) | fail); have q1 := hb1.size; (try simp at q1); obtain ⟨bf, of, lf, cf, rfl, Hf⟩ := hv.open; clear hv) | (go_at_call 15; (with_reducible refine (ileft_64 _ (hi a) _ ((IsI.mk Hf.out.1 Hf.out.2.1).below (by repeat (first | exact Below.refl _ _ | assumption | apply Below.drew | refine Below.setCell ?_ (by first | omega | (simp; done) | (simp; omega)) _ | refine Below.alloc ?_ (by first | omega | (simp; done) | (simp; omega)) _))) G.out.1).mono ?_); rintro e w2 ⟨vl, rfl, hv, hb2⟩; have e20 : w2.cell? ⟨w.heap.size, 0, none⟩ = some (.int .i64 (hi a)) := cell_on hb2 (by first | (simp [go_sem, *]; done) | (simp [go_sem, World.cell?_alloc_some, *]; done) | fail); have e21 : w2.cell? ⟨w.heap.size, 1, none⟩ = some (.int .u64 (lo a)) := cell_on hb2 (by first | (simp [go_sem, *]; done) | (simp [go_sem, World.cell?_alloc_some, *]; done) | fail); have e22 : w2.cell? ⟨w.heap.size + 1, 0, none⟩ = some (.bool false) := cell_on hb2 (by first | (simp [go_sem, *]; done) | (simp [go_sem, World.cell?_alloc_some, *]; done) | fail); have e23 : w2.cell? ⟨w.heap.size + 1, 1, none⟩ = some (.slice none 0 0) := cell_on hb2 (by first | (simp [go_sem, *]; done) | (simp [go_sem, World.cell?_alloc_some, *]; done) | fail); have s20 : w.heap.size < w2.heap.size := World.block_lt_of_cell? _ _ e20; have t20 : w.heap.size < w2.heap.size + 1 := Nat.lt_succ_of_lt s20; have s22 : w.heap.size + 1 < w2.heap.size := World.block_lt_of_cell? _ _ e22; have t22 : w.heap.size + 1 < w2.heap.size + 1 := Nat.lt_succ_of_lt s22; have y22 : w2.frozen? ⟨w.heap.size + 1, 0, none⟩ = false := frozen_on hb2 (v := .bool false) (by first | (simp [go_sem, *]; done) | (simp [go_sem, World.cell?_alloc_some, *]; done) | fail) (by first | (simp [go_sem, *]; done) | (simp [go_sem, frozen?_alloc_cells, *]; done) | fail); have y23 : w2.frozen? ⟨w.heap.size + 1, 1, none⟩ = false := frozen_on hb2 (v := .slice none 0 0) (by first | (simp [go_sem, *]; done) | (simp [go_sem, World.cell?_alloc_some, *]; done) | fail) (by first | (simp [go_sem, *]; done) | (simp [go_sem, frozen?_alloc_cells, *]; done) | fail); have q2 := hb2.size; (try simp at q2); obtain ⟨bl, ol, ll, cl, rfl, Hl⟩ := hv.open; clear hv) | (go_at_call 37; (with_reducible refine (NC.out _).mono ?_); rintro e w3 ⟨vn, rfl, hn, hb3⟩; have e30 : w3.cell? ⟨w.heap.size, 0, none⟩ = some (.int .i64 (hi a)) := cell_on hb3 (by first | (simp [go_sem, *]; done) | (simp [go_sem, World.cell?_alloc_some, *]; done) | fail); have e31 : w3.cell? ⟨w.heap.size, 1, none⟩ = some (.int .u64 (lo a)) := cell_on hb3 (by first | (simp [go_sem, *]; done) | (simp [go_sem, World.cell?_alloc_some, *]; done) | fail); have e32 : w3.cell? ⟨w.heap.size + 1, 0, none⟩ = some (.bool false) := cell_on hb3 (by first | (simp [go_sem, *]; done) | (simp [go_sem, World.cell?_alloc_some, *]; done) | fail); have e33 : w3.cell? ⟨w.heap.size + 1, 1, none⟩ = some (.slice none 0 0) := cell_on hb3 (by first | (simp [go_sem, *]; done) | (simp [go_sem, World.cell?_alloc_some, *]; done) | fail); have s30 : w.heap.size < w3.heap.size := World.block_lt_of_cell? _ _ e30; have t30 : w.heap.size < w3.heap.size + 1 := Nat.lt_succ_of_lt s30; have s32 : w.heap.size + 1 < w3.heap.size := World.block_lt_of_cell? _ _ e32; have t32 : w.heap.size + 1 < w3.heap.size + 1 := Nat.lt_succ_of_lt s32; have y32 : w3.frozen? ⟨w.heap.size + 1, 0, none⟩ = false := frozen_on hb3 (v := .bool false) (by first | (simp [go_sem, *]; done) | (simp [go_sem, World.cell?_alloc_some, *]; done) | fail) (by first | (simp [go_sem, *]; done) | (simp [go_sem, frozen?_alloc_cells, *]; done) | fail); have y33 : w3.frozen? ⟨w.heap.size + 1, 1, none⟩ = false := frozen_on hb3 (v := .slice none 0 0) (by first | (simp [go_sem, *]; done) | (simp [go_sem, World.cell?_alloc_some, *]; done) | fail) (by first | (simp [go_sem, *]; done) | (simp [go_sem, frozen?_alloc_cells, *]; done) | fail); have q3 := hb3.size; (try simp at q3)) | (go_at_call 36; (with_reducible refine (made_as false _ ln (ln : Int) _ (hn.below (by repeat (first | exact Below.refl _ _ | assumption | apply Below.drew | refine Below.setCell ?_ (by first | omega | (simp; done) | (simp; omega)) _ | refine Below.alloc ?_ (by first | omega | (simp; done) | (simp; omega)) _))) (if_neg (by decide)).symm).mono ?_); rintro e w4 ⟨vm, rfl, hv, hb4⟩; have e40 : w4.cell? ⟨w.heap.size, 0, none⟩ = some (.int .i64 (hi a)) := cell_on hb4 (by first | (simp [go_sem, *]; done) | (simp [go_sem, World.cell?_alloc_some, *]; done) | fail); have e41 : w4.cell? ⟨w.heap.size, 1, none⟩ = some (.int .u64 (lo a)) := cell_on hb4 (by first | (simp [go_sem, *]; done) | (simp [go_sem, World.cell?_alloc_some, *]; done) | fail); have e42 : w4.cell? ⟨w.heap.size + 1, 0, none⟩ = some (.bool false) := cell_on hb4 (by first | (simp [go_sem, *]; done) | (simp [go_sem, World.cell?_alloc_some, *]; done) | fail); have e43 : w4.cell? ⟨w.heap.size + 1, 1, none⟩ = some (.slice none 0 0) := cell_on hb4 (by first | (simp [go_sem, *]; done) | (simp [go_sem, World.cell?_alloc_some, *]; done) | fail); have s40 : w.heap.size < w4.heap.size := World.block_lt_of_cell? _ _ e40; have t40 : w.heap.size < w4.heap.size + 1 := Nat.lt_succ_of_lt s40; have s42 : w.heap.size + 1 < w4.heap.size := World.block_lt_of_cell? _ _ e42; have t42 : w.heap.size + 1 < w4.heap.size + 1 := Nat.lt_succ_of_lt s42; have y42 : w4.frozen? ⟨w.heap.size + 1, 0, none⟩ = false := frozen_on hb4 (v := .bool false) (by first | (simp [go_sem, *]; done) | (simp [go_sem, World.cell?_alloc_some, *]; done) | fail) (by first | (simp [go_sem, *]; done) | (simp [go_sem, frozen?_alloc_cells, *]; done) | fail); have y43 : w4.frozen? ⟨w.heap.size + 1, 1, none⟩ = false := frozen_on hb4 (v := .slice none 0 0) (by first | (simp [go_sem, *]; done) | (simp [go_sem, World.cell?_alloc_some, *]; done) | fail) (by first | (simp [go_sem, *]; done) | (simp [go_sem, frozen?_alloc_cells, *]; done) | fail); have q4 := hb4.size; (try simp at q4); obtain ⟨bm, om, lm, cm, rfl, Hm⟩ := hv.open; clear hv) | (go_at_call 10; (with_reducible refine (iplus_any _ _ (hi a * 2 ^ 64) (ln : Int) _ ((IsI.mk Hl.out.1 Hl.out.2.1).below (by repeat (first | exact Below.refl _ _ | assumption | apply Below.drew | refine Below.setCell ?_ (by first | omega | (simp; done) | (simp; omega)) _ | refine Below.alloc ?_ (by first | omega | (simp; done) | (simp; omega)) _ | refine Below.trans ?_ (hb4.mono (by first | omega | (simp; done) | (simp; omega))) | refine Below.trans ?_ (hb3.mono (by first | omega | (simp; done) | (simp; omega)))))) ((IsI.mk Hm.out.1 Hm.out.2.1).below (by repeat (first | exact Below.refl _ _ | assumption | apply Below.drew | refine Below.setCell ?_ (by first | omega | (simp; done) | (simp; omega)) _ | refine Below.alloc ?_ (by first | omega | (simp; done) | (simp; omega)) _))) G.out.2.1 G.out.2.2).mono ?_); rintro e w5 ⟨vv, rfl, hv, hb5⟩; have e50 : w5.cell? ⟨w.heap.size, 0, none⟩ = some (.int .i64 (hi a)) := cell_on hb5 (by first | (simp [go_sem, *]; done) | (simp [go_sem, World.cell?_alloc_some, *]; done) | fail); have e51 : w5.cell? ⟨w.heap.size, 1, none⟩ = some (.int .u64 (lo a)) := cell_on hb5 (by first | (simp [go_sem, *]; done) | (simp [go_sem, World.cell?_alloc_some, *]; done) | fail); have e52 : w5.cell? ⟨w.heap.size + 1, 0, none⟩ = some (.bool false) := cell_on hb5 (by first | (simp [go_sem, *]; done) | (simp [go_sem, World.cell?_alloc_some, *]; done) | fail); have e53 : w5.cell? ⟨w.heap.size + 1, 1, none⟩ = some (.slice none 0 0) := cell_on hb5 (by first | (simp [go_sem, *]; done) | (simp [go_sem, World.cell?_alloc_some, *]; done) | fail); have s50 : w.heap.size < w5.heap.size := World.block_lt_of_cell? _ _ e50; have t50 : w.heap.size < w5.heap.size + 1 := Nat.lt_succ_of_lt s50; have s52 : w.heap.size + 1 < w5.heap.size := World.block_lt_of_cell? _ _ e52; have t52 : w.heap.size + 1 < w5.heap.size + 1 := Nat.lt_succ_of_lt s52; have y52 : w5.frozen? ⟨w.heap.size + 1, 0, none⟩ = false := frozen_on hb5 (v := .bool false) (by first | (simp [go_sem, *]; done) | (simp [go_sem, World.cell?_alloc_some, *]; done) | fail) (by first | (simp [go_sem, *]; done) | (simp [go_sem, frozen?_alloc_cells, *]; done) | fail); have y53 : w5.frozen? ⟨w.heap.size + 1, 1, none⟩ = false := frozen_on hb5 (v := .slice none 0 0) (by first | (simp [go_sem, *]; done) | (simp [go_sem, World.cell?_alloc_some, *]; done) | fail) (by first | (simp [go_sem, *]; done) | (simp [go_sem, frozen?_alloc_cells, *]; done) | fail); have q5 := hb5.size; (try simp at q5); obtain ⟨bv, ov, lv, cv, rfl, Hv⟩ := hv.open; clear hv))
  all_goals
    go_wp2_with fail
    refine bodyPost_ret (v := Iv bv (.slice ov lv cv)) (by simp [results, Tryd.results5, go_sem, *]) rfl ⟨_, rfl, by rw [← E.out]; exact (IsI.mk Hv.out.1 Hv.out.2.1).put e52 (by simp) e53 (by simp), ?_⟩
    repeat (first | exact Below.refl _ _ | assumption | apply Below.drew | refine Below.setCell ?_ (by first | omega | (simp; done) | (simp; omega)) _ | refine Below.alloc ?_ (by first | omega | (simp; done) | (simp; omega)) _ | refine Below.trans ?_ (hb5.mono (by first | omega | (simp; done) | (simp; omega))) | refine Below.trans ?_ (hb4.mono (by first | omega | (simp; done) | (simp; omega))) | refine Below.trans ?_ (hb3.mono (by first | omega | (simp; done) | (simp; omega))) | refine Below.trans ?_ (hb2.mono (by first | omega | (simp; done) | (simp; omega))) | refine Below.trans ?_ (hb1.mono (by first | omega | (simp; done) | (simp; omega))))
end Go.Proofs.YtmdjpnjpnfkihaaDoor
