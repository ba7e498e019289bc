/-
  The references' whole numbers with a sign: halved, divided.
  The references' whole numbers with a sign: divided, rounded down.
  Texts of whole numbers: the references' and package wide's.
  fx.Text: a word's decimal.
  Rounded quotients of words: half of the divisor away at most.
  FxOrder's loop.
-/
import Derived.Lib.ItoaNum
import Derived.Test.YtmdjpnjpnfkihaaDoorM02
import Derived.Test.YtmdjpnjpnfkihaaDoorM03
import Derived.Test.YtmdjpnjpnfkihaaDoorM05
import Derived.Test.YtmdjpnjpnfkihaaDoorM06
namespace Go.Proofs.YtmdjpnjpnfkihaaDoor
open Go.RowKit

theorem right_pos {z : Int} (h : 0 ≤ z) (n : Nat) : z / 2 ^ n = if false = true then -((z.natAbs / 2 ^ n : Nat) : Int) else ((z.natAbs / 2 ^ n : Nat) : Int) := by
  rw [if_neg (by decide), Int.natCast_ediv, Int.natAbs_of_nonneg h]
  simp
theorem right_even {z : Int} {n m : Nat} (h : z < 0) (_hm : m = z.natAbs / 2 ^ n) (he : m * 2 ^ n = z.natAbs) : z / 2 ^ n = -(m : Int) := by
  have p : (0 : Int) < 2 ^ n := Int.pow_pos (by decide)
  have e : z = -(m : Int) * 2 ^ n := by
    have : ((m * 2 ^ n : Nat) : Int) = z.natAbs := by rw [he]
    rw [Int.natCast_mul, Int.natCast_pow] at this
    rw [Int.neg_mul]
    have e2 : ((2 : Nat) : Int) = 2 := rfl
    rw [e2] at this
    omega
  rw [e, Int.mul_ediv_cancel _ (by omega)]
theorem right_odd {z : Int} {n m : Nat} (h : z < 0) (hm : m = z.natAbs / 2 ^ n) (he : m * 2 ^ n ≠ z.natAbs) : z / 2 ^ n = -((m + 1 : Nat) : Int) := by
  have p : (0 : Nat) < 2 ^ n := Nat.two_pow_pos n
  have d := Nat.div_add_mod z.natAbs (2 ^ n)
  have l := Nat.mod_lt z.natAbs p
  rw [← hm] at d
  have r0 : z.natAbs % 2 ^ n ≠ 0 := by intro e; rw [e, Nat.mul_comm] at d; exact he (by omega)
  have hP : (((2 : Nat) ^ n : Nat) : Int) = (2 : Int) ^ n := by simp
  rw [← hP]
  generalize z.natAbs % 2 ^ n = r at *
  generalize (2 : Nat) ^ n = P at *
  have e : z = ((P : Int) - r) + (P : Int) * (-((m : Int) + 1)) := by
    have h1 : ((P * m + r : Nat) : Int) = z.natAbs := by rw [d]
    rw [Int.natCast_add, Int.natCast_mul] at h1
    rw [Int.mul_neg, Int.mul_add, Int.mul_one]
    generalize (P : Int) * (m : Int) = A at *
    omega
  rw [e, Int.add_mul_ediv_left _ _ (by omega), Int.ediv_eq_zero_of_lt (by omega) (by omega)]
  omega

theorem nof_1 (w : World) : Calls Tryd.prog 37 #[.int .u64 1] w (SomeN w 1) := nof_num 1 w (by decide)
set_option maxRecDepth 100000 in
set_option maxHeartbeats 8000000 in
/-- Right -/
theorem iright_any (x : Value) (z : Int) (n : Nat) (w : World) (h : IsI w x z) (gz : z.natAbs < BIG) (hn : n ≤ 1048576) : Calls Tryd.prog 67 #[x, .int .i64 n] w (SomeI w (z / 2 ^ n)) := by
  obtain ⟨ba, oa, la, ca, rfl, Ha⟩ := h.open
  have G := Lib.hid (And.intro gz hn)
  have DC := Lib.hid (fun W h => down2_any (.slice oa la ca) z.natAbs n W h gz (by omega))
  clear gz hn h
  cases ba with
  | false =>
    have zp : Hid (0 ≤ z) := by have := Ha.out.1; simp at this; exact this
    go_enter Tryd.func67, Tryd.ntmps67
    go_wp2_with (first | (go_at_call 91; (with_reducible refine (DC.out _ (Ha.out.2.1.below (by repeat (first | exact Below.refl _ _ | assumption | apply Below.drew | refine Below.setCell ?_ (by first | omega | (simp; done) | (simp; omega)) _ | refine Below.alloc ?_ (by first | omega | (simp; done) | (simp; omega)) _)))).mono ?_); rintro e w1 ⟨vm, rfl, hnm, hb1⟩; have e10 : w1.cell? ⟨w.heap.size, 0, none⟩ = some (.bool false) := cell_on hb1 (by first | (simp [go_sem, *]; done) | (simp [go_sem, World.cell?_alloc_some, *]; done) | fail); have e11 : w1.cell? ⟨w.heap.size, 1, none⟩ = some (Value.slice oa la ca) := cell_on hb1 (by first | (simp [go_sem, *]; done) | (simp [go_sem, World.cell?_alloc_some, *]; done) | fail); have e12 : w1.cell? ⟨w.heap.size + 1, 0, none⟩ = some (.bool false) := cell_on hb1 (by first | (simp [go_sem, *]; done) | (simp [go_sem, World.cell?_alloc_some, *]; done) | fail); have e13 : w1.cell? ⟨w.heap.size + 1, 1, none⟩ = some (.slice none 0 0) := cell_on hb1 (by first | (simp [go_sem, *]; done) | (simp [go_sem, World.cell?_alloc_some, *]; done) | fail); have s10 : w.heap.size < w1.heap.size := World.block_lt_of_cell? _ _ e10; have t10 : w.heap.size < w1.heap.size + 1 := Nat.lt_succ_of_lt s10; have s12 : w.heap.size + 1 < w1.heap.size := World.block_lt_of_cell? _ _ e12; have t12 : w.heap.size + 1 < w1.heap.size + 1 := Nat.lt_succ_of_lt s12; have y12 : w1.frozen? ⟨w.heap.size + 1, 0, none⟩ = false := frozen_on hb1 (v := .bool false) (by first | (simp [go_sem, *]; done) | (simp [go_sem, World.cell?_alloc_some, *]; done) | fail) (by first | (simp [go_sem, *]; done) | (simp [go_sem, frozen?_alloc_cells, *]; done) | fail); have y13 : w1.frozen? ⟨w.heap.size + 1, 1, none⟩ = false := frozen_on hb1 (v := .slice none 0 0) (by first | (simp [go_sem, *]; done) | (simp [go_sem, World.cell?_alloc_some, *]; done) | fail) (by first | (simp [go_sem, *]; done) | (simp [go_sem, frozen?_alloc_cells, *]; done) | fail); have q1 := hb1.size; (try simp at q1); have Nm := Lib.hid hnm; clear hnm) | (go_at_call 36; (with_reducible refine (made_as _ _ (z.natAbs / 2 ^ n) (z / 2 ^ n) _ Nm.out (right_pos zp.out n)).mono ?_); rintro e w2 ⟨v, rfl, hv, hb2⟩; have e20 : w2.cell? ⟨w.heap.size, 0, none⟩ = some (.bool false) := cell_on hb2 (by first | (simp [go_sem, *]; done) | (simp [go_sem, World.cell?_alloc_some, *]; done) | fail); have e21 : w2.cell? ⟨w.heap.size, 1, none⟩ = some (Value.slice oa la ca) := cell_on hb2 (by first | (simp [go_sem, *]; done) | (simp [go_sem, World.cell?_alloc_some, *]; done) | fail); have e22 : w2.cell? ⟨w.heap.size + 1, 0, none⟩ = some (.bool false) := cell_on hb2 (by first | (simp [go_sem, *]; done) | (simp [go_sem, World.cell?_alloc_some, *]; done) | fail); have e23 : w2.cell? ⟨w.heap.size + 1, 1, none⟩ = some (.slice none 0 0) := cell_on hb2 (by first | (simp [go_sem, *]; done) | (simp [go_sem, World.cell?_alloc_some, *]; done) | fail); have s20 : w.heap.size < w2.heap.size := World.block_lt_of_cell? _ _ e20; have t20 : w.heap.size < w2.heap.size + 1 := Nat.lt_succ_of_lt s20; have s22 : w.heap.size + 1 < w2.heap.size := World.block_lt_of_cell? _ _ e22; have t22 : w.heap.size + 1 < w2.heap.size + 1 := Nat.lt_succ_of_lt s22; have y22 : w2.frozen? ⟨w.heap.size + 1, 0, none⟩ = false := frozen_on hb2 (v := .bool false) (by first | (simp [go_sem, *]; done) | (simp [go_sem, World.cell?_alloc_some, *]; done) | fail) (by first | (simp [go_sem, *]; done) | (simp [go_sem, frozen?_alloc_cells, *]; done) | fail); have y23 : w2.frozen? ⟨w.heap.size + 1, 1, none⟩ = false := frozen_on hb2 (v := .slice none 0 0) (by first | (simp [go_sem, *]; done) | (simp [go_sem, World.cell?_alloc_some, *]; done) | fail) (by first | (simp [go_sem, *]; done) | (simp [go_sem, frozen?_alloc_cells, *]; done) | fail); have q2 := hb2.size; (try simp at q2); obtain ⟨bv, ov, lv, cv, rfl, Hv⟩ := hv.open; clear hv) | fail)
    first | (go_region_with fail) | fail
    all_goals
      go_wp2_with (first | (go_at_call 36; (with_reducible refine (made_as _ _ (z.natAbs / 2 ^ n) (z / 2 ^ n) _ (Nm.out.below (by repeat (first | exact Below.refl _ _ | assumption | apply Below.drew | refine Below.setCell ?_ (by first | omega | (simp; done) | (simp; omega)) _ | refine Below.alloc ?_ (by first | omega | (simp; done) | (simp; omega)) _))) (right_pos zp.out n)).mono ?_); rintro e w2 ⟨v, rfl, hv, hb2⟩; have e20 : w2.cell? ⟨w.heap.size, 0, none⟩ = some (.bool false) := cell_on hb2 (by first | (simp [go_sem, *]; done) | (simp [go_sem, World.cell?_alloc_some, *]; done) | fail); have e21 : w2.cell? ⟨w.heap.size, 1, none⟩ = some (Value.slice oa la ca) := cell_on hb2 (by first | (simp [go_sem, *]; done) | (simp [go_sem, World.cell?_alloc_some, *]; done) | fail); have e22 : w2.cell? ⟨w.heap.size + 1, 0, none⟩ = some (.bool false) := cell_on hb2 (by first | (simp [go_sem, *]; done) | (simp [go_sem, World.cell?_alloc_some, *]; done) | fail); have e23 : w2.cell? ⟨w.heap.size + 1, 1, none⟩ = some (.slice none 0 0) := cell_on hb2 (by first | (simp [go_sem, *]; done) | (simp [go_sem, World.cell?_alloc_some, *]; done) | fail); have s20 : w.heap.size < w2.heap.size := World.block_lt_of_cell? _ _ e20; have t20 : w.heap.size < w2.heap.size + 1 := Nat.lt_succ_of_lt s20; have s22 : w.heap.size + 1 < w2.heap.size := World.block_lt_of_cell? _ _ e22; have t22 : w.heap.size + 1 < w2.heap.size + 1 := Nat.lt_succ_of_lt s22; have y22 : w2.frozen? ⟨w.heap.size + 1, 0, none⟩ = false := frozen_on hb2 (v := .bool false) (by first | (simp [go_sem, *]; done) | (simp [go_sem, World.cell?_alloc_some, *]; done) | fail) (by first | (simp [go_sem, *]; done) | (simp [go_sem, frozen?_alloc_cells, *]; done) | fail); have y23 : w2.frozen? ⟨w.heap.size + 1, 1, none⟩ = false := frozen_on hb2 (v := .slice none 0 0) (by first | (simp [go_sem, *]; done) | (simp [go_sem, World.cell?_alloc_some, *]; done) | fail) (by first | (simp [go_sem, *]; done) | (simp [go_sem, frozen?_alloc_cells, *]; done) | fail); have q2 := hb2.size; (try simp at q2); obtain ⟨bv, ov, lv, cv, rfl, Hv⟩ := hv.open; clear hv) | fail)
      refine bodyPost_ret (v := Iv bv (.slice ov lv cv)) (by simp [results, Tryd.results67, go_sem, *]) rfl ⟨_, rfl, (IsI.mk Hv.out.1 Hv.out.2.1).put e22 (by simp) e23 (by simp), ?_⟩
      repeat (first | exact Below.refl _ _ | assumption | apply Below.drew | refine Below.setCell ?_ (by first | omega | (simp; done) | (simp; omega)) _ | refine Below.alloc ?_ (by first | omega | (simp; done) | (simp; omega)) _ | refine Below.trans ?_ (hb2.mono (by first | omega | (simp; done) | (simp; omega))) | refine Below.trans ?_ (hb1.mono (by first | omega | (simp; done) | (simp; omega))))
  | true =>
    have zn : Hid (z < 0) := by have := Ha.out.1; simp at this; exact this
    obtain ⟨m, hm⟩ : ∃ m, m = z.natAbs / 2 ^ n := ⟨_, rfl⟩
    rw [← hm] at DC
    have mle : m ≤ z.natAbs := by rw [hm]; exact Nat.div_le_self _ _
    have mul : m * 2 ^ n ≤ z.natAbs := by rw [hm]; exact Nat.div_mul_le_self _ _
    have GM : Hid (m < BIG ∧ m * 2 ^ n < BIG ∧ m + 1 ≤ BIG) := ⟨Nat.lt_of_le_of_lt mle G.out.1, Nat.lt_of_le_of_lt mul G.out.1, Nat.lt_of_le_of_lt mle G.out.1⟩
    by_cases he : m * 2 ^ n = z.natAbs
    · have RV := Lib.hid (right_even zn.out hm he)
      have CE := Lib.hid he
      have CM : Hid (∀ (W : World) (u : Value), IsN W u (m * 2 ^ n) → IsN W (.slice oa la ca) z.natAbs → Calls Tryd.prog 44 #[u, .slice oa la ca] W fun e w' => e = .returned (.int .i64 (0)) ∧ Below W.heap.size W w') := fun W u h1 h2 => by
        have h := ncmp_any _ _ _ _ W h1 h2 GM.out.2.1 G.out.1
        rw [show sg ((m * 2 ^ n : Nat) : Int) (z.natAbs : Nat) = 0 from by rw [CE.out]; exact sg_eq _] at h
        exact h
      clear he mle mul hm
      go_enter Tryd.func67, Tryd.ntmps67
      go_wp2_with (first | (go_at_call 91; (with_reducible refine (DC.out _ (Ha.out.2.1.below (by repeat (first | exact Below.refl _ _ | assumption | apply Below.drew | refine Below.setCell ?_ (by first | omega | (simp; done) | (simp; omega)) _ | refine Below.alloc ?_ (by first | omega | (simp; done) | (simp; omega)) _)))).mono ?_); rintro e w1 ⟨vm, rfl, hnm, hb1⟩; have e10 : w1.cell? ⟨w.heap.size, 0, none⟩ = some (.bool true) := cell_on hb1 (by first | (simp [go_sem, *]; done) | (simp [go_sem, World.cell?_alloc_some, *]; done) | fail); have e11 : w1.cell? ⟨w.heap.size, 1, none⟩ = some (Value.slice oa la ca) := cell_on hb1 (by first | (simp [go_sem, *]; done) | (simp [go_sem, World.cell?_alloc_some, *]; done) | fail); have e12 : w1.cell? ⟨w.heap.size + 1, 0, none⟩ = some (.bool false) := cell_on hb1 (by first | (simp [go_sem, *]; done) | (simp [go_sem, World.cell?_alloc_some, *]; done) | fail); have e13 : w1.cell? ⟨w.heap.size + 1, 1, none⟩ = some (.slice none 0 0) := cell_on hb1 (by first | (simp [go_sem, *]; done) | (simp [go_sem, World.cell?_alloc_some, *]; done) | fail); have s10 : w.heap.size < w1.heap.size := World.block_lt_of_cell? _ _ e10; have t10 : w.heap.size < w1.heap.size + 1 := Nat.lt_succ_of_lt s10; have s12 : w.heap.size + 1 < w1.heap.size := World.block_lt_of_cell? _ _ e12; have t12 : w.heap.size + 1 < w1.heap.size + 1 := Nat.lt_succ_of_lt s12; have y12 : w1.frozen? ⟨w.heap.size + 1, 0, none⟩ = false := frozen_on hb1 (v := .bool false) (by first | (simp [go_sem, *]; done) | (simp [go_sem, World.cell?_alloc_some, *]; done) | fail) (by first | (simp [go_sem, *]; done) | (simp [go_sem, frozen?_alloc_cells, *]; done) | fail); have y13 : w1.frozen? ⟨w.heap.size + 1, 1, none⟩ = false := frozen_on hb1 (v := .slice none 0 0) (by first | (simp [go_sem, *]; done) | (simp [go_sem, World.cell?_alloc_some, *]; done) | fail) (by first | (simp [go_sem, *]; done) | (simp [go_sem, frozen?_alloc_cells, *]; done) | fail); have q1 := hb1.size; (try simp at q1); have Nm := Lib.hid hnm; clear hnm) | fail)
      go_region_held3 (fun w' => w'.cell? ⟨w.heap.size, 0, none⟩ = some (.bool true) ∧ w'.cell? ⟨w.heap.size, 1, none⟩ = some (Value.slice oa la ca)) (first | (simp [go_sem, *]; done) | (simp [go_sem, World.cell?_alloc_some, *]; done)) (first | (go_at_call 51; (with_reducible refine (up2_any _ m n _ (Nm.out.below (by repeat (first | exact Below.refl _ _ | assumption | apply Below.drew | refine Below.setCell ?_ (by first | omega | (simp; done) | (simp; omega)) _ | refine Below.alloc ?_ (by first | omega | (simp; done) | (simp; omega)) _))) GM.out.1 G.out.2).mono ?_); rintro e w3 ⟨vu, rfl, hnu, hb3⟩; have e30 : w3.cell? ⟨w.heap.size, 0, none⟩ = some (.bool true) := cell_on hb3 (by first | (simp [go_sem, *]; done) | (simp [go_sem, World.cell?_alloc_some, *]; done) | fail); have e31 : w3.cell? ⟨w.heap.size, 1, none⟩ = some (Value.slice oa la ca) := cell_on hb3 (by first | (simp [go_sem, *]; done) | (simp [go_sem, World.cell?_alloc_some, *]; done) | fail); have e32 : w3.cell? ⟨w.heap.size + 1, 0, none⟩ = some (.bool false) := cell_on hb3 (by first | (simp [go_sem, *]; done) | (simp [go_sem, World.cell?_alloc_some, *]; done) | fail); have e33 : w3.cell? ⟨w.heap.size + 1, 1, none⟩ = some (.slice none 0 0) := cell_on hb3 (by first | (simp [go_sem, *]; done) | (simp [go_sem, World.cell?_alloc_some, *]; done) | fail); have s30 : w.heap.size < w3.heap.size := World.block_lt_of_cell? _ _ e30; have t30 : w.heap.size < w3.heap.size + 1 := Nat.lt_succ_of_lt s30; have s32 : w.heap.size + 1 < w3.heap.size := World.block_lt_of_cell? _ _ e32; have t32 : w.heap.size + 1 < w3.heap.size + 1 := Nat.lt_succ_of_lt s32; have y32 : w3.frozen? ⟨w.heap.size + 1, 0, none⟩ = false := frozen_on hb3 (v := .bool false) (by first | (simp [go_sem, *]; done) | (simp [go_sem, World.cell?_alloc_some, *]; done) | fail) (by first | (simp [go_sem, *]; done) | (simp [go_sem, frozen?_alloc_cells, *]; done) | fail); have y33 : w3.frozen? ⟨w.heap.size + 1, 1, none⟩ = false := frozen_on hb3 (v := .slice none 0 0) (by first | (simp [go_sem, *]; done) | (simp [go_sem, World.cell?_alloc_some, *]; done) | fail) (by first | (simp [go_sem, *]; done) | (simp [go_sem, frozen?_alloc_cells, *]; done) | fail); have q3 := hb3.size; (try simp at q3); have Nu := Lib.hid hnu; clear hnu) | (go_at_call 44; (with_reducible refine (CM.out _ _ (Nu.out.below (by repeat (first | exact Below.refl _ _ | assumption | apply Below.drew | refine Below.setCell ?_ (by first | omega | (simp; done) | (simp; omega)) _ | refine Below.alloc ?_ (by first | omega | (simp; done) | (simp; omega)) _))) (Ha.out.2.1.below (by repeat (first | exact Below.refl _ _ | assumption | apply Below.drew | refine Below.setCell ?_ (by first | omega | (simp; done) | (simp; omega)) _ | refine Below.alloc ?_ (by first | omega | (simp; done) | (simp; omega)) _ | refine Below.trans ?_ (hb3.mono (by first | omega | (simp; done) | (simp; omega))) | refine Below.trans ?_ (hb1.mono (by first | omega | (simp; done) | (simp; omega))))))).mono ?_); rintro e w4 ⟨rfl, hb4⟩; have e40 : w4.cell? ⟨w.heap.size, 0, none⟩ = some (.bool true) := cell_on hb4 (by first | (simp [go_sem, *]; done) | (simp [go_sem, World.cell?_alloc_some, *]; done) | fail); have e41 : w4.cell? ⟨w.heap.size, 1, none⟩ = some (Value.slice oa la ca) := cell_on hb4 (by first | (simp [go_sem, *]; done) | (simp [go_sem, World.cell?_alloc_some, *]; done) | fail); have e42 : w4.cell? ⟨w.heap.size + 1, 0, none⟩ = some (.bool false) := cell_on hb4 (by first | (simp [go_sem, *]; done) | (simp [go_sem, World.cell?_alloc_some, *]; done) | fail); have e43 : w4.cell? ⟨w.heap.size + 1, 1, none⟩ = some (.slice none 0 0) := cell_on hb4 (by first | (simp [go_sem, *]; done) | (simp [go_sem, World.cell?_alloc_some, *]; done) | fail); have s40 : w.heap.size < w4.heap.size := World.block_lt_of_cell? _ _ e40; have t40 : w.heap.size < w4.heap.size + 1 := Nat.lt_succ_of_lt s40; have s42 : w.heap.size + 1 < w4.heap.size := World.block_lt_of_cell? _ _ e42; have t42 : w.heap.size + 1 < w4.heap.size + 1 := Nat.lt_succ_of_lt s42; have y42 : w4.frozen? ⟨w.heap.size + 1, 0, none⟩ = false := frozen_on hb4 (v := .bool false) (by first | (simp [go_sem, *]; done) | (simp [go_sem, World.cell?_alloc_some, *]; done) | fail) (by first | (simp [go_sem, *]; done) | (simp [go_sem, frozen?_alloc_cells, *]; done) | fail); have y43 : w4.frozen? ⟨w.heap.size + 1, 1, none⟩ = false := frozen_on hb4 (v := .slice none 0 0) (by first | (simp [go_sem, *]; done) | (simp [go_sem, World.cell?_alloc_some, *]; done) | fail) (by first | (simp [go_sem, *]; done) | (simp [go_sem, frozen?_alloc_cells, *]; done) | fail); have q4 := hb4.size; (try simp at q4)))
      all_goals
        go_wp2_with (first | (go_at_call 36; (with_reducible refine (made_as _ _ m (z / 2 ^ n) _ (Nm.out.below (by repeat (first | exact Below.refl _ _ | assumption | apply Below.drew | refine Below.setCell ?_ (by first | omega | (simp; done) | (simp; omega)) _ | refine Below.alloc ?_ (by first | omega | (simp; done) | (simp; omega)) _ | refine Below.trans ?_ (hb4.mono (by first | omega | (simp; done) | (simp; omega))) | refine Below.trans ?_ (hb3.mono (by first | omega | (simp; done) | (simp; omega)))))) (RV.out.trans (if_pos rfl).symm)).mono ?_); rintro e w7 ⟨v, rfl, hv, hb7⟩; have e70 : w7.cell? ⟨w.heap.size, 0, none⟩ = some (.bool true) := cell_on hb7 (by first | (simp [go_sem, *]; done) | (simp [go_sem, World.cell?_alloc_some, *]; done) | fail); have e71 : w7.cell? ⟨w.heap.size, 1, none⟩ = some (Value.slice oa la ca) := cell_on hb7 (by first | (simp [go_sem, *]; done) | (simp [go_sem, World.cell?_alloc_some, *]; done) | fail); have e72 : w7.cell? ⟨w.heap.size + 1, 0, none⟩ = some (.bool false) := cell_on hb7 (by first | (simp [go_sem, *]; done) | (simp [go_sem, World.cell?_alloc_some, *]; done) | fail); have e73 : w7.cell? ⟨w.heap.size + 1, 1, none⟩ = some (.slice none 0 0) := cell_on hb7 (by first | (simp [go_sem, *]; done) | (simp [go_sem, World.cell?_alloc_some, *]; done) | fail); have s70 : w.heap.size < w7.heap.size := World.block_lt_of_cell? _ _ e70; have t70 : w.heap.size < w7.heap.size + 1 := Nat.lt_succ_of_lt s70; have s72 : w.heap.size + 1 < w7.heap.size := World.block_lt_of_cell? _ _ e72; have t72 : w.heap.size + 1 < w7.heap.size + 1 := Nat.lt_succ_of_lt s72; have y72 : w7.frozen? ⟨w.heap.size + 1, 0, none⟩ = false := frozen_on hb7 (v := .bool false) (by first | (simp [go_sem, *]; done) | (simp [go_sem, World.cell?_alloc_some, *]; done) | fail) (by first | (simp [go_sem, *]; done) | (simp [go_sem, frozen?_alloc_cells, *]; done) | fail); have y73 : w7.frozen? ⟨w.heap.size + 1, 1, none⟩ = false := frozen_on hb7 (v := .slice none 0 0) (by first | (simp [go_sem, *]; done) | (simp [go_sem, World.cell?_alloc_some, *]; done) | fail) (by first | (simp [go_sem, *]; done) | (simp [go_sem, frozen?_alloc_cells, *]; done) | fail); have q7 := hb7.size; (try simp at q7); obtain ⟨bv, ov, lv, cv, rfl, Hv⟩ := hv.open; clear hv) | fail)
        refine bodyPost_ret (v := Iv bv (.slice ov lv cv)) (by simp [results, Tryd.results67, go_sem, *]) rfl ⟨_, rfl, (IsI.mk Hv.out.1 Hv.out.2.1).put e72 (by simp) e73 (by simp), ?_⟩
        repeat (first | exact Below.refl _ _ | assumption | apply Below.drew | refine Below.setCell ?_ (by first | omega | (simp; done) | (simp; omega)) _ | refine Below.alloc ?_ (by first | omega | (simp; done) | (simp; omega)) _ | refine Below.trans ?_ (hb7.mono (by first | omega | (simp; done) | (simp; omega))) | refine Below.trans ?_ (hb6.mono (by first | omega | (simp; done) | (simp; omega))) | refine Below.trans ?_ (hb5.mono (by first | omega | (simp; done) | (simp; omega))) | refine Below.trans ?_ (hb4.mono (by first | omega | (simp; done) | (simp; omega))) | refine Below.trans ?_ (hb3.mono (by first | omega | (simp; done) | (simp; omega))) | refine Below.trans ?_ (hb1.mono (by first | omega | (simp; done) | (simp; omega))))
    · have RV := Lib.hid (right_odd zn.out hm he)
      have CE := Lib.hid (show m * 2 ^ n < z.natAbs by omega)
      have CM : Hid (∀ (W : World) (u : Value), IsN W u (m * 2 ^ n) → IsN W (.slice oa la ca) z.natAbs → Calls Tryd.prog 44 #[u, .slice oa la ca] W fun e w' => e = .returned (.int .i64 (-1)) ∧ Below W.heap.size W w') := fun W u h1 h2 => by
        have h := ncmp_any _ _ _ _ W h1 h2 GM.out.2.1 G.out.1
        rw [show sg ((m * 2 ^ n : Nat) : Int) (z.natAbs : Nat) = -1 from sg_lt (by have := CE.out; omega)] at h
        exact h
      clear he mle mul hm
      go_enter Tryd.func67, Tryd.ntmps67
      go_wp2_with (first | (go_at_call 91; (with_reducible refine (DC.out _ (Ha.out.2.1.below (by repeat (first | exact Below.refl _ _ | assumption | apply Below.drew | refine Below.setCell ?_ (by first | omega | (simp; done) | (simp; omega)) _ | refine Below.alloc ?_ (by first | omega | (simp; done) | (simp; omega)) _)))).mono ?_); rintro e w1 ⟨vm, rfl, hnm, hb1⟩; have e10 : w1.cell? ⟨w.heap.size, 0, none⟩ = some (.bool true) := cell_on hb1 (by first | (simp [go_sem, *]; done) | (simp [go_sem, World.cell?_alloc_some, *]; done) | fail); have e11 : w1.cell? ⟨w.heap.size, 1, none⟩ = some (Value.slice oa la ca) := cell_on hb1 (by first | (simp [go_sem, *]; done) | (simp [go_sem, World.cell?_alloc_some, *]; done) | fail); have e12 : w1.cell? ⟨w.heap.size + 1, 0, none⟩ = some (.bool false) := cell_on hb1 (by first | (simp [go_sem, *]; done) | (simp [go_sem, World.cell?_alloc_some, *]; done) | fail); have e13 : w1.cell? ⟨w.heap.size + 1, 1, none⟩ = some (.slice none 0 0) := cell_on hb1 (by first | (simp [go_sem, *]; done) | (simp [go_sem, World.cell?_alloc_some, *]; done) | fail); have s10 : w.heap.size < w1.heap.size := World.block_lt_of_cell? _ _ e10; have t10 : w.heap.size < w1.heap.size + 1 := Nat.lt_succ_of_lt s10; have s12 : w.heap.size + 1 < w1.heap.size := World.block_lt_of_cell? _ _ e12; have t12 : w.heap.size + 1 < w1.heap.size + 1 := Nat.lt_succ_of_lt s12; have y12 : w1.frozen? ⟨w.heap.size + 1, 0, none⟩ = false := frozen_on hb1 (v := .bool false) (by first | (simp [go_sem, *]; done) | (simp [go_sem, World.cell?_alloc_some, *]; done) | fail) (by first | (simp [go_sem, *]; done) | (simp [go_sem, frozen?_alloc_cells, *]; done) | fail); have y13 : w1.frozen? ⟨w.heap.size + 1, 1, none⟩ = false := frozen_on hb1 (v := .slice none 0 0) (by first | (simp [go_sem, *]; done) | (simp [go_sem, World.cell?_alloc_some, *]; done) | fail) (by first | (simp [go_sem, *]; done) | (simp [go_sem, frozen?_alloc_cells, *]; done) | fail); have q1 := hb1.size; (try simp at q1); have Nm := Lib.hid hnm; clear hnm) | fail)
      go_region_held3 (fun w' => w'.cell? ⟨w.heap.size, 0, none⟩ = some (.bool true) ∧ w'.cell? ⟨w.heap.size, 1, none⟩ = some (Value.slice oa la ca)) (first | (simp [go_sem, *]; done) | (simp [go_sem, World.cell?_alloc_some, *]; done)) (first | (go_at_call 51; (with_reducible refine (up2_any _ m n _ (Nm.out.below (by repeat (first | exact Below.refl _ _ | assumption | apply Below.drew | refine Below.setCell ?_ (by first | omega | (simp; done) | (simp; omega)) _ | refine Below.alloc ?_ (by first | omega | (simp; done) | (simp; omega)) _))) GM.out.1 G.out.2).mono ?_); rintro e w3 ⟨vu, rfl, hnu, hb3⟩; have e30 : w3.cell? ⟨w.heap.size, 0, none⟩ = some (.bool true) := cell_on hb3 (by first | (simp [go_sem, *]; done) | (simp [go_sem, World.cell?_alloc_some, *]; done) | fail); have e31 : w3.cell? ⟨w.heap.size, 1, none⟩ = some (Value.slice oa la ca) := cell_on hb3 (by first | (simp [go_sem, *]; done) | (simp [go_sem, World.cell?_alloc_some, *]; done) | fail); have e32 : w3.cell? ⟨w.heap.size + 1, 0, none⟩ = some (.bool false) := cell_on hb3 (by first | (simp [go_sem, *]; done) | (simp [go_sem, World.cell?_alloc_some, *]; done) | fail); have e33 : w3.cell? ⟨w.heap.size + 1, 1, none⟩ = some (.slice none 0 0) := cell_on hb3 (by first | (simp [go_sem, *]; done) | (simp [go_sem, World.cell?_alloc_some, *]; done) | fail); have s30 : w.heap.size < w3.heap.size := World.block_lt_of_cell? _ _ e30; have t30 : w.heap.size < w3.heap.size + 1 := Nat.lt_succ_of_lt s30; have s32 : w.heap.size + 1 < w3.heap.size := World.block_lt_of_cell? _ _ e32; have t32 : w.heap.size + 1 < w3.heap.size + 1 := Nat.lt_succ_of_lt s32; have y32 : w3.frozen? ⟨w.heap.size + 1, 0, none⟩ = false := frozen_on hb3 (v := .bool false) (by first | (simp [go_sem, *]; done) | (simp [go_sem, World.cell?_alloc_some, *]; done) | fail) (by first | (simp [go_sem, *]; done) | (simp [go_sem, frozen?_alloc_cells, *]; done) | fail); have y33 : w3.frozen? ⟨w.heap.size + 1, 1, none⟩ = false := frozen_on hb3 (v := .slice none 0 0) (by first | (simp [go_sem, *]; done) | (simp [go_sem, World.cell?_alloc_some, *]; done) | fail) (by first | (simp [go_sem, *]; done) | (simp [go_sem, frozen?_alloc_cells, *]; done) | fail); have q3 := hb3.size; (try simp at q3); have Nu := Lib.hid hnu; clear hnu) | (go_at_call 44; (with_reducible refine (CM.out _ _ (Nu.out.below (by repeat (first | exact Below.refl _ _ | assumption | apply Below.drew | refine Below.setCell ?_ (by first | omega | (simp; done) | (simp; omega)) _ | refine Below.alloc ?_ (by first | omega | (simp; done) | (simp; omega)) _))) (Ha.out.2.1.below (by repeat (first | exact Below.refl _ _ | assumption | apply Below.drew | refine Below.setCell ?_ (by first | omega | (simp; done) | (simp; omega)) _ | refine Below.alloc ?_ (by first | omega | (simp; done) | (simp; omega)) _ | refine Below.trans ?_ (hb3.mono (by first | omega | (simp; done) | (simp; omega))) | refine Below.trans ?_ (hb1.mono (by first | omega | (simp; done) | (simp; omega))))))).mono ?_); rintro e w4 ⟨rfl, hb4⟩; have e40 : w4.cell? ⟨w.heap.size, 0, none⟩ = some (.bool true) := cell_on hb4 (by first | (simp [go_sem, *]; done) | (simp [go_sem, World.cell?_alloc_some, *]; done) | fail); have e41 : w4.cell? ⟨w.heap.size, 1, none⟩ = some (Value.slice oa la ca) := cell_on hb4 (by first | (simp [go_sem, *]; done) | (simp [go_sem, World.cell?_alloc_some, *]; done) | fail); have e42 : w4.cell? ⟨w.heap.size + 1, 0, none⟩ = some (.bool false) := cell_on hb4 (by first | (simp [go_sem, *]; done) | (simp [go_sem, World.cell?_alloc_some, *]; done) | fail); have e43 : w4.cell? ⟨w.heap.size + 1, 1, none⟩ = some (.slice none 0 0) := cell_on hb4 (by first | (simp [go_sem, *]; done) | (simp [go_sem, World.cell?_alloc_some, *]; done) | fail); have s40 : w.heap.size < w4.heap.size := World.block_lt_of_cell? _ _ e40; have t40 : w.heap.size < w4.heap.size + 1 := Nat.lt_succ_of_lt s40; have s42 : w.heap.size + 1 < w4.heap.size := World.block_lt_of_cell? _ _ e42; have t42 : w.heap.size + 1 < w4.heap.size + 1 := Nat.lt_succ_of_lt s42; have y42 : w4.frozen? ⟨w.heap.size + 1, 0, none⟩ = false := frozen_on hb4 (v := .bool false) (by first | (simp [go_sem, *]; done) | (simp [go_sem, World.cell?_alloc_some, *]; done) | fail) (by first | (simp [go_sem, *]; done) | (simp [go_sem, frozen?_alloc_cells, *]; done) | fail); have y43 : w4.frozen? ⟨w.heap.size + 1, 1, none⟩ = false := frozen_on hb4 (v := .slice none 0 0) (by first | (simp [go_sem, *]; done) | (simp [go_sem, World.cell?_alloc_some, *]; done) | fail) (by first | (simp [go_sem, *]; done) | (simp [go_sem, frozen?_alloc_cells, *]; done) | fail); have q4 := hb4.size; (try simp at q4)))
      all_goals
        go_wp2_with (first | (go_at_call 37; (with_reducible refine (nof_1 _).mono ?_); rintro e w5 ⟨vo, rfl, hno, hb5⟩; have e50 : w5.cell? ⟨w.heap.size, 0, none⟩ = some (.bool true) := cell_on hb5 (by first | (simp [go_sem, *]; done) | (simp [go_sem, World.cell?_alloc_some, *]; done) | fail); have e51 : w5.cell? ⟨w.heap.size, 1, none⟩ = some (Value.slice oa la ca) := cell_on hb5 (by first | (simp [go_sem, *]; done) | (simp [go_sem, World.cell?_alloc_some, *]; done) | fail); have e52 : w5.cell? ⟨w.heap.size + 1, 0, none⟩ = some (.bool false) := cell_on hb5 (by first | (simp [go_sem, *]; done) | (simp [go_sem, World.cell?_alloc_some, *]; done) | fail); have e53 : w5.cell? ⟨w.heap.size + 1, 1, none⟩ = some (.slice none 0 0) := cell_on hb5 (by first | (simp [go_sem, *]; done) | (simp [go_sem, World.cell?_alloc_some, *]; done) | fail); have s50 : w.heap.size < w5.heap.size := World.block_lt_of_cell? _ _ e50; have t50 : w.heap.size < w5.heap.size + 1 := Nat.lt_succ_of_lt s50; have s52 : w.heap.size + 1 < w5.heap.size := World.block_lt_of_cell? _ _ e52; have t52 : w.heap.size + 1 < w5.heap.size + 1 := Nat.lt_succ_of_lt s52; have y52 : w5.frozen? ⟨w.heap.size + 1, 0, none⟩ = false := frozen_on hb5 (v := .bool false) (by first | (simp [go_sem, *]; done) | (simp [go_sem, World.cell?_alloc_some, *]; done) | fail) (by first | (simp [go_sem, *]; done) | (simp [go_sem, frozen?_alloc_cells, *]; done) | fail); have y53 : w5.frozen? ⟨w.heap.size + 1, 1, none⟩ = false := frozen_on hb5 (v := .slice none 0 0) (by first | (simp [go_sem, *]; done) | (simp [go_sem, World.cell?_alloc_some, *]; done) | fail) (by first | (simp [go_sem, *]; done) | (simp [go_sem, frozen?_alloc_cells, *]; done) | fail); have q5 := hb5.size; (try simp at q5); have No := Lib.hid hno; clear hno) | (go_at_call 43; (with_reducible refine (nplus_any _ _ m 1 _ (Nm.out.below (by repeat (first | exact Below.refl _ _ | assumption | apply Below.drew | refine Below.setCell ?_ (by first | omega | (simp; done) | (simp; omega)) _ | refine Below.alloc ?_ (by first | omega | (simp; done) | (simp; omega)) _ | refine Below.trans ?_ (hb5.mono (by first | omega | (simp; done) | (simp; omega))) | refine Below.trans ?_ (hb4.mono (by first | omega | (simp; done) | (simp; omega))) | refine Below.trans ?_ (hb3.mono (by first | omega | (simp; done) | (simp; omega)))))) (No.out.below (by repeat (first | exact Below.refl _ _ | assumption | apply Below.drew | refine Below.setCell ?_ (by first | omega | (simp; done) | (simp; omega)) _ | refine Below.alloc ?_ (by first | omega | (simp; done) | (simp; omega)) _))) GM.out.1 (big_of (k := 1) (by decide) (by decide))).mono ?_); rintro e w6 ⟨vp, rfl, hnp, hb6⟩; have e60 : w6.cell? ⟨w.heap.size, 0, none⟩ = some (.bool true) := cell_on hb6 (by first | (simp [go_sem, *]; done) | (simp [go_sem, World.cell?_alloc_some, *]; done) | fail); have e61 : w6.cell? ⟨w.heap.size, 1, none⟩ = some (Value.slice oa la ca) := cell_on hb6 (by first | (simp [go_sem, *]; done) | (simp [go_sem, World.cell?_alloc_some, *]; done) | fail); have e62 : w6.cell? ⟨w.heap.size + 1, 0, none⟩ = some (.bool false) := cell_on hb6 (by first | (simp [go_sem, *]; done) | (simp [go_sem, World.cell?_alloc_some, *]; done) | fail); have e63 : w6.cell? ⟨w.heap.size + 1, 1, none⟩ = some (.slice none 0 0) := cell_on hb6 (by first | (simp [go_sem, *]; done) | (simp [go_sem, World.cell?_alloc_some, *]; done) | fail); have s60 : w.heap.size < w6.heap.size := World.block_lt_of_cell? _ _ e60; have t60 : w.heap.size < w6.heap.size + 1 := Nat.lt_succ_of_lt s60; have s62 : w.heap.size + 1 < w6.heap.size := World.block_lt_of_cell? _ _ e62; have t62 : w.heap.size + 1 < w6.heap.size + 1 := Nat.lt_succ_of_lt s62; have y62 : w6.frozen? ⟨w.heap.size + 1, 0, none⟩ = false := frozen_on hb6 (v := .bool false) (by first | (simp [go_sem, *]; done) | (simp [go_sem, World.cell?_alloc_some, *]; done) | fail) (by first | (simp [go_sem, *]; done) | (simp [go_sem, frozen?_alloc_cells, *]; done) | fail); have y63 : w6.frozen? ⟨w.heap.size + 1, 1, none⟩ = false := frozen_on hb6 (v := .slice none 0 0) (by first | (simp [go_sem, *]; done) | (simp [go_sem, World.cell?_alloc_some, *]; done) | fail) (by first | (simp [go_sem, *]; done) | (simp [go_sem, frozen?_alloc_cells, *]; done) | fail); have q6 := hb6.size; (try simp at q6); have Np := Lib.hid hnp; clear hnp) | (go_at_call 36; (with_reducible refine (made_as _ _ (m + 1) (z / 2 ^ n) _ (Np.out.below (by repeat (first | exact Below.refl _ _ | assumption | apply Below.drew | refine Below.setCell ?_ (by first | omega | (simp; done) | (simp; omega)) _ | refine Below.alloc ?_ (by first | omega | (simp; done) | (simp; omega)) _ | refine Below.trans ?_ (hb4.mono (by first | omega | (simp; done) | (simp; omega))) | refine Below.trans ?_ (hb3.mono (by first | omega | (simp; done) | (simp; omega)))))) (RV.out.trans (if_pos rfl).symm)).mono ?_); rintro e w7 ⟨v, rfl, hv, hb7⟩; have e70 : w7.cell? ⟨w.heap.size, 0, none⟩ = some (.bool true) := cell_on hb7 (by first | (simp [go_sem, *]; done) | (simp [go_sem, World.cell?_alloc_some, *]; done) | fail); have e71 : w7.cell? ⟨w.heap.size, 1, none⟩ = some (Value.slice oa la ca) := cell_on hb7 (by first | (simp [go_sem, *]; done) | (simp [go_sem, World.cell?_alloc_some, *]; done) | fail); have e72 : w7.cell? ⟨w.heap.size + 1, 0, none⟩ = some (.bool false) := cell_on hb7 (by first | (simp [go_sem, *]; done) | (simp [go_sem, World.cell?_alloc_some, *]; done) | fail); have e73 : w7.cell? ⟨w.heap.size + 1, 1, none⟩ = some (.slice none 0 0) := cell_on hb7 (by first | (simp [go_sem, *]; done) | (simp [go_sem, World.cell?_alloc_some, *]; done) | fail); have s70 : w.heap.size < w7.heap.size := World.block_lt_of_cell? _ _ e70; have t70 : w.heap.size < w7.heap.size + 1 := Nat.lt_succ_of_lt s70; have s72 : w.heap.size + 1 < w7.heap.size := World.block_lt_of_cell? _ _ e72; have t72 : w.heap.size + 1 < w7.heap.size + 1 := Nat.lt_succ_of_lt s72; have y72 : w7.frozen? ⟨w.heap.size + 1, 0, none⟩ = false := frozen_on hb7 (v := .bool false) (by first | (simp [go_sem, *]; done) | (simp [go_sem, World.cell?_alloc_some, *]; done) | fail) (by first | (simp [go_sem, *]; done) | (simp [go_sem, frozen?_alloc_cells, *]; done) | fail); have y73 : w7.frozen? ⟨w.heap.size + 1, 1, none⟩ = false := frozen_on hb7 (v := .slice none 0 0) (by first | (simp [go_sem, *]; done) | (simp [go_sem, World.cell?_alloc_some, *]; done) | fail) (by first | (simp [go_sem, *]; done) | (simp [go_sem, frozen?_alloc_cells, *]; done) | fail); have q7 := hb7.size; (try simp at q7); obtain ⟨bv, ov, lv, cv, rfl, Hv⟩ := hv.open; clear hv) | fail)
        refine bodyPost_ret (v := Iv bv (.slice ov lv cv)) (by simp [results, Tryd.results67, go_sem, *]) rfl ⟨_, rfl, (IsI.mk Hv.out.1 Hv.out.2.1).put e72 (by simp) e73 (by simp), ?_⟩
        repeat (first | exact Below.refl _ _ | assumption | apply Below.drew | refine Below.setCell ?_ (by first | omega | (simp; done) | (simp; omega)) _ | refine Below.alloc ?_ (by first | omega | (simp; done) | (simp; omega)) _ | refine Below.trans ?_ (hb7.mono (by first | omega | (simp; done) | (simp; omega))) | refine Below.trans ?_ (hb6.mono (by first | omega | (simp; done) | (simp; omega))) | refine Below.trans ?_ (hb5.mono (by first | omega | (simp; done) | (simp; omega))) | refine Below.trans ?_ (hb4.mono (by first | omega | (simp; done) | (simp; omega))) | refine Below.trans ?_ (hb3.mono (by first | omega | (simp; done) | (simp; omega))) | refine Below.trans ?_ (hb1.mono (by first | omega | (simp; done) | (simp; omega))))
end Go.Proofs.YtmdjpnjpnfkihaaDoor
namespace Go.Proofs.YtmdjpnjpnfkihaaDoor
open Go.RowKit

def SomeII (w : World) (q r : Int) (e : Ending) (w' : World) : Prop := ∃ u v, e = .returned (.tuple #[u, v]) ∧ IsI w' u q ∧ IsI w' v r ∧ Below w.heap.size w w'

theorem dn_same {a b : Int} {x y : Bool} (hx : x = decide (a < 0)) (hy : y = decide (b < 0)) (h : (x == y) = true) : dn a b = ((a.natAbs / b.natAbs : Nat) : Int) := by
  have e : (ng a != ng b) = false := by
    unfold ng; rw [← hx, ← hy]; cases x <;> cases y <;> simp at h ⊢
  unfold dn
  rw [e]
  simp [sd, ab]
theorem dn_even {a b : Int} {x y : Bool} (hx : x = decide (a < 0)) (hy : y = decide (b < 0)) (h : (x == y) = false) (hr : a.natAbs % b.natAbs = 0) : dn a b = -((a.natAbs / b.natAbs : Nat) : Int) := by
  have e : (ng a != ng b) = true := by
    unfold ng; rw [← hx, ← hy]; cases x <;> cases y <;> simp at h ⊢
  have r : (ab a % ab b == 0) = true := by
    have : ab a % ab b = ((a.natAbs % b.natAbs : Nat) : Int) := rfl
    rw [this, hr]; rfl
  unfold dn
  rw [e, r]
  simp [sd, ab]
theorem dn_odd {a b : Int} {x y : Bool} (hx : x = decide (a < 0)) (hy : y = decide (b < 0)) (h : (x == y) = false) (hr : a.natAbs % b.natAbs ≠ 0) : dn a b = -((a.natAbs / b.natAbs : Nat) : Int) - 1 := by
  have e : (ng a != ng b) = true := by
    unfold ng; rw [← hx, ← hy]; cases x <;> cases y <;> simp at h ⊢
  have r : (ab a % ab b == 0) = false := by
    have : ab a % ab b = ((a.natAbs % b.natAbs : Nat) : Int) := rfl
    rw [this, beq_eq_false_iff_ne]; omega
  have q : ab a / ab b = ((a.natAbs / b.natAbs : Nat) : Int) := rfl
  unfold dn
  rw [e, r, q]
  simp [sd]
  omega
theorem one_big : (1 : Int).natAbs < BIG := big_of (k := 1) (by decide) (by decide)
theorem dn_le {a b : Int} (h0 : b ≠ 0) : (dn a b).natAbs ≤ a.natAbs := by
  have dp : 0 < b.natAbs := by omega
  have q1 := Nat.div_le_self a.natAbs b.natAbs
  have d := Nat.div_add_mod a.natAbs b.natAbs
  by_cases h : (decide (a < 0) == decide (b < 0)) = true
  · rw [dn_same rfl rfl h]
    generalize a.natAbs / b.natAbs = q at *
    omega
  · have h : (decide (a < 0) == decide (b < 0)) = false := by simpa using h
    by_cases hr : a.natAbs % b.natAbs = 0
    · rw [dn_even rfl rfl h hr]
      generalize a.natAbs / b.natAbs = q at *
      omega
    · rw [dn_odd rfl rfl h hr]
      have l := Nat.mod_lt a.natAbs dp
      have : 1 * (a.natAbs / b.natAbs) ≤ b.natAbs * (a.natAbs / b.natAbs) := Nat.mul_le_mul_right _ dp
      generalize a.natAbs / b.natAbs = q at *
      generalize b.natAbs * q = m at *
      omega
theorem dn_mul {a b : Int} (ga : a.natAbs < MID) (gb : b.natAbs < MID) (h0 : b ≠ 0) : (dn a b).natAbs < BIG ∧ (dn a b * b).natAbs < BIG := by
  have h := dn_le (a := a) h0
  refine ⟨Nat.lt_of_le_of_lt h (mid_big ga), ?_⟩
  rw [Int.natAbs_mul]
  unfold MID at ga gb
  exact big_of (k := 131073) (mul_pow_lt 65536 65536 131073 (Nat.le_of_lt (Nat.lt_of_le_of_lt h ga)) (Nat.le_of_lt gb) (by decide)) (by decide)

end Go.Proofs.YtmdjpnjpnfkihaaDoor
namespace Go.Proofs.YtmdjpnjpnfkihaaDoor
open Go.RowKit Go.Lib

theorem cat_toArray (a b : List UInt8) : ((⟨a.toArray⟩ : ByteArray) ++ ⟨b.toArray⟩) = ⟨(a ++ b).toArray⟩ := by
  apply ByteArray.ext
  simp
theorem ten45 : (2 : Nat) ^ 128 < 10 ^ (9 * 5) := by decide
set_option maxRecDepth 100000 in
set_option maxHeartbeats 8000000 in
theorem ntext_zero (v : Value) (w : World) (h : IsN w v 0) : Calls Tryd.prog 50 #[v] w fun e w' => e = .returned (.string ⟨(decDigits 0).toArray⟩) ∧ Below w.heap.size w w' := by
  have H := Lib.hid h
  have B0 : Hid (0 < BIG ∧ True) := ⟨big_of (k := 1) (by decide) (by decide), trivial⟩
  have E : Hid (decDigits 0 = [48]) := by unfold Hid; rw [dec_small (by decide)]; rfl
  clear h
  go_enter Tryd.func50, Tryd.ntmps50
  go_wp2_with (go_at_call 68; (with_reducible refine (halves_num v 0 _ H.out B0.out.1).mono ?_); rintro e w1 ⟨vx, rfl, hx, hb1⟩; obtain ⟨ox, lx, cx, rfl, fx⟩ := hx.form; have hl1 : lx = 0 := fx.2 rfl; subst hl1; clear fx hx)
  go_ret
  exact ⟨by rw [E.out] <;> rfl, hb1⟩
theorem ntext_wide (v : Value) (n : Nat) (w : World) (h : IsN w v n) (hn : n < 2 ^ 128) : Calls Tryd.prog 50 #[v] w fun e w' => e = .returned (.string ⟨(decDigits n).toArray⟩) ∧ Below w.heap.size w w' := by
  rcases Nat.eq_zero_or_pos n with g | g
  · subst g; exact ntext_zero v w h
  · exact ntext_any v n 5 w h g (big_of hn (by decide)) (Nat.lt_trans hn ten45) (by decide) (by decide)
set_option maxRecDepth 100000 in
set_option maxHeartbeats 8000000 in
theorem itext_any (x : Value) (z : Int) (w : World) (h : IsI w x z) (hz : z.natAbs < 2 ^ 128) : Calls Tryd.prog 14 #[x] w fun e w' => e = .returned (.string ⟨(itoa z).toArray⟩) ∧ Below w.heap.size w w' := by
  obtain ⟨bn, on, ln, cn, rfl, Hn⟩ := h.open
  have NT := Lib.hid (fun W h => ntext_wide (.slice on ln cn) z.natAbs W h hz)
  have hl : (decDigits z.natAbs).length ≤ 45 := (pad_dec 45 z.natAbs (by decide) (Nat.lt_trans hz ten45)).1
  clear h hz
  cases g : bn with
  | true =>
    have hz : z < 0 := by have := Hn.out.1; rw [g] at this; simpa using this.symm
    have E : Hid (itoa z = 45 :: decDigits z.natAbs) := by unfold itoa; rw [if_pos hz]; exact Lib.hid rfl
    clear hz
    subst g
    generalize decDigits z.natAbs = D at *
    have hl2 : ¬ 9223372036854775807 < 1 + D.length := by omega
    go_enter Tryd.func14, Tryd.ntmps14
    go_wp2_with (go_at_call 50; (with_reducible refine (NT.out _ (Hn.out.2.1.below ((Below.refl _ _).alloc (Nat.le_refl _) _))).mono ?_); rintro e w1 ⟨rfl, hb1⟩)
    go_ret
    exact ⟨by rw [E.out, cat_toArray] <;> rfl, ((Below.refl _ _).alloc (Nat.le_refl _) _).trans (hb1.mono (by simp))⟩
  | false =>
    have hz : ¬ z < 0 := by have := Hn.out.1; rw [g] at this; simpa using this.symm
    have E : Hid (itoa z = decDigits z.natAbs) := by unfold itoa; rw [if_neg hz, show z.toNat = z.natAbs by omega]; exact Lib.hid rfl
    clear hz
    subst g
    generalize decDigits z.natAbs = D at *
    have hl2 : ¬ 9223372036854775807 < 1 + D.length := by omega
    go_enter Tryd.func14, Tryd.ntmps14
    go_wp2_with (go_at_call 50; (with_reducible refine (NT.out _ (Hn.out.2.1.below ((Below.refl _ _).alloc (Nat.le_refl _) _))).mono ?_); rintro e w1 ⟨rfl, hb1⟩)
    go_ret
    exact ⟨by rw [E.out] <;> rfl, ((Below.refl _ _).alloc (Nat.le_refl _) _).trans (hb1.mono (by simp))⟩
end Go.Proofs.YtmdjpnjpnfkihaaDoor
namespace Go.Proofs.YtmdjpnjpnfkihaaDoor
open Go.RowKit Go.Shelf Go.Lib
attribute [local go_sem] Oper.semAt_some

/-- A word's decimal. -/
def ftx (a : Int) (f : Nat) : List UInt8 := (if a < 0 then [45] else []) ++ decDigits (a.natAbs / 2 ^ f) ++ (if a.natAbs % 2 ^ f = 0 then [] else 46 :: frs f (a.natAbs % 2 ^ f))
theorem info8b : (Tryd.prog.info? 5).map (fun i => (i.zero, i.size, i.bytes)) = some (some (.int .u8 0), 1, 1) := by kernel_rfl

theorem row_form {w : World} {base : Nat} {e : TypeId} {v : Value} {xs : List Value} (h : ByteRow w base e v xs) : ∃ g cap, v = .slice (some ⟨g, 0, none⟩) xs.length cap ∧ xs.length ≤ cap := by
  obtain ⟨g, cap, cur, lo, hi, rfl, hb, hg, _, h1, _⟩ := h
  exact ⟨g, cap, rfl, h1⟩
theorem row_bytes {w : World} {base : Nat} {e : TypeId} {g n c : Nat} {l r : List UInt8} (h : ByteRow w base e (.slice (some ⟨g, 0, none⟩) n c) ((l ++ r).map b8)) : ∀ j (hj : j < l.length), w.cell? ((⟨g, 0, none⟩ : Addr).add j) = some (.int .u8 (l[j].toNat : Int)) := by
  intro j hj
  rw [add_plain, Nat.zero_add]
  refine h.cells j _ ?_
  rw [List.map_append, List.getElem?_append_left (by simpa using hj), List.getElem?_map, List.getElem?_eq_getElem hj]
  rfl
set_option maxRecDepth 100000 in
set_option maxHeartbeats 8000000 in
theorem ftext_any (a : Int) (f : Nat) (w : World) (ga : wd a = true) (f0 : 8 ≤ f) (f1 : f ≤ 32) (htab : Lib.TabIs Tryd.prog w "internal/strconv.uint64pow10" .u64 Lib.pow10Tab) :
    Calls Tryd.prog 34 #[.int .i64 a, .int .i64 f] w fun e w' => e = .returned (.tuple #[.string ⟨(ftx a f).toArray⟩, .int .i64 0]) ∧ Below w.heap.size w w' := by
  obtain ⟨a0, a1⟩ := wd_bd ga
  obtain ⟨i0, hi0, hz0, hz1, hz2⟩ := info_parts info8b
  have CK : Hid (∀ W : World, Calls Tryd.prog 63 #[.int .i64 a] W fun e w' => e = .returned (.int .i64 0) ∧ W = w') := fun W => by have := check_any a W; rwa [if_pos ga] at this
  have CF : Hid (∀ W : World, Calls Tryd.prog 64 #[.int .i64 f] W fun e w' => e = .returned (.int .i64 0) ∧ W = w') := fun W => by have := checkf_any f W; rwa [if_pos (fb_mk ⟨by omega, by omega⟩)] at this
  obtain ⟨S, hS⟩ : ∃ S, S = a.natAbs := ⟨_, rfl⟩
  obtain ⟨q, hq⟩ : ∃ q, q = S / 2 ^ f := ⟨_, rfl⟩
  have hq2 : q ≤ S := by rw [hq]; exact Nat.div_le_self _ _
  have eq1 : (S : Int) / 2 ^ f = (q : Int) := by rw [hq]; simp
  have FU := Lib.hid (fun (W : World) (h : Below w.heap.size w W) => fu_any q (by omega) W (Lib.tabBelow_of_tabIs htab _ h))
  have LQ : (decDigits q).length ≤ 20 := by
    have := (pad_dec 20 q (by decide) (by omega)).1
    exact this
  have hs47 : S < 140737488355328 := by omega
  have FL := frs_len_f f (S % 2 ^ f)
  have FT : Hid (ftx a f = (if a < 0 then [45] else []) ++ decDigits q ++ (if S % 2 ^ f = 0 then [] else 46 :: frs f (S % 2 ^ f))) := by unfold ftx; rw [← hS, ← hq]; exact Lib.hid rfl
  have FZ : Hid (S % 2 ^ f = 0 ∧ frs f (S % 2 ^ f) = [] ∨ S % 2 ^ f ≠ 0 ∧ 0 < (frs f (S % 2 ^ f)).length) := by
    rcases Nat.eq_zero_or_pos (S % 2 ^ f) with h | h
    · exact .inl ⟨h, by rw [h, frs_zero]⟩
    · exact .inr ⟨by omega, by rw [frs_next (by omega) (Nat.mod_lt _ (Nat.pow_pos (by decide)))]; simp⟩
  have DC := Lib.hid (fun W : World => decs_any S f f1 W)
  have DS := Lib.hid (fun (B : Nat) (W : World) (hB : B + 2 < W.heap.size) => dec_stops Fence.wide 8 trivial rfl (by decide) B S f f1 (by omega) W hB)
  generalize hFR : frs f (S % 2 ^ f) = FR at *
  generalize S % 2 ^ f = SM at *
  by_cases hn : a < 0
  · obtain rfl : a = -(S : Int) := by omega
    have FT : Hid (ftx (-(S : Int)) f = [45] ++ decDigits q ++ (if SM = 0 then [] else 46 :: FR)) := by have := FT.out; rwa [if_pos hn] at this
    obtain ⟨PB, hPB⟩ : ∃ PB, PB = [45] ++ decDigits q := ⟨_, rfl⟩
    have FT2 := FT.out
    rw [← hPB] at FT2
    have FTP := Lib.hid FT2
    clear FT2
    obtain ⟨Z, hZ⟩ : ∃ Z : ByteArray × Unit, Z.1 = ⟨PB.toArray⟩ := ⟨(_, ()), rfl⟩
    have hPL : PB.length = 1 + (decDigits q).length := by rw [hPB]; simp; omega
    have hZ3 : Z.1.size = PB.length := by rw [hZ]; show PB.toArray.size = _; simp
    have HZ : Hid (Z.1.size ≤ 65536 ∧ (Z.1.data.toList.map fun b => Value.int .u8 (b.toNat : Int)) = PB.map b8) := ⟨by omega, by rw [hZ]; rfl⟩
    have hZ2 : (ByteArray.mk #[45] ++ ⟨(decDigits q).toArray⟩) = Z.1 := by rw [hZ, hPB]; exact cat_toArray [45] _
    rw [hPL] at hZ3
    clear hS hq hZ htab ga hPB
    generalize decDigits q = Dq at *
    have s1 : ¬ 9223372036854775807 < 1 + Dq.length := by omega
    refine (callsIn_wide (n := 9)).1 ?_
    refine callsIn_of_wp_marks Tryd.func34 rfl trivial ?_
    simp only [Tryd.ntmps34, List.size_toArray, List.length_cons, List.length_nil, Nat.reduceAdd, Nat.reduceSub, Array.replicate_succ, Array.replicate_zero, List.push_toArray, List.append_toArray, List.nil_append, List.cons_append]
    refine wpIn_wide.2 ?_
    go_wp2_with (first | (go_at_call 63; (with_reducible refine (CK.out _).mono ?_); rintro e w' ⟨rfl, rfl⟩) | (go_at_call 64; (with_reducible refine (CF.out _).mono ?_); rintro e w' ⟨rfl, rfl⟩) | (go_at_call 48; (with_reducible refine (FU.out _ (by repeat (first | exact Below.refl _ _ | assumption | apply Below.drew | refine Below.setCell ?_ (by first | omega | (simp; done) | (simp; omega)) _ | refine Below.alloc ?_ (by first | omega | (simp; done) | (simp; omega)) _))).mono ?_); rintro e w1 ⟨rfl, hb1⟩; have q1 := hb1.size; (try simp at q1); obtain ⟨cv0, cv1, cv2⟩ := byteRow_of_string w1 5 Z.1 HZ.out.1 w.heap.size q1; rw [hZ3] at cv0; have cv := Lib.run_convert_string_bytes (P := Tryd.prog) w1 9 96 5 Z.1 Tryd.underlying9 Tryd.underlying96 Tryd.underlying5) | (at_builtin; refine wpList_append_byte _ rfl _ _ 96 rfl w.heap.size 5 i0 (.int .u8 0) Tryd.underlying96 hi0 hz0 hz1 hz2 rfl _ _ rfl ((cv0.alloc _).alloc _) (1 + Dq.length) 1 ⟨w1.heap.size + 1 + 1, 0, none⟩ (.int .u8 46) ?c1 rfl ?c2 rfl rfl ?c3 ?c4 ?_) | fail)
    case c1 => rw [List.length_map, Array.length_toList]; exact hZ3.symm
    case c2 =>
      have := (Boxed.new ((bytesWorld w1 5 Z.1).alloc (Obj.cells #[Value.slice (some ⟨w1.heap.size, 0, none⟩) (1 + Dq.length) (grownCap w1 (1 + Dq.length) 0 5)] 96)) 5 (.int .u8 46)).cell
      rw [World.size_alloc, cv2] at this
      exact this
    case c3 => rw [List.length_map, Array.length_toList]; show Z.1.size + 1 ≤ _; omega
    case c4 => simp; omega
    intro g2 cap2 w2 hown2 hgr2
    have hb2 := ((Boxed.new (bytesWorld w1 5 Z.1) 96 (.slice (some ⟨w1.heap.size, 0, none⟩) (1 + Dq.length) (grownCap w1 (1 + Dq.length) 0 5))).alloc (Obj.cells #[Value.int .u8 46] 5)).kept hgr2 (by rw [cv2]; simp [Value.ownBlock])
    have hBW := ((hb1.trans (cv1.mono q1)).alloc (by rw [cv2]; omega) _).alloc (by rw [World.size_alloc, cv2]; omega) _ |>.grown hgr2 (by rw [World.size_alloc, World.size_alloc, cv2]; omega) (fun k e => by cases e; exact q1)
    rw [cv2] at hb2
    rw [HZ.out.2] at hown2
    have hc2 := hb2.cell
    have hf2 := hb2.frozen
    have bx2 := hb2.set (.slice (some ⟨g2, 0, none⟩) (1 + Dq.length + 1) cap2)
    have rw2 := hown2.set (u' := .slice (some ⟨g2, 0, none⟩) (1 + Dq.length + 1) cap2) hb2 (by decide)
    have bw2 := hBW.setCell (p := ⟨w1.heap.size + 1, 0, none⟩) (by show w.heap.size ≤ w1.heap.size + 1; omega) (.slice (some ⟨g2, 0, none⟩) (1 + Dq.length + 1) cap2)
    clear hown2 hgr2 hBW cv0 cv1 cv2 cv
    go_wp2_with (first | (go_at_call 65; (with_reducible refine (DC.out _).mono ?_); rintro e w3 ⟨rfl, hd0, hd1, hd2, hsz3, hb3⟩) | fail)
    simp only [World.size_setCell] at hd0 hd1 hd2 hsz3
    have bx3 := box_below bx2 hb3
    have rw3 := rw2.below hb3
    have bw3 := bw2.trans (hb3.mono (bw2.size))
    have b12 := hb2.lt
    clear FT hb3 bx2 rw2 bw2 hb2 hc2 hf2 FU hZ2 HZ hZ3 CK CF hs47 DC eq1 hq2 hb1
    have HPL := Lib.hid hPL
    clear hPL
    refine (wpIn_wide (n := 9)).1 ?_
    refine wpIn_rangeFunc_ownG (F := Fence.wide) (n := 9) rfl (by decide) (gf := 90) (lb := #[.pointer (some ⟨w2.heap.size, 0, none⟩), .pointer (some ⟨w2.heap.size + 2, 0, none⟩), .pointer (some ⟨w2.heap.size + 1, 0, none⟩)]) rfl trivial (enters_of Tryd.func90 (by kernel_rfl) rfl)
      (DS.out w2.heap.size w3 (by omega) hd0.cell hd1.cell hd2.cell) Keep3.trans (Keep3.put (by omega)) (Below.refl _ _) (fun _ => rfl)
      (fun pre W => (∃ v, Boxed W (w1.heap.size + 1) 96 v ∧ ByteRow W w.heap.size 5 v (PB.map b8 ++ [Value.int IntKind.u8 46] ++ pre.map b8)) ∧ (Boxed W w2.heap.size 23 (.int .u64 S) ∧ Boxed W (w2.heap.size + 1) 3 (.int .i64 f) ∧ Boxed W (w2.heap.size + 2) 23 (.int .u64 ((2 ^ f - 1 : Nat) : Int))) ∧ Below w.heap.size w W)
      (fun _ _ _ => False)
      (OwnFrom.and (Own.from (byteRow_own w.heap.size (w1.heap.size + 1) 96 5 (fun pre : List UInt8 => PB.map b8 ++ [Value.int IntKind.u8 46] ++ pre.map b8)) _) (OwnFrom.and (OwnFrom.and (Own.from (boxed_own _ _ (fun _ => _)) _) (OwnFrom.and (Own.from (boxed_own _ _ (fun _ => _)) _) (Own.from (boxed_own _ _ (fun _ => _)) _))) (ownFrom_below (Nat.le_refl _) bw3.size)))
      (fun _ _ _ _ _ hs _ _ => hs)
      ⟨⟨_, bx3, by simpa using rw3⟩, ⟨hd0, hd1, hd2⟩, bw3⟩
      (fun x : UInt8 => { tmps := #[Value.int IntKind.i64 (-(S : Int)), Value.int IntKind.i64 f, undef, undef, Value.string { data := #[] }, Value.int IntKind.i64 0, Value.string { data := #[45] }, Value.int IntKind.u64 S, Value.pointer (some { block := w1.heap.size + 1, off := 0 }), Value.int IntKind.i64 (1 + (Dq.length : Int)), Value.int IntKind.u8 (x.toNat : Int), Value.int IntKind.i64 (-(S : Int)), Value.int IntKind.i64 0, Value.bool false, Value.bool false, Value.int IntKind.i64 f, Value.int IntKind.i64 0, Value.bool false, Value.bool false, Value.int IntKind.i64 (-(S : Int)), Value.int IntKind.u64 (IntKind.u64.wrap (-(S : Int))), Value.int IntKind.i64 (-(S : Int)), Value.bool true, Value.int IntKind.i64 (-(S : Int)), Value.int IntKind.i64 S, Value.int IntKind.u64 S, Value.string { data := #[45] }, Value.int IntKind.u64 S, Value.int IntKind.i64 f, Value.int IntKind.u64 q, Value.string { data := Dq.toArray }, Value.string Z.1, Value.slice (some { block := w1.heap.size, off := 0 }) (1 + Dq.length) (grownCap w1 (1 + Dq.length) 0 5), Value.slice (some { block := w1.heap.size, off := 0 }) (1 + Dq.length) (grownCap w1 (1 + Dq.length) 0 5), Value.int IntKind.i64 (1 + (Dq.length : Int)), Value.slice (some { block := w1.heap.size, off := 0 }) (1 + Dq.length) (grownCap w1 (1 + Dq.length) 0 5), Value.slice (some { block := w1.heap.size + 1 + 1, off := 0 }) 1 1, Value.slice (some { block := g2, off := 0 }) (1 + Dq.length + 1) cap2, Value.int IntKind.u64 S, Value.int IntKind.i64 f, Value.func (Fn.func 90) #[] #[Value.pointer (some { block := w2.heap.size, off := 0 }), Value.pointer (some { block := w2.heap.size + 2, off := 0 }), Value.pointer (some { block := w2.heap.size + 1, off := 0 })], Value.int IntKind.u8 (x.toNat : Int), undef, undef, undef, undef, undef, undef, undef, undef, undef, undef, undef, undef, undef, undef, undef], defers := [] }) ?assign ?body ?done ?stop
    case assign =>
      intro l x W K hK
      gi_wp2
      exact hK
    case stop =>
      rintro D c pre W _ _ h _
      exact h.elim
    case body =>
      rintro l pre x W ⟨⟨v, hv, hrow⟩, ⟨bB0, bB1, bB2⟩, hB⟩ hlt
      obtain ⟨g, cap, rfl, _⟩ := row_form hrow
      have hlen : (PB.map b8 ++ [Value.int IntKind.u8 46] ++ pre.map b8).length = 1 + Dq.length + 1 + pre.length := by simp [HPL.out]; omega
      rw [hlen] at hv hrow
      have hc := hv.cell
      have hBs := hB.size
      gi_wp2_with (gi_at_builtin; refine wpListIn_append_byte _ rfl _ _ 96 rfl w.heap.size 5 i0 (.int .u8 0) Tryd.underlying96 hi0 hz0 hz1 hz2 rfl _ _ rfl (hrow.alloc _) (1 + Dq.length + 1 + pre.length) 1 ⟨W.heap.size, 0, none⟩ (.int .u8 (x.toNat : Int)) hlen.symm rfl (Boxed.new W _ _).cell rfl rfl (by rw [hlen]; omega) (by simp; omega) ?_; intro g' cap' w4 hown' hgrow; obtain ⟨hv1, hv2, hr2, hk2, hb4⟩ := box_appended hv (by decide) hrow hBs (by omega) hown' hgrow; have hc1 := hv1.cell; have hf1 := hv1.frozen)
      have k0 := ((bB0.alloc _).kept hgrow (hrow.not_box bB0 (by decide))).other (B' := w1.heap.size + 1) (by omega) (.slice (some ⟨g', 0, none⟩) (1 + Dq.length + 1 + pre.length + 1) cap')
      have k1 := ((bB1.alloc _).kept hgrow (hrow.not_box bB1 (by decide))).other (B' := w1.heap.size + 1) (by omega) (.slice (some ⟨g', 0, none⟩) (1 + Dq.length + 1 + pre.length + 1) cap')
      have k2 := ((bB2.alloc _).kept hgrow (hrow.not_box bB2 (by decide))).other (B' := w1.heap.size + 1) (by omega) (.slice (some ⟨g', 0, none⟩) (1 + Dq.length + 1 + pre.length + 1) cap')
      exact ⟨hk2.from _, Keep3.of_boxes bB0 bB1 bB2 k0 k1 k2, ⟨_, hv2, by rw [List.map_append, ← List.append_assoc]; exact hr2⟩, ⟨k0, k1, k2⟩, hB.trans hb4⟩
    case done =>
      rintro D ys W hD rfl ⟨⟨v, hv, hrow⟩, _, hB⟩ hK
      obtain ⟨g, cap, rfl, hcap⟩ := row_form hrow
      have hlen : (PB.map b8 ++ [Value.int IntKind.u8 46] ++ ys.map b8).length = 1 + Dq.length + 1 + ys.length := by simp [HPL.out]; omega
      rw [hlen] at hv hrow hcap
      have hc := hv.cell
      have hBs := bw3.size
      have hfin := hB.trans (belowK_b (w := w) (Nat.le_refl _) W D _ (.deferred none) (by omega) hK rfl rfl)
      have FT2 := FTP.out
      rcases FZ.out with ⟨z1, z2⟩ | ⟨z1, z2⟩
      · subst z2
        rw [if_pos z1, List.append_nil] at FT2
        have hcv : (convert 96 9 (.slice (some ⟨g, 0, none⟩) (1 + Dq.length) cap)).run Tryd.prog W = .ok (.string ⟨PB.toArray⟩) W := by
          have h := run_convert_bytes_back (P := Tryd.prog) W 96 9 5 ⟨g, 0, none⟩ cap PB Tryd.underlying96 Tryd.underlying5 Tryd.underlying9 (row_bytes (l := PB) (r := [46]) (by simpa [b8] using hrow))
          rw [HPL.out] at h
          exact h
        simp only [List.length_nil, Nat.add_zero] at hcap hc
        have FT3 := Lib.hid FT2
        clear FT2 FTP hrow hv hlen z1 FZ FL
        go_wp2
        refine ⟨by simp, .inl ⟨_, _, rfl, run_takeDeferred hK, ?_⟩⟩
        exact ⟨_, results_tmp2 rfl _ _ _, by show Ending.returned (Value.tuple #[Value.string ⟨PB.toArray⟩, Value.int .i64 0]) = _; rw [FT3.out], hfin⟩
      · rw [if_neg z1] at FT2
        obtain ⟨k, hk⟩ : ∃ k, ys.length = k + 1 := ⟨ys.length - 1, by omega⟩
        have hcv : (convert 96 9 (.slice (some ⟨g, 0, none⟩) (1 + Dq.length + 1 + (k + 1)) cap)).run Tryd.prog W = .ok (.string ⟨(PB ++ 46 :: ys).toArray⟩) W := by
          have h := run_convert_bytes_back (P := Tryd.prog) W 96 9 5 ⟨g, 0, none⟩ cap (PB ++ 46 :: ys) Tryd.underlying96 Tryd.underlying5 Tryd.underlying9 (row_bytes (l := PB ++ 46 :: ys) (r := []) (by simpa [b8] using hrow))
          rw [show (PB ++ 46 :: ys).length = 1 + Dq.length + 1 + (k + 1) by simp [HPL.out]; omega] at h
          exact h
        rw [hk] at hcap hc
        have hk32 : k ≤ 32 := by omega
        have FT3 := Lib.hid FT2
        clear FT2 FTP hrow hv hlen z1 z2 FZ FL hk
        go_wp2
        refine ⟨by simp, .inl ⟨_, _, rfl, run_takeDeferred hK, ?_⟩⟩
        exact ⟨_, results_tmp2 rfl _ _ _, by show Ending.returned (Value.tuple #[Value.string ⟨(PB ++ 46 :: ys).toArray⟩, Value.int .i64 0]) = _; rw [FT3.out], hfin⟩
  · obtain rfl : a = (S : Int) := by omega
    have FT : Hid (ftx (S : Int) f = [] ++ decDigits q ++ (if SM = 0 then [] else 46 :: FR)) := by have := FT.out; rwa [if_neg hn] at this
    obtain ⟨PB, hPB⟩ : ∃ PB, PB = [] ++ decDigits q := ⟨_, rfl⟩
    have FT2 := FT.out
    rw [← hPB] at FT2
    have FTP := Lib.hid FT2
    clear FT2
    obtain ⟨Z, hZ⟩ : ∃ Z : ByteArray × Unit, Z.1 = ⟨PB.toArray⟩ := ⟨(_, ()), rfl⟩
    have hPL : PB.length = (decDigits q).length := by rw [hPB]; simp
    have hZ3 : Z.1.size = PB.length := by rw [hZ]; show PB.toArray.size = _; simp
    have HZ : Hid (Z.1.size ≤ 65536 ∧ (Z.1.data.toList.map fun b => Value.int .u8 (b.toNat : Int)) = PB.map b8) := ⟨by omega, by rw [hZ]; rfl⟩
    have hZ2 : (ByteArray.mk #[] ++ ⟨(decDigits q).toArray⟩) = Z.1 := by rw [hZ, hPB]; exact cat_toArray [] _
    rw [hPL] at hZ3
    clear hS hq hZ htab ga hPB a1
    generalize decDigits q = Dq at *
    have s1 : ¬ 9223372036854775807 < Dq.length := by omega
    refine (callsIn_wide (n := 9)).1 ?_
    refine callsIn_of_wp_marks Tryd.func34 rfl trivial ?_
    simp only [Tryd.ntmps34, List.size_toArray, List.length_cons, List.length_nil, Nat.reduceAdd, Nat.reduceSub, Array.replicate_succ, Array.replicate_zero, List.push_toArray, List.append_toArray, List.nil_append, List.cons_append]
    refine wpIn_wide.2 ?_
    go_wp2_with (first | (go_at_call 63; (with_reducible refine (CK.out _).mono ?_); rintro e w' ⟨rfl, rfl⟩) | (go_at_call 64; (with_reducible refine (CF.out _).mono ?_); rintro e w' ⟨rfl, rfl⟩) | (go_at_call 48; (with_reducible refine (FU.out _ (by repeat (first | exact Below.refl _ _ | assumption | apply Below.drew | refine Below.setCell ?_ (by first | omega | (simp; done) | (simp; omega)) _ | refine Below.alloc ?_ (by first | omega | (simp; done) | (simp; omega)) _))).mono ?_); rintro e w1 ⟨rfl, hb1⟩; have q1 := hb1.size; (try simp at q1); obtain ⟨cv0, cv1, cv2⟩ := byteRow_of_string w1 5 Z.1 HZ.out.1 w.heap.size q1; rw [hZ3] at cv0; have cv := Lib.run_convert_string_bytes (P := Tryd.prog) w1 9 96 5 Z.1 Tryd.underlying9 Tryd.underlying96 Tryd.underlying5) | (at_builtin; refine wpList_append_byte _ rfl _ _ 96 rfl w.heap.size 5 i0 (.int .u8 0) Tryd.underlying96 hi0 hz0 hz1 hz2 rfl _ _ rfl ((cv0.alloc _).alloc _) (Dq.length) 1 ⟨w1.heap.size + 1 + 1, 0, none⟩ (.int .u8 46) ?c1 rfl ?c2 rfl rfl ?c3 ?c4 ?_) | fail)
    case c1 => rw [List.length_map, Array.length_toList]; exact hZ3.symm
    case c2 =>
      have := (Boxed.new ((bytesWorld w1 5 Z.1).alloc (Obj.cells #[Value.slice (some ⟨w1.heap.size, 0, none⟩) (Dq.length) (grownCap w1 (Dq.length) 0 5)] 96)) 5 (.int .u8 46)).cell
      rw [World.size_alloc, cv2] at this
      exact this
    case c3 => rw [List.length_map, Array.length_toList]; show Z.1.size + 1 ≤ _; omega
    case c4 => simp; omega
    intro g2 cap2 w2 hown2 hgr2
    have hb2 := ((Boxed.new (bytesWorld w1 5 Z.1) 96 (.slice (some ⟨w1.heap.size, 0, none⟩) (Dq.length) (grownCap w1 (Dq.length) 0 5))).alloc (Obj.cells #[Value.int .u8 46] 5)).kept hgr2 (by rw [cv2]; simp [Value.ownBlock])
    have hBW := ((hb1.trans (cv1.mono q1)).alloc (by rw [cv2]; omega) _).alloc (by rw [World.size_alloc, cv2]; omega) _ |>.grown hgr2 (by rw [World.size_alloc, World.size_alloc, cv2]; omega) (fun k e => by cases e; exact q1)
    rw [cv2] at hb2
    rw [HZ.out.2] at hown2
    have hc2 := hb2.cell
    have hf2 := hb2.frozen
    have bx2 := hb2.set (.slice (some ⟨g2, 0, none⟩) (Dq.length + 1) cap2)
    have rw2 := hown2.set (u' := .slice (some ⟨g2, 0, none⟩) (Dq.length + 1) cap2) hb2 (by decide)
    have bw2 := hBW.setCell (p := ⟨w1.heap.size + 1, 0, none⟩) (by show w.heap.size ≤ w1.heap.size + 1; omega) (.slice (some ⟨g2, 0, none⟩) (Dq.length + 1) cap2)
    clear hown2 hgr2 hBW cv0 cv1 cv2 cv
    go_wp2_with (first | (go_at_call 65; (with_reducible refine (DC.out _).mono ?_); rintro e w3 ⟨rfl, hd0, hd1, hd2, hsz3, hb3⟩) | fail)
    simp only [World.size_setCell] at hd0 hd1 hd2 hsz3
    have bx3 := box_below bx2 hb3
    have rw3 := rw2.below hb3
    have bw3 := bw2.trans (hb3.mono (bw2.size))
    have b12 := hb2.lt
    clear FT hb3 bx2 rw2 bw2 hb2 hc2 hf2 FU hZ2 HZ hZ3 CK CF hs47 DC eq1 hq2 hb1
    have HPL := Lib.hid hPL
    clear hPL
    refine (wpIn_wide (n := 9)).1 ?_
    refine wpIn_rangeFunc_ownG (F := Fence.wide) (n := 9) rfl (by decide) (gf := 90) (lb := #[.pointer (some ⟨w2.heap.size, 0, none⟩), .pointer (some ⟨w2.heap.size + 2, 0, none⟩), .pointer (some ⟨w2.heap.size + 1, 0, none⟩)]) rfl trivial (enters_of Tryd.func90 (by kernel_rfl) rfl)
      (DS.out w2.heap.size w3 (by omega) hd0.cell hd1.cell hd2.cell) Keep3.trans (Keep3.put (by omega)) (Below.refl _ _) (fun _ => rfl)
      (fun pre W => (∃ v, Boxed W (w1.heap.size + 1) 96 v ∧ ByteRow W w.heap.size 5 v (PB.map b8 ++ [Value.int IntKind.u8 46] ++ pre.map b8)) ∧ (Boxed W w2.heap.size 23 (.int .u64 S) ∧ Boxed W (w2.heap.size + 1) 3 (.int .i64 f) ∧ Boxed W (w2.heap.size + 2) 23 (.int .u64 ((2 ^ f - 1 : Nat) : Int))) ∧ Below w.heap.size w W)
      (fun _ _ _ => False)
      (OwnFrom.and (Own.from (byteRow_own w.heap.size (w1.heap.size + 1) 96 5 (fun pre : List UInt8 => PB.map b8 ++ [Value.int IntKind.u8 46] ++ pre.map b8)) _) (OwnFrom.and (OwnFrom.and (Own.from (boxed_own _ _ (fun _ => _)) _) (OwnFrom.and (Own.from (boxed_own _ _ (fun _ => _)) _) (Own.from (boxed_own _ _ (fun _ => _)) _))) (ownFrom_below (Nat.le_refl _) bw3.size)))
      (fun _ _ _ _ _ hs _ _ => hs)
      ⟨⟨_, bx3, by simpa using rw3⟩, ⟨hd0, hd1, hd2⟩, bw3⟩
      (fun x : UInt8 => { tmps := #[Value.int IntKind.i64 (S : Int), Value.int IntKind.i64 f, undef, undef, Value.string { data := #[] }, Value.int IntKind.i64 0, Value.string { data := #[] }, Value.int IntKind.u64 S, Value.pointer (some { block := w1.heap.size + 1, off := 0 }), Value.int IntKind.i64 (Dq.length : Int), Value.int IntKind.u8 (x.toNat : Int), Value.int IntKind.i64 (S : Int), Value.int IntKind.i64 0, Value.bool false, Value.bool false, Value.int IntKind.i64 f, Value.int IntKind.i64 0, Value.bool false, Value.bool false, Value.int IntKind.i64 (S : Int), Value.int IntKind.u64 S, Value.int IntKind.i64 (S : Int), Value.bool false, undef, undef, undef, Value.string { data := #[] }, Value.int IntKind.u64 S, Value.int IntKind.i64 f, Value.int IntKind.u64 q, Value.string { data := Dq.toArray }, Value.string Z.1, Value.slice (some { block := w1.heap.size, off := 0 }) (Dq.length) (grownCap w1 (Dq.length) 0 5), Value.slice (some { block := w1.heap.size, off := 0 }) (Dq.length) (grownCap w1 (Dq.length) 0 5), Value.int IntKind.i64 (Dq.length : Int), Value.slice (some { block := w1.heap.size, off := 0 }) (Dq.length) (grownCap w1 (Dq.length) 0 5), Value.slice (some { block := w1.heap.size + 1 + 1, off := 0 }) 1 1, Value.slice (some { block := g2, off := 0 }) (Dq.length + 1) cap2, Value.int IntKind.u64 S, Value.int IntKind.i64 f, Value.func (Fn.func 90) #[] #[Value.pointer (some { block := w2.heap.size, off := 0 }), Value.pointer (some { block := w2.heap.size + 2, off := 0 }), Value.pointer (some { block := w2.heap.size + 1, off := 0 })], Value.int IntKind.u8 (x.toNat : Int), undef, undef, undef, undef, undef, undef, undef, undef, undef, undef, undef, undef, undef, undef, undef], defers := [] }) ?assign ?body ?done ?stop
    case assign =>
      intro l x W K hK
      gi_wp2
      exact hK
    case stop =>
      rintro D c pre W _ _ h _
      exact h.elim
    case body =>
      rintro l pre x W ⟨⟨v, hv, hrow⟩, ⟨bB0, bB1, bB2⟩, hB⟩ hlt
      obtain ⟨g, cap, rfl, _⟩ := row_form hrow
      have hlen : (PB.map b8 ++ [Value.int IntKind.u8 46] ++ pre.map b8).length = Dq.length + 1 + pre.length := by simp [HPL.out]; omega
      rw [hlen] at hv hrow
      have hc := hv.cell
      have hBs := hB.size
      gi_wp2_with (gi_at_builtin; refine wpListIn_append_byte _ rfl _ _ 96 rfl w.heap.size 5 i0 (.int .u8 0) Tryd.underlying96 hi0 hz0 hz1 hz2 rfl _ _ rfl (hrow.alloc _) (Dq.length + 1 + pre.length) 1 ⟨W.heap.size, 0, none⟩ (.int .u8 (x.toNat : Int)) hlen.symm rfl (Boxed.new W _ _).cell rfl rfl (by rw [hlen]; omega) (by simp; omega) ?_; intro g' cap' w4 hown' hgrow; obtain ⟨hv1, hv2, hr2, hk2, hb4⟩ := box_appended hv (by decide) hrow hBs (by omega) hown' hgrow; have hc1 := hv1.cell; have hf1 := hv1.frozen)
      have k0 := ((bB0.alloc _).kept hgrow (hrow.not_box bB0 (by decide))).other (B' := w1.heap.size + 1) (by omega) (.slice (some ⟨g', 0, none⟩) (Dq.length + 1 + pre.length + 1) cap')
      have k1 := ((bB1.alloc _).kept hgrow (hrow.not_box bB1 (by decide))).other (B' := w1.heap.size + 1) (by omega) (.slice (some ⟨g', 0, none⟩) (Dq.length + 1 + pre.length + 1) cap')
      have k2 := ((bB2.alloc _).kept hgrow (hrow.not_box bB2 (by decide))).other (B' := w1.heap.size + 1) (by omega) (.slice (some ⟨g', 0, none⟩) (Dq.length + 1 + pre.length + 1) cap')
      exact ⟨hk2.from _, Keep3.of_boxes bB0 bB1 bB2 k0 k1 k2, ⟨_, hv2, by rw [List.map_append, ← List.append_assoc]; exact hr2⟩, ⟨k0, k1, k2⟩, hB.trans hb4⟩
    case done =>
      rintro D ys W hD rfl ⟨⟨v, hv, hrow⟩, _, hB⟩ hK
      obtain ⟨g, cap, rfl, hcap⟩ := row_form hrow
      have hlen : (PB.map b8 ++ [Value.int IntKind.u8 46] ++ ys.map b8).length = Dq.length + 1 + ys.length := by simp [HPL.out]; omega
      rw [hlen] at hv hrow hcap
      have hc := hv.cell
      have hBs := bw3.size
      have hfin := hB.trans (belowK_b (w := w) (Nat.le_refl _) W D _ (.deferred none) (by omega) hK rfl rfl)
      have FT2 := FTP.out
      rcases FZ.out with ⟨z1, z2⟩ | ⟨z1, z2⟩
      · subst z2
        rw [if_pos z1, List.append_nil] at FT2
        have hcv : (convert 96 9 (.slice (some ⟨g, 0, none⟩) (Dq.length) cap)).run Tryd.prog W = .ok (.string ⟨PB.toArray⟩) W := by
          have h := run_convert_bytes_back (P := Tryd.prog) W 96 9 5 ⟨g, 0, none⟩ cap PB Tryd.underlying96 Tryd.underlying5 Tryd.underlying9 (row_bytes (l := PB) (r := [46]) (by simpa [b8] using hrow))
          rw [HPL.out] at h
          exact h
        simp only [List.length_nil, Nat.add_zero] at hcap hc
        have FT3 := Lib.hid FT2
        clear FT2 FTP hrow hv hlen z1 FZ FL
        go_wp2
        refine ⟨by simp, .inl ⟨_, _, rfl, run_takeDeferred hK, ?_⟩⟩
        exact ⟨_, results_tmp2 rfl _ _ _, by show Ending.returned (Value.tuple #[Value.string ⟨PB.toArray⟩, Value.int .i64 0]) = _; rw [FT3.out], hfin⟩
      · rw [if_neg z1] at FT2
        obtain ⟨k, hk⟩ : ∃ k, ys.length = k + 1 := ⟨ys.length - 1, by omega⟩
        have hcv : (convert 96 9 (.slice (some ⟨g, 0, none⟩) (Dq.length + 1 + (k + 1)) cap)).run Tryd.prog W = .ok (.string ⟨(PB ++ 46 :: ys).toArray⟩) W := by
          have h := run_convert_bytes_back (P := Tryd.prog) W 96 9 5 ⟨g, 0, none⟩ cap (PB ++ 46 :: ys) Tryd.underlying96 Tryd.underlying5 Tryd.underlying9 (row_bytes (l := PB ++ 46 :: ys) (r := []) (by simpa [b8] using hrow))
          rw [show (PB ++ 46 :: ys).length = Dq.length + 1 + (k + 1) by simp [HPL.out]; omega] at h
          exact h
        rw [hk] at hcap hc
        have hk32 : k ≤ 32 := by omega
        have FT3 := Lib.hid FT2
        clear FT2 FTP hrow hv hlen z1 z2 FZ FL hk
        go_wp2
        refine ⟨by simp, .inl ⟨_, _, rfl, run_takeDeferred hK, ?_⟩⟩
        exact ⟨_, results_tmp2 rfl _ _ _, by show Ending.returned (Value.tuple #[Value.string ⟨(PB ++ 46 :: ys).toArray⟩, Value.int .i64 0]) = _; rw [FT3.out], hfin⟩
end Go.Proofs.YtmdjpnjpnfkihaaDoor
namespace Go.Proofs.YtmdjpnjpnfkihaaDoor
open Go.RowKit

theorem sd_mul (n d k : Int) : n - sd (ng n != ng d) k * d = sd (ng n) (ab n - ab d * k) := by
  have en : n = sd (ng n) (ab n) := by unfold sd ng ab; by_cases h : n < 0 <;> simp [h] <;> omega
  have ed : d = sd (ng d) (ab d) := by unfold sd ng ab; by_cases h : d < 0 <;> simp [h] <;> omega
  generalize ng n = s at *
  generalize ng d = t at *
  generalize ab n = A at *
  generalize ab d = D at *
  subst en
  subst ed
  cases s <;> cases t <;> simp [sd, Int.mul_comm D k, Int.neg_mul, Int.mul_neg] <;> omega
theorem up_cases (n d : Int) : (up n d = true ∧ (ab d < 2 * (ab n % ab d) ∨ (2 * (ab n % ab d) = ab d ∧ ab n / ab d % 2 = 1))) ∨ (up n d = false ∧ (2 * (ab n % ab d) < ab d ∨ (2 * (ab n % ab d) = ab d ∧ ab n / ab d % 2 ≠ 1))) := by
  unfold up
  generalize 2 * (ab n % ab d) = r
  generalize ab n / ab d = q
  generalize ab d = D
  rcases Int.lt_trichotomy r D with h | h | h
  · rw [sg_lt h]; simp; omega
  · rw [h, sg_eq]
    by_cases hq : q % 2 = 1
    · simp [hq]
    · simp [hq]
  · have e : sg r D = 1 := by unfold sg; rw [if_neg (by omega), if_pos h]
    rw [e]; simp; omega
theorem half_math (n d : Int) (h0 : d ≠ 0) : 2 * ((n - rd n d * d).natAbs : Int) ≤ d.natAbs ∧ (2 * ((n - rd n d * d).natAbs : Int) = d.natAbs → rd n d % 2 = 0) := by
  have dp : 0 < ab d := by unfold ab; omega
  have ed : (d.natAbs : Int) = ab d := rfl
  rw [ed]
  have r0 := Int.emod_nonneg (ab n) (show ab d ≠ 0 by omega)
  have r1 := Int.emod_lt_of_pos (ab n) dp
  have e := Int.mul_ediv_add_emod (ab n) (ab d)
  have en : ∀ s x, (sd s x).natAbs = x.natAbs := fun s x => by cases s <;> simp [sd]
  have e2 : ∀ s x, (sd s x) % 2 = 0 ↔ x % 2 = 0 := fun s x => by cases s <;> simp [sd] <;> omega
  have U := up_cases n d
  unfold rd
  rw [sd_mul, en, e2]
  generalize ab n / ab d = q at *
  generalize ab n % ab d = r at *
  generalize ab n = A at *
  rcases U with ⟨u, h⟩ | ⟨u, h⟩ <;> rw [u] <;> simp only [if_true, if_false, Bool.false_eq_true] <;> (try rw [Int.mul_add, Int.mul_one]) <;> generalize ab d * q = m at * <;> omega
theorem rd_neg (n d : Int) (h0 : d ≠ 0) : rd (-n) d = -rd n d := by
  have ea : ab (-n) = ab n := by unfold ab; omega
  unfold rd up
  rw [ea]
  by_cases h : n = 0
  · subst h
    have z : ab 0 = 0 := rfl
    have dp : 0 < ab d := by unfold ab; omega
    rw [z, Int.zero_ediv, Int.zero_emod, Int.mul_zero, sg_lt dp]
    cases (ng d) <;> simp [sd]
  · have en : ng (-n) = !ng n := by unfold ng; by_cases k : n < 0 <;> simp [k] <;> omega
    rw [en]
    generalize ng n = s
    generalize ng d = t
    cases s <;> cases t <;> simp [sd]
end Go.Proofs.YtmdjpnjpnfkihaaDoor
namespace Go.Proofs.YtmdjpnjpnfkihaaDoor
open Go.RowKit

theorem rd_mono {n m d : Int} (hd : 0 < d) (h : n ≤ m) : rd n d ≤ rd m d := by
  have a := (half_math n d (by omega)).1
  have b := (half_math m d (by omega)).1
  by_cases l2 : rd n d ≤ rd m d
  · exact l2
  · exfalso
    have l : rd m d < rd n d := by omega
    by_cases e : n = m
    · subst e; omega
    · have k : (rd m d + 1) * d ≤ rd n d * d := Int.mul_le_mul_of_nonneg_right l (by omega)
      rw [Int.add_mul, Int.one_mul] at k
      generalize rd m d * d = x at *
      generalize rd n d * d = y at *
      omega
/-- A text is not empty, and begins with the sign just where the word is below 0. -/
theorem dec_first : ∀ n : Nat, ∃ d r, d < 10 ∧ Lib.decDigits n = dg8 d :: r := by
  intro n
  induction n using Nat.strongRecOn with
  | _ n ih =>
    by_cases h : n < 10
    · exact ⟨n, [], h, dec_small h⟩
    · obtain ⟨d, r, h1, h2⟩ := ih (n / 10) (by omega)
      exact ⟨d, r ++ [dg8 (n % 10)], h1, by rw [dec_big h, h2]; rfl⟩
theorem ftx_first (a : Int) (f : Nat) : ∃ (z : UInt8) (r : List UInt8), ftx a f = z :: r ∧ (decide ((z.toNat : Int) = 45) = decide (a < 0)) := by
  obtain ⟨d, r, h1, h2⟩ := dec_first (a.natAbs / 2 ^ f)
  unfold ftx
  by_cases h : a < 0
  · exact ⟨45, _, by rw [if_pos h]; rfl, by simp [h]⟩
  · refine ⟨dg8 d, _, by rw [if_neg h, h2]; rfl, ?_⟩
    rw [dg8_nat h1]
    have e1 : ¬ ((48 + d : Nat) : Int) = 45 := by omega
    rw [decide_eq_false e1, decide_eq_false h]
theorem order_ex {A B c : Int} {t : Nat} (ga : wd A = true) (gb : wd B = true) (gc : wd c = true) (c0 : 0 < c) (l : A ≤ B) (tb : t < 25) : ∃ x e y g u h v j : Int,
    (∀ W : World, Calls Tryd.prog 31 #[.int .i64 A, .int .i64 c, .int .i64 (8 + (t : Int))] W fun en w' => en = .returned (.tuple #[.int .i64 x, .int .i64 e]) ∧ Below W.heap.size W w') ∧ (∀ W : World, Calls Tryd.prog 31 #[.int .i64 B, .int .i64 c, .int .i64 (8 + (t : Int))] W fun en w' => en = .returned (.tuple #[.int .i64 y, .int .i64 g]) ∧ Below W.heap.size W w') ∧ (∀ W : World, Calls Tryd.prog 32 #[.int .i64 A, .int .i64 c, .int .i64 (8 + (t : Int))] W fun en w' => en = .returned (.tuple #[.int .i64 u, .int .i64 h]) ∧ Below W.heap.size W w') ∧ (∀ W : World, Calls Tryd.prog 32 #[.int .i64 B, .int .i64 c, .int .i64 (8 + (t : Int))] W fun en w' => en = .returned (.tuple #[.int .i64 v, .int .i64 j]) ∧ Below W.heap.size W w') ∧
    (e = 0 ∨ e = 3) ∧ (g = 0 ∨ g = 3) ∧ (h = 0 ∨ h = 3) ∧ (j = 0 ∨ j = 3) ∧ (e = 0 → g = 0 → x ≤ y) ∧ (h = 0 → j = 0 → u ≤ v) := by
  have gf : fb ((8 + t : Nat) : Int) = true := fb_mk ⟨by omega, by omega⟩
  have ef : ((8 + t : Nat) : Int) = 8 + (t : Int) := by omega
  have hp : (0 : Int) < 2 ^ (8 + t) := Int.pow_pos (by decide)
  have z : ∀ q : Int, te q = 0 ∨ te q = 3 := fun q => by unfold te; split <;> simp
  have w0 : ∀ q : Int, te q = 0 → tw q = q := fun q h => by unfold te at h; unfold tw; split at h <;> simp_all
  refine ⟨tw (rd (A * c) (2 ^ (8 + t))), te (rd (A * c) (2 ^ (8 + t))), tw (rd (B * c) (2 ^ (8 + t))), te (rd (B * c) (2 ^ (8 + t))), tw (rd (A * 2 ^ (8 + t)) c), te (rd (A * 2 ^ (8 + t)) c), tw (rd (B * 2 ^ (8 + t)) c), te (rd (B * 2 ^ (8 + t)) c), fun W => ?_, fun W => ?_, fun W => ?_, fun W => ?_, z _, z _, z _, z _, fun h1 h2 => ?_, fun h1 h2 => ?_⟩
  · have := fxmul_any A c (8 + t) W ga gc gf; rwa [ef] at this
  · have := fxmul_any B c (8 + t) W gb gc gf; rwa [ef] at this
  · have := fxdiv_any A c (8 + t) W ga gc gf (by omega); rwa [ef] at this
  · have := fxdiv_any B c (8 + t) W gb gc gf (by omega); rwa [ef] at this
  · rw [w0 _ h1, w0 _ h2]; exact rd_mono hp (Int.mul_le_mul_of_nonneg_right l (by omega))
  · rw [w0 _ h1, w0 _ h2]; exact rd_mono c0 (Int.mul_le_mul_of_nonneg_right l (by omega))

set_option maxRecDepth 100000 in
set_option maxHeartbeats 8000000 in
theorem order_any (b off len cap : Nat) (es : Nat → Fl) (w : World) (_hl : len ≤ 9223372036854775807) (hb : b < w.heap.size) (hT : ∀ i, i < len → FlAt w b (off + i * 8) (es i)) (hok : ∀ i, i < len → (es i).ok) (htab : Hid (Lib.TabIs Tryd.prog w "internal/strconv.uint64pow10" .u64 Lib.pow10Tab)) :
    Calls Tryd.prog 4 #[.slice (some ⟨b, off, none⟩) len cap] w fun e w' => e = .returned (.bool true) ∧ Below w.heap.size w w' := by
  have HT := Lib.hid (And.intro hT hok)
  clear hT hok
  go_enter Tryd.func4, Tryd.ntmps4
  go_wp2
  go_loopw [3] (fun s3 wr => ∃ k : Nat, k ≤ 30 ∧ s3 = .int .i64 k ∧ Below w.heap.size w wr) (fun s3 _ => 30 - (intOf s3).toNat)
  case atStart => exact ⟨0, by omega, rfl, Below.refl _ _⟩
  case round =>
    obtain ⟨k, hk, rfl, hB⟩ := hrel
    have hBs := hB.size
    by_cases g : k + 1 < len ∧ k < 30
    · obtain ⟨g1, g2⟩ := g
      obtain ⟨t1, t2, t3, t4, t5, t6, t7, t8⟩ := (HT.out.1 k (by omega)).below hB hb
      obtain ⟨m1, m2, m3, m4, m5, m6, m7, m8⟩ := (HT.out.1 (k + 1) g1).below hB hb
      generalize es k = p at *
      generalize es (k + 1) = pn at *
      have MA := fun W : World => may_any p.a W
      have MB := fun W : World => may_any pn.a W
      have MC := fun W : World => may_any p.b W
      have FF := fun W : World => ff_any p.f W
      obtain ⟨t, ht⟩ : ∃ t : Nat, (t : Int) = p.f % 18446744073709551616 % 25 := ⟨(p.f % 18446744073709551616 % 25).toNat, by omega⟩
      have tb : t < 25 := by omega
      rw [← ht] at FF
      have FF := Lib.hid FF
      clear ht
      cases ga : wd p.a with
      | false =>
        rw [ga] at MA
        have MA := Lib.hid MA
        clear ga
        go_wp2_with (first | (go_at_call 29; (with_reducible refine (FF.out _).mono ?_); rintro e w' ⟨rfl, rfl⟩) | (go_at_call 30; (with_reducible refine (MA.out _).mono ?_); rintro e w' ⟨rfl, rfl⟩) | fail)
        refine ⟨⟨k + 1, by omega, by go_num, ?_⟩, by simp [intOf]; omega⟩
        repeat (first | exact Below.refl _ _ | assumption | apply Below.drew | refine Below.setCell ?_ (by first | omega | (simp; done) | (simp; omega)) _ | refine Below.alloc ?_ (by first | omega | (simp; done) | (simp; omega)) _ | refine Below.trans ?_ (hB.mono (by first | omega | (simp; done) | (simp; omega))))
      | true =>
      cases gb : wd pn.a with
      | false =>
        rw [ga] at MA
        rw [gb] at MB
        have MA := Lib.hid MA
        have MB := Lib.hid MB
        clear ga gb
        go_wp2_with (first | (go_at_call 29; (with_reducible refine (FF.out _).mono ?_); rintro e w' ⟨rfl, rfl⟩) | (go_at_call 30; (with_reducible refine (MA.out _).mono ?_); rintro e w' ⟨rfl, rfl⟩) | (go_at_call 30; (with_reducible refine (MB.out _).mono ?_); rintro e w' ⟨rfl, rfl⟩) | fail)
        refine ⟨⟨k + 1, by omega, by go_num, ?_⟩, by simp [intOf]; omega⟩
        repeat (first | exact Below.refl _ _ | assumption | apply Below.drew | refine Below.setCell ?_ (by first | omega | (simp; done) | (simp; omega)) _ | refine Below.alloc ?_ (by first | omega | (simp; done) | (simp; omega)) _ | refine Below.trans ?_ (hB.mono (by first | omega | (simp; done) | (simp; omega))))
      | true =>
      cases gc : wd p.b with
      | false =>
        rw [ga] at MA
        rw [gb] at MB
        rw [gc] at MC
        have MA := Lib.hid MA
        have MB := Lib.hid MB
        have MC := Lib.hid MC
        clear ga gb gc
        go_wp2_with (first | (go_at_call 29; (with_reducible refine (FF.out _).mono ?_); rintro e w' ⟨rfl, rfl⟩) | (go_at_call 30; (with_reducible refine (MA.out _).mono ?_); rintro e w' ⟨rfl, rfl⟩) | (go_at_call 30; (with_reducible refine (MB.out _).mono ?_); rintro e w' ⟨rfl, rfl⟩) | (go_at_call 30; (with_reducible refine (MC.out _).mono ?_); rintro e w' ⟨rfl, rfl⟩) | fail)
        refine ⟨⟨k + 1, by omega, by go_num, ?_⟩, by simp [intOf]; omega⟩
        repeat (first | exact Below.refl _ _ | assumption | apply Below.drew | refine Below.setCell ?_ (by first | omega | (simp; done) | (simp; omega)) _ | refine Below.alloc ?_ (by first | omega | (simp; done) | (simp; omega)) _ | refine Below.trans ?_ (hB.mono (by first | omega | (simp; done) | (simp; omega))))
      | true =>
        rw [ga] at MA
        rw [gb] at MB
        rw [gc] at MC
        have MA := Lib.hid MA
        have MB := Lib.hid MB
        have MC := Lib.hid MC
        by_cases c0 : p.b ≤ 0
        · clear ga gb gc
          go_wp2_with (first | (go_at_call 29; (with_reducible refine (FF.out _).mono ?_); rintro e w' ⟨rfl, rfl⟩) | (go_at_call 30; (with_reducible refine (MA.out _).mono ?_); rintro e w' ⟨rfl, rfl⟩) | (go_at_call 30; (with_reducible refine (MB.out _).mono ?_); rintro e w' ⟨rfl, rfl⟩) | (go_at_call 30; (with_reducible refine (MC.out _).mono ?_); rintro e w' ⟨rfl, rfl⟩) | fail)
          refine ⟨⟨k + 1, by omega, by go_num, ?_⟩, by simp [intOf]; omega⟩
          repeat (first | exact Below.refl _ _ | assumption | apply Below.drew | refine Below.setCell ?_ (by first | omega | (simp; done) | (simp; omega)) _ | refine Below.alloc ?_ (by first | omega | (simp; done) | (simp; omega)) _ | refine Below.trans ?_ (hB.mono (by first | omega | (simp; done) | (simp; omega))))
        · have cp : 0 < p.b := by omega
          have HG := Lib.hid (And.intro ga (And.intro gb (And.intro gc cp)))
          clear ga gb gc cp
          go_upto_if 70 with (first | (go_at_call 29; (with_reducible refine (FF.out _).mono ?_); rintro e w' ⟨rfl, rfl⟩) | (go_at_call 30; (with_reducible refine (MA.out _).mono ?_); rintro e w' ⟨rfl, rfl⟩) | (go_at_call 30; (with_reducible refine (MB.out _).mono ?_); rintro e w' ⟨rfl, rfl⟩) | (go_at_call 30; (with_reducible refine (MC.out _).mono ?_); rintro e w' ⟨rfl, rfl⟩) | fail)
          go_cut [5, 6] (fun s5 s6 wx => ∃ A B : Int, s5 = .int .i64 A ∧ s6 = .int .i64 B ∧ A ≤ B ∧ wd A = true ∧ wd B = true ∧ wx = wr)
          case first =>
            by_cases sw : pn.a < p.a
            · go_wp2_with fail
              go_meet
              exact ⟨_, _, rfl, rfl, by omega, HG.out.2.1, HG.out.1, rfl⟩
            · go_wp2_with fail
              go_meet
              exact ⟨_, _, rfl, rfl, by omega, HG.out.1, HG.out.2.1, rfl⟩
          case rest =>
            obtain ⟨A, B, rfl, rfl, hAB, hA, hBw, rfl⟩ := hcut
            obtain ⟨x, e, y, g, u, h, v, j, M1, M2, D1, D2, e1, g1, h1, j1, hxy, huv⟩ := order_ex hA hBw HG.out.2.2.1 HG.out.2.2.2 hAB tb
            obtain ⟨z, r, hz, hzs⟩ := ftx_first A (8 + t)
            have TX : Hid (∀ W : World, Below w.heap.size w W → Calls Tryd.prog 34 #[.int .i64 A, .int .i64 (8 + (t : Int))] W fun e w' => e = .returned (.tuple #[.string ⟨(z :: r).toArray⟩, .int .i64 0]) ∧ Below W.heap.size W w') := fun W hW => by
              have := ftext_any A (8 + t) W hA (by omega) (by omega) (Lib.tabBelow_of_tabIs htab.out _ hW)
              rw [hz, show ((8 + t : Nat) : Int) = 8 + (t : Int) by omega] at this
              exact this
            have M1 := Lib.hid M1
            have M2 := Lib.hid M2
            have D1 := Lib.hid D1
            have D2 := Lib.hid D2
            have HZ := Lib.hid hzs
            have HE := Lib.hid (And.intro e1 (And.intro g1 (And.intro h1 (And.intro j1 (And.intro hxy huv)))))
            clear hA hBw hAB hz hzs e1 g1 h1 j1 hxy huv MA MB MC FF
            generalize hc : p.b = c at *
            clear t1 t2 t3 t4 t5 t6 t7 t8 m1 m2 m3 m4 m5 m6 m7 m8 hc
            obtain ⟨e1, g1, h1, j1, hxy, huv⟩ := HE.out
            clear HE
            have W1 : (e = 3 ∨ e = 0 ∧ g = 3 ∨ e = 0 ∧ g = 0 ∧ x ≤ y) := by omega
            have W2 : (h = 3 ∨ h = 0 ∧ j = 3 ∨ h = 0 ∧ j = 0 ∧ u ≤ v) := by omega
            clear e1 g1 h1 j1 hxy huv
            rcases W1 with rfl | ⟨rfl, rfl⟩ | ⟨rfl, rfl, hxy⟩
            all_goals rcases W2 with rfl | ⟨rfl, rfl⟩ | ⟨rfl, rfl, huv⟩
            all_goals
              go_wp2_with (first | (go_at_call 31; (with_reducible refine (M1.out _).mono ?_); rintro e w1 ⟨rfl, hb1⟩; have q1 := hb1.size; (try simp at q1)) | (go_at_call 31; (with_reducible refine (M2.out _).mono ?_); rintro e w2 ⟨rfl, hb2⟩; have q2 := hb2.size; (try simp at q2)) | (go_at_call 32; (with_reducible refine (D1.out _).mono ?_); rintro e w3 ⟨rfl, hb3⟩; have q3 := hb3.size; (try simp at q3)) | (go_at_call 32; (with_reducible refine (D2.out _).mono ?_); rintro e w4 ⟨rfl, hb4⟩; have q4 := hb4.size; (try simp at q4)) | (go_at_call 34; (with_reducible refine (TX.out _ (by repeat (first | exact Below.refl _ _ | assumption | apply Below.drew | refine Below.setCell ?_ (by first | omega | (simp; done) | (simp; omega)) _ | refine Below.alloc ?_ (by first | omega | (simp; done) | (simp; omega)) _ | refine Below.trans ?_ (hb4.mono (by first | omega | (simp; done) | (simp; omega))) | refine Below.trans ?_ (hb3.mono (by first | omega | (simp; done) | (simp; omega))) | refine Below.trans ?_ (hb2.mono (by first | omega | (simp; done) | (simp; omega))) | refine Below.trans ?_ (hb1.mono (by first | omega | (simp; done) | (simp; omega))) | refine Below.trans ?_ (hB.mono (by first | omega | (simp; done) | (simp; omega)))))).mono ?_); rintro e w5 ⟨rfl, hb5⟩; have q5 := hb5.size; (try simp at q5)) | (go_at_call 33; (with_reducible refine (num2_any _ _).mono ?_); rintro e w' ⟨rfl, rfl⟩) | fail)
            all_goals
              first
              | (rename_i hh
                 have hh3 : (((r.length : Int) + 1 == 0) = true ∨ (!(((z.toNat : Int) == 45) == decide (A < 0))) = true) := hh
                 exfalso
                 rcases hh3 with hh3 | hh3
                 · rw [beq_iff_eq] at hh3
                   omega
                 · have h45 : ((z.toNat : Int) == 45) = decide (A < 0) := by rw [← HZ.out]; by_cases q9 : (z.toNat : Int) = 45 <;> simp [q9]
                   rw [h45] at hh3
                   simp at hh3)
              | (refine ⟨⟨k + 1, by omega, by go_num, ?_⟩, by simp [intOf]; omega⟩
                 repeat (first | exact Below.refl _ _ | assumption | apply Below.drew | refine Below.setCell ?_ (by first | omega | (simp; done) | (simp; omega)) _ | refine Below.alloc ?_ (by first | omega | (simp; done) | (simp; omega)) _ | refine Below.trans ?_ (hb5.mono (by first | omega | (simp; done) | (simp; omega))) | refine Below.trans ?_ (hb4.mono (by first | omega | (simp; done) | (simp; omega))) | refine Below.trans ?_ (hb3.mono (by first | omega | (simp; done) | (simp; omega))) | refine Below.trans ?_ (hb2.mono (by first | omega | (simp; done) | (simp; omega))) | refine Below.trans ?_ (hb1.mono (by first | omega | (simp; done) | (simp; omega))) | refine Below.trans ?_ (hB.mono (by first | omega | (simp; done) | (simp; omega)))))
    · by_cases g1 : k + 1 < len
      · have g2 : 30 ≤ k := by omega
        clear g
        go_wp2_with (go_at_call 35; (with_reducible refine (fwakes_any _).mono ?_); rintro e w9 ⟨rfl, hb9⟩)
        go_ret
        exact ⟨rfl, hB.trans (hb9.mono hBs)⟩
      · have g2 : len ≤ k + 1 := by omega
        clear g g1
        go_wp2_with (go_at_call 35; (with_reducible refine (fwakes_any _).mono ?_); rintro e w9 ⟨rfl, hb9⟩)
        go_ret
        exact ⟨rfl, hB.trans (hb9.mono hBs)⟩
end Go.Proofs.YtmdjpnjpnfkihaaDoor
