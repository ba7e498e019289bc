/-
  The references' rational numbers: made, in lowest terms.
  The references' rational numbers: the nearest whole one.
  The references' rational numbers: denominators, comparisons.
  Shifts and products of whole numbers.
  Quotients by a divisor above 0: the rounded one is the lower one, or 1 more; both are wide numbers.
  Rounded quotients of words: half of the divisor away at most.
  Rounded quotients of words: they are words, but for one.
  Shifted and rounded back: whole numbers.
  Words: what the calls of package fx do, said of whole numbers.
  Rounded quotients: of multiples, of negatives.
-/
import Derived.Test.YtldchepfcgbpiaaGreatM01
import Derived.Test.YtldchepfcgbpiaaGreatM03
import Derived.Test.YtldchepfcgbpiaaGreatM07
import Derived.Test.YtldchepfcgbpiaaGreatM09
namespace Go.Proofs.YtldchepfcgbpiaaGreat
open Go.RowKit

theorem mid_gcd {n d : Nat} (h0 : d ≠ 0) (ld : d < MID) : Nat.gcd n d ≠ 0 ∧ Nat.gcd n d < MID := by
  have p := Nat.gcd_pos_of_pos_right n (Nat.pos_of_ne_zero h0)
  have l := Nat.gcd_le_right n (Nat.pos_of_ne_zero h0)
  exact ⟨by omega, Nat.lt_of_le_of_lt l ld⟩
abbrev Rv (b : Bool) (m d : Value) : Value := .agg #[.bool b, m, d]
/-- A rational number p / q comes out, its slices written out. -/
def SomeR (w : World) (p : Int) (q : Nat) (e : Ending) (w' : World) : Prop := ∃ b o1 l1 c1 o2 l2 c2, e = .returned (Rv b (.slice o1 l1 c1) (.slice o2 l2 c2)) ∧ Hid (b = decide (p < 0) ∧ IsN w' (.slice o1 l1 c1) p.natAbs ∧ IsN w' (.slice o2 l2 c2) q) ∧ Below w.heap.size w w'
theorem IsN.store3 {w : World} {v u0 u1 u2 : Value} {n B : Nat} {b0 : Bool} {s1 s2 : Value} (h : IsN w v n) (e0 : w.cell? ⟨B, 0, none⟩ = some (.bool b0)) (e1 : w.cell? ⟨B, 1, none⟩ = some s1) (e2 : w.cell? ⟨B, 2, none⟩ = some s2) (n1 : ∀ x, s1 ≠ .int .u64 x := by intro x; simp) (n2 : ∀ x, s2 ≠ .int .u64 x := by intro x; simp) : IsN (((w.setCell ⟨B, 0, none⟩ u0).setCell ⟨B, 1, none⟩ u1).setCell ⟨B, 2, none⟩ u2) v n :=
  ((h.store e0 (by simp)).store ((World.cell?_setCell_other _ _ _ _ (by simp)).trans e1) n1).store ((World.cell?_setCell_other _ _ _ _ (by simp)).trans ((World.cell?_setCell_other _ _ _ _ (by simp)).trans e2)) n2
theorem tdiv_sign {n : Int} {b : Bool} (hb : b = decide (n < 0)) (g : Nat) : n.tdiv (g : Int) = if b = true then -((n.natAbs / g : Nat) : Int) else ((n.natAbs / g : Nat) : Int) := by
  rcases Int.lt_or_le n 0 with h | h
  · rw [hb, if_pos (by simpa using h)]
    have e : n = -((n.natAbs : Nat) : Int) := by omega
    conv => lhs; rw [e]
    rw [Int.neg_tdiv, Int.ofNat_tdiv]
  · rw [hb, if_neg (by simp; omega)]
    have e : n = ((n.natAbs : Nat) : Int) := by omega
    conv => lhs; rw [e]
    rw [Int.ofNat_tdiv]
set_option maxRecDepth 100000 in
set_option maxHeartbeats 8000000 in
/-- Make -/
theorem make_any (x vd : Value) (n : Int) (d : Nat) (w : World) (hx : IsI w x n) (hd : IsN w vd d) (gn : n.natAbs < MID) (gd : d < MID) (h0 : d ≠ 0) : Calls Tryz.prog 37 #[x, vd] w (SomeR w (n.tdiv (Nat.gcd n.natAbs d : Nat)) (d / Nat.gcd n.natAbs d)) := by
  obtain ⟨ba, oa, la, ca, rfl, Ha⟩ := hx.open
  have G := Lib.hid (And.intro gn (And.intro gd (And.intro h0 (mid_gcd (n := n.natAbs) h0 gd))))
  have HD := Lib.hid hd
  clear gn gd h0 hd hx
  go_enter Tryz.func37, Tryz.ntmps37
  go_wp2_with (first | (go_at_call 61; (with_reducible refine (ngcd_any _ _ n.natAbs d _ (Ha.out.2.1.below (by repeat (first | exact Below.refl _ _ | assumption | apply Below.drew | refine Below.setCell ?_ (by first | omega | (simp; done) | (simp; omega)) _ | refine Below.alloc ?_ (by first | omega | (simp; done) | (simp; omega)) _))) (HD.out.below (by repeat (first | exact Below.refl _ _ | assumption | apply Below.drew | refine Below.setCell ?_ (by first | omega | (simp; done) | (simp; omega)) _ | refine Below.alloc ?_ (by first | omega | (simp; done) | (simp; omega)) _))) G.out.1 G.out.2.1).mono ?_); rintro e w1 ⟨vg, rfl, hng, hb1⟩; have e10 : w1.cell? ⟨w.heap.size, 0, none⟩ = some (.bool ba) := cell_on hb1 (by first | (simp [go_sem, *]; done) | (simp [go_sem, World.cell?_alloc_some, *]; done) | fail); have e11 : w1.cell? ⟨w.heap.size, 1, none⟩ = some (Value.slice oa la ca) := cell_on hb1 (by first | (simp [go_sem, *]; done) | (simp [go_sem, World.cell?_alloc_some, *]; done) | fail); have e12 : w1.cell? ⟨w.heap.size + 1, 0, none⟩ = some (.bool false) := cell_on hb1 (by first | (simp [go_sem, *]; done) | (simp [go_sem, World.cell?_alloc_some, *]; done) | fail); have e13 : w1.cell? ⟨w.heap.size + 1, 1, none⟩ = some (.slice none 0 0) := cell_on hb1 (by first | (simp [go_sem, *]; done) | (simp [go_sem, World.cell?_alloc_some, *]; done) | fail); have e14 : w1.cell? ⟨w.heap.size + 1, 2, none⟩ = some (.slice none 0 0) := cell_on hb1 (by first | (simp [go_sem, *]; done) | (simp [go_sem, World.cell?_alloc_some, *]; done) | fail); have s10 : w.heap.size < w1.heap.size := World.block_lt_of_cell? _ _ e10; have t10 : w.heap.size < w1.heap.size + 1 := Nat.lt_succ_of_lt s10; have s12 : w.heap.size + 1 < w1.heap.size := World.block_lt_of_cell? _ _ e12; have t12 : w.heap.size + 1 < w1.heap.size + 1 := Nat.lt_succ_of_lt s12; have y12 : w1.frozen? ⟨w.heap.size + 1, 0, none⟩ = false := frozen_on hb1 (v := .bool false) (by first | (simp [go_sem, *]; done) | (simp [go_sem, World.cell?_alloc_some, *]; done) | fail) (by first | (simp [go_sem, *]; done) | (simp [go_sem, frozen?_alloc_cells, *]; done) | fail); have y13 : w1.frozen? ⟨w.heap.size + 1, 1, none⟩ = false := frozen_on hb1 (v := .slice none 0 0) (by first | (simp [go_sem, *]; done) | (simp [go_sem, World.cell?_alloc_some, *]; done) | fail) (by first | (simp [go_sem, *]; done) | (simp [go_sem, frozen?_alloc_cells, *]; done) | fail); have y14 : w1.frozen? ⟨w.heap.size + 1, 2, none⟩ = false := frozen_on hb1 (v := .slice none 0 0) (by first | (simp [go_sem, *]; done) | (simp [go_sem, World.cell?_alloc_some, *]; done) | fail) (by first | (simp [go_sem, *]; done) | (simp [go_sem, frozen?_alloc_cells, *]; done) | fail); have q1 := hb1.size; (try simp at q1)) | (go_at_call 62; (with_reducible refine (ndivide_any (.slice oa la ca) _ n.natAbs (Nat.gcd n.natAbs d) _ (Ha.out.2.1.below (by repeat (first | exact Below.refl _ _ | assumption | apply Below.drew | refine Below.setCell ?_ (by first | omega | (simp; done) | (simp; omega)) _ | refine Below.alloc ?_ (by first | omega | (simp; done) | (simp; omega)) _ | refine Below.trans ?_ (hb1.mono (by first | omega | (simp; done) | (simp; omega)))))) (hng.below (by repeat (first | exact Below.refl _ _ | assumption | apply Below.drew | refine Below.setCell ?_ (by first | omega | (simp; done) | (simp; omega)) _ | refine Below.alloc ?_ (by first | omega | (simp; done) | (simp; omega)) _))) G.out.1 G.out.2.2.2.2 G.out.2.2.2.1).mono ?_); rintro e w2 ⟨um, vm, rfl, hum, hvm, hb2⟩; have e20 : w2.cell? ⟨w.heap.size, 0, none⟩ = some (.bool ba) := cell_on hb2 (by first | (simp [go_sem, *]; done) | (simp [go_sem, World.cell?_alloc_some, *]; done) | fail); have e21 : w2.cell? ⟨w.heap.size, 1, none⟩ = some (Value.slice oa la ca) := cell_on hb2 (by first | (simp [go_sem, *]; done) | (simp [go_sem, World.cell?_alloc_some, *]; done) | fail); have e22 : w2.cell? ⟨w.heap.size + 1, 0, none⟩ = some (.bool false) := cell_on hb2 (by first | (simp [go_sem, *]; done) | (simp [go_sem, World.cell?_alloc_some, *]; done) | fail); have e23 : w2.cell? ⟨w.heap.size + 1, 1, none⟩ = some (.slice none 0 0) := cell_on hb2 (by first | (simp [go_sem, *]; done) | (simp [go_sem, World.cell?_alloc_some, *]; done) | fail); have e24 : w2.cell? ⟨w.heap.size + 1, 2, none⟩ = some (.slice none 0 0) := cell_on hb2 (by first | (simp [go_sem, *]; done) | (simp [go_sem, World.cell?_alloc_some, *]; done) | fail); have s20 : w.heap.size < w2.heap.size := World.block_lt_of_cell? _ _ e20; have t20 : w.heap.size < w2.heap.size + 1 := Nat.lt_succ_of_lt s20; have s22 : w.heap.size + 1 < w2.heap.size := World.block_lt_of_cell? _ _ e22; have t22 : w.heap.size + 1 < w2.heap.size + 1 := Nat.lt_succ_of_lt s22; have y22 : w2.frozen? ⟨w.heap.size + 1, 0, none⟩ = false := frozen_on hb2 (v := .bool false) (by first | (simp [go_sem, *]; done) | (simp [go_sem, World.cell?_alloc_some, *]; done) | fail) (by first | (simp [go_sem, *]; done) | (simp [go_sem, frozen?_alloc_cells, *]; done) | fail); have y23 : w2.frozen? ⟨w.heap.size + 1, 1, none⟩ = false := frozen_on hb2 (v := .slice none 0 0) (by first | (simp [go_sem, *]; done) | (simp [go_sem, World.cell?_alloc_some, *]; done) | fail) (by first | (simp [go_sem, *]; done) | (simp [go_sem, frozen?_alloc_cells, *]; done) | fail); have y24 : w2.frozen? ⟨w.heap.size + 1, 2, none⟩ = false := frozen_on hb2 (v := .slice none 0 0) (by first | (simp [go_sem, *]; done) | (simp [go_sem, World.cell?_alloc_some, *]; done) | fail) (by first | (simp [go_sem, *]; done) | (simp [go_sem, frozen?_alloc_cells, *]; done) | fail); have q2 := hb2.size; (try simp at q2)) | (go_at_call 62; (with_reducible refine (ndivide_any vd _ d (Nat.gcd n.natAbs d) _ (HD.out.below (by repeat (first | exact Below.refl _ _ | assumption | apply Below.drew | refine Below.setCell ?_ (by first | omega | (simp; done) | (simp; omega)) _ | refine Below.alloc ?_ (by first | omega | (simp; done) | (simp; omega)) _ | refine Below.trans ?_ (hb2.mono (by first | omega | (simp; done) | (simp; omega))) | refine Below.trans ?_ (hb1.mono (by first | omega | (simp; done) | (simp; omega)))))) (hng.below (by repeat (first | exact Below.refl _ _ | assumption | apply Below.drew | refine Below.setCell ?_ (by first | omega | (simp; done) | (simp; omega)) _ | refine Below.alloc ?_ (by first | omega | (simp; done) | (simp; omega)) _ | refine Below.trans ?_ (hb2.mono (by first | omega | (simp; done) | (simp; omega)))))) G.out.2.1 G.out.2.2.2.2 G.out.2.2.2.1).mono ?_); rintro e w3 ⟨uk, vk, rfl, huk, hvk, hb3⟩; have e30 : w3.cell? ⟨w.heap.size, 0, none⟩ = some (.bool ba) := cell_on hb3 (by first | (simp [go_sem, *]; done) | (simp [go_sem, World.cell?_alloc_some, *]; done) | fail); have e31 : w3.cell? ⟨w.heap.size, 1, none⟩ = some (Value.slice oa la ca) := cell_on hb3 (by first | (simp [go_sem, *]; done) | (simp [go_sem, World.cell?_alloc_some, *]; done) | fail); have e32 : w3.cell? ⟨w.heap.size + 1, 0, none⟩ = some (.bool false) := cell_on hb3 (by first | (simp [go_sem, *]; done) | (simp [go_sem, World.cell?_alloc_some, *]; done) | fail); have e33 : w3.cell? ⟨w.heap.size + 1, 1, none⟩ = some (.slice none 0 0) := cell_on hb3 (by first | (simp [go_sem, *]; done) | (simp [go_sem, World.cell?_alloc_some, *]; done) | fail); have e34 : w3.cell? ⟨w.heap.size + 1, 2, none⟩ = some (.slice none 0 0) := cell_on hb3 (by first | (simp [go_sem, *]; done) | (simp [go_sem, World.cell?_alloc_some, *]; done) | fail); have s30 : w.heap.size < w3.heap.size := World.block_lt_of_cell? _ _ e30; have t30 : w.heap.size < w3.heap.size + 1 := Nat.lt_succ_of_lt s30; have s32 : w.heap.size + 1 < w3.heap.size := World.block_lt_of_cell? _ _ e32; have t32 : w.heap.size + 1 < w3.heap.size + 1 := Nat.lt_succ_of_lt s32; have y32 : w3.frozen? ⟨w.heap.size + 1, 0, none⟩ = false := frozen_on hb3 (v := .bool false) (by first | (simp [go_sem, *]; done) | (simp [go_sem, World.cell?_alloc_some, *]; done) | fail) (by first | (simp [go_sem, *]; done) | (simp [go_sem, frozen?_alloc_cells, *]; done) | fail); have y33 : w3.frozen? ⟨w.heap.size + 1, 1, none⟩ = false := frozen_on hb3 (v := .slice none 0 0) (by first | (simp [go_sem, *]; done) | (simp [go_sem, World.cell?_alloc_some, *]; done) | fail) (by first | (simp [go_sem, *]; done) | (simp [go_sem, frozen?_alloc_cells, *]; done) | fail); have y34 : w3.frozen? ⟨w.heap.size + 1, 2, none⟩ = false := frozen_on hb3 (v := .slice none 0 0) (by first | (simp [go_sem, *]; done) | (simp [go_sem, World.cell?_alloc_some, *]; done) | fail) (by first | (simp [go_sem, *]; done) | (simp [go_sem, frozen?_alloc_cells, *]; done) | fail); obtain ⟨ok, lk, ck, rfl, _⟩ := huk.form; have NK := Lib.hid huk; clear huk; have q3 := hb3.size; (try simp at q3)) | (go_at_call 63; (with_reducible refine (made_as ba um (n.natAbs / Nat.gcd n.natAbs d) (n.tdiv (Nat.gcd n.natAbs d : Nat)) _ (hum.below (by repeat (first | exact Below.refl _ _ | assumption | apply Below.drew | refine Below.setCell ?_ (by first | omega | (simp; done) | (simp; omega)) _ | refine Below.alloc ?_ (by first | omega | (simp; done) | (simp; omega)) _ | refine Below.trans ?_ (hb3.mono (by first | omega | (simp; done) | (simp; omega)))))) (tdiv_sign Ha.out.1 _)).mono ?_); rintro e w4 ⟨v, rfl, hv, hb4⟩; have e40 : w4.cell? ⟨w.heap.size, 0, none⟩ = some (.bool ba) := cell_on hb4 (by first | (simp [go_sem, *]; done) | (simp [go_sem, World.cell?_alloc_some, *]; done) | fail); have e41 : w4.cell? ⟨w.heap.size, 1, none⟩ = some (Value.slice oa la ca) := cell_on hb4 (by first | (simp [go_sem, *]; done) | (simp [go_sem, World.cell?_alloc_some, *]; done) | fail); have e42 : w4.cell? ⟨w.heap.size + 1, 0, none⟩ = some (.bool false) := cell_on hb4 (by first | (simp [go_sem, *]; done) | (simp [go_sem, World.cell?_alloc_some, *]; done) | fail); have e43 : w4.cell? ⟨w.heap.size + 1, 1, none⟩ = some (.slice none 0 0) := cell_on hb4 (by first | (simp [go_sem, *]; done) | (simp [go_sem, World.cell?_alloc_some, *]; done) | fail); have e44 : w4.cell? ⟨w.heap.size + 1, 2, none⟩ = some (.slice none 0 0) := cell_on hb4 (by first | (simp [go_sem, *]; done) | (simp [go_sem, World.cell?_alloc_some, *]; done) | fail); have s40 : w.heap.size < w4.heap.size := World.block_lt_of_cell? _ _ e40; have t40 : w.heap.size < w4.heap.size + 1 := Nat.lt_succ_of_lt s40; have s42 : w.heap.size + 1 < w4.heap.size := World.block_lt_of_cell? _ _ e42; have t42 : w.heap.size + 1 < w4.heap.size + 1 := Nat.lt_succ_of_lt s42; have y42 : w4.frozen? ⟨w.heap.size + 1, 0, none⟩ = false := frozen_on hb4 (v := .bool false) (by first | (simp [go_sem, *]; done) | (simp [go_sem, World.cell?_alloc_some, *]; done) | fail) (by first | (simp [go_sem, *]; done) | (simp [go_sem, frozen?_alloc_cells, *]; done) | fail); have y43 : w4.frozen? ⟨w.heap.size + 1, 1, none⟩ = false := frozen_on hb4 (v := .slice none 0 0) (by first | (simp [go_sem, *]; done) | (simp [go_sem, World.cell?_alloc_some, *]; done) | fail) (by first | (simp [go_sem, *]; done) | (simp [go_sem, frozen?_alloc_cells, *]; done) | fail); have y44 : w4.frozen? ⟨w.heap.size + 1, 2, none⟩ = false := frozen_on hb4 (v := .slice none 0 0) (by first | (simp [go_sem, *]; done) | (simp [go_sem, World.cell?_alloc_some, *]; done) | fail) (by first | (simp [go_sem, *]; done) | (simp [go_sem, frozen?_alloc_cells, *]; done) | fail); obtain ⟨bv, ov, lv, cv, rfl, Hv⟩ := hv.open; clear hv; have q4 := hb4.size; (try simp at q4)) | fail)
  refine bodyPost_ret (v := .agg #[.bool bv, .slice ov lv cv, .slice ok lk ck]) (by simp [results, Tryz.results37, go_sem, *]) rfl ⟨bv, ov, lv, cv, ok, lk, ck, rfl, ⟨Hv.out.1, ?_, ?_⟩, ?_⟩
  · exact IsN.store3 Hv.out.2.1 e42 e43 e44
  · exact IsN.store3 (NK.out.below (by repeat (first | exact Below.refl _ _ | assumption | apply Below.drew | refine Below.setCell ?_ (by first | omega | (simp; done) | (simp; omega)) _ | refine Below.alloc ?_ (by first | omega | (simp; done) | (simp; omega)) _ | refine Below.trans ?_ (hb4.mono (by first | omega | (simp; done) | (simp; omega)))))) e42 e43 e44
  · repeat (first | exact Below.refl _ _ | assumption | apply Below.drew | refine Below.setCell ?_ (by first | omega | (simp; done) | (simp; omega)) _ | refine Below.alloc ?_ (by first | omega | (simp; done) | (simp; omega)) _ | refine Below.trans ?_ (hb4.mono (by first | omega | (simp; done) | (simp; omega))) | refine Below.trans ?_ (hb3.mono (by first | omega | (simp; done) | (simp; omega))) | refine Below.trans ?_ (hb2.mono (by first | omega | (simp; done) | (simp; omega))) | refine Below.trans ?_ (hb1.mono (by first | omega | (simp; done) | (simp; omega))))
end Go.Proofs.YtldchepfcgbpiaaGreat
namespace Go.Proofs.YtldchepfcgbpiaaGreat
open Go.RowKit

/-- Twice the number, rounded down. -/
def t2 (p : Int) (q : Nat) : Int := dn (p * 2 ^ 1) q
/-- The nearest whole number to p / q, halves to even. -/
def nr (p : Int) (q : Nat) : Int := if t2 p q / 2 ^ 1 * 2 ^ 1 = t2 p q then t2 p q / 2 ^ 1 else if p * 2 ^ 1 - t2 p q * q ≠ 0 then t2 p q / 2 ^ 1 + 1 else if t2 p q / 2 ^ 1 / 2 ^ 1 * 2 ^ 1 = t2 p q / 2 ^ 1 then t2 p q / 2 ^ 1 else t2 p q / 2 ^ 1 + 1

theorem IsI.al {w : World} {x : Value} {z : Int} (h : IsI w x z) (o : Obj) : IsI (w.alloc o) x z := h.below ((Below.refl _ _).alloc (Nat.le_refl _) _)
theorem fin_i {w w3 : World} {X Y N : Nat} {bq br : Bool} {oq or' : Option Addr} {lq cq lr cr : Nat} {z1 z2 : Int} (hX0 : w3.cell? ⟨X, 0, none⟩ = some (.bool false)) (hX1 : w3.cell? ⟨X, 1, none⟩ = some (.slice none 0 0)) (hY0 : w3.cell? ⟨Y, 0, none⟩ = some (.bool false)) (hY1 : w3.cell? ⟨Y, 1, none⟩ = some (.slice none 0 0)) (hXY : X ≠ Y)
    (hN0 : w3.cell? ⟨N, 0, none⟩ = some (.bool false)) (hN1 : w3.cell? ⟨N, 1, none⟩ = some (.slice none 0 0)) (f0 : w3.frozen? ⟨N, 0, none⟩ = false) (f1 : w3.frozen? ⟨N, 1, none⟩ = false) (hNX : N ≠ X) (hNY : N ≠ Y)
    (Hq : IsI w3 (Iv bq (.slice oq lq cq)) z1) (Hr : IsI w3 (Iv br (.slice or' lr cr)) z2) (hB : Below w.heap.size w w3) (gX : w.heap.size ≤ X) (gY : w.heap.size ≤ Y) :
    ((((w3.setCell ⟨X, 0, none⟩ (.bool bq)).setCell ⟨X, 1, none⟩ (.slice oq lq cq)).setCell ⟨Y, 0, none⟩ (.bool br)).setCell ⟨Y, 1, none⟩ (.slice or' lr cr)).cell? ⟨N, 0, none⟩ = some (.bool false) ∧ ((((w3.setCell ⟨X, 0, none⟩ (.bool bq)).setCell ⟨X, 1, none⟩ (.slice oq lq cq)).setCell ⟨Y, 0, none⟩ (.bool br)).setCell ⟨Y, 1, none⟩ (.slice or' lr cr)).cell? ⟨N, 1, none⟩ = some (.slice none 0 0) ∧ ((((w3.setCell ⟨X, 0, none⟩ (.bool bq)).setCell ⟨X, 1, none⟩ (.slice oq lq cq)).setCell ⟨Y, 0, none⟩ (.bool br)).setCell ⟨Y, 1, none⟩ (.slice or' lr cr)).cell? ⟨X, 0, none⟩ = some (.bool bq) ∧ ((((w3.setCell ⟨X, 0, none⟩ (.bool bq)).setCell ⟨X, 1, none⟩ (.slice oq lq cq)).setCell ⟨Y, 0, none⟩ (.bool br)).setCell ⟨Y, 1, none⟩ (.slice or' lr cr)).cell? ⟨X, 1, none⟩ = some (Value.slice oq lq cq) ∧ ((((w3.setCell ⟨X, 0, none⟩ (.bool bq)).setCell ⟨X, 1, none⟩ (.slice oq lq cq)).setCell ⟨Y, 0, none⟩ (.bool br)).setCell ⟨Y, 1, none⟩ (.slice or' lr cr)).cell? ⟨Y, 0, none⟩ = some (.bool br) ∧ ((((w3.setCell ⟨X, 0, none⟩ (.bool bq)).setCell ⟨X, 1, none⟩ (.slice oq lq cq)).setCell ⟨Y, 0, none⟩ (.bool br)).setCell ⟨Y, 1, none⟩ (.slice or' lr cr)).cell? ⟨Y, 1, none⟩ = some (Value.slice or' lr cr) ∧
    ((((w3.setCell ⟨X, 0, none⟩ (.bool bq)).setCell ⟨X, 1, none⟩ (.slice oq lq cq)).setCell ⟨Y, 0, none⟩ (.bool br)).setCell ⟨Y, 1, none⟩ (.slice or' lr cr)).frozen? ⟨N, 0, none⟩ = false ∧ ((((w3.setCell ⟨X, 0, none⟩ (.bool bq)).setCell ⟨X, 1, none⟩ (.slice oq lq cq)).setCell ⟨Y, 0, none⟩ (.bool br)).setCell ⟨Y, 1, none⟩ (.slice or' lr cr)).frozen? ⟨N, 1, none⟩ = false ∧
    IsI ((((w3.setCell ⟨X, 0, none⟩ (.bool bq)).setCell ⟨X, 1, none⟩ (.slice oq lq cq)).setCell ⟨Y, 0, none⟩ (.bool br)).setCell ⟨Y, 1, none⟩ (.slice or' lr cr)) (Iv bq (.slice oq lq cq)) z1 ∧ IsI ((((w3.setCell ⟨X, 0, none⟩ (.bool bq)).setCell ⟨X, 1, none⟩ (.slice oq lq cq)).setCell ⟨Y, 0, none⟩ (.bool br)).setCell ⟨Y, 1, none⟩ (.slice or' lr cr)) (Iv br (.slice or' lr cr)) z2 ∧ Below w.heap.size w ((((w3.setCell ⟨X, 0, none⟩ (.bool bq)).setCell ⟨X, 1, none⟩ (.slice oq lq cq)).setCell ⟨Y, 0, none⟩ (.bool br)).setCell ⟨Y, 1, none⟩ (.slice or' lr cr)) := by
  have y0 : ((w3.setCell ⟨X, 0, none⟩ (.bool bq)).setCell ⟨X, 1, none⟩ (.slice oq lq cq)).cell? ⟨Y, 0, none⟩ = some (.bool false) := by simp [go_sem, *]
  have y1 : ((w3.setCell ⟨X, 0, none⟩ (.bool bq)).setCell ⟨X, 1, none⟩ (.slice oq lq cq)).cell? ⟨Y, 1, none⟩ = some (.slice none 0 0) := by simp [go_sem, *]
  have hYX : Y ≠ X := fun e => hXY e.symm
  have hXN : X ≠ N := fun e => hNX e.symm
  have hYN : Y ≠ N := fun e => hNY e.symm
  refine ⟨?_, ?_, ?_, ?_, ?_, ?_, by simp [f0], by simp [f1], (Hq.put hX0 (by simp) hX1 (by simp)).put y0 (by simp) y1 (by simp), (Hr.put hX0 (by simp) hX1 (by simp)).put y0 (by simp) y1 (by simp), (((hB.setCell gX _).setCell gX _).setCell gY _).setCell gY _⟩ <;> simp [go_sem, *]
theorem fin_iia {w w3 : World} {X N T : Nat} {bq br : Bool} {oq or' : Option Addr} {lq cq lr cr : Nat} {z1 z2 : Int} (hX0 : w3.cell? ⟨X, 0, none⟩ = some (.bool false)) (hX1 : w3.cell? ⟨X, 1, none⟩ = some (.slice none 0 0))
    (hN0 : w3.cell? ⟨N, 0, none⟩ = some (.bool false)) (hN1 : w3.cell? ⟨N, 1, none⟩ = some (.slice none 0 0)) (f0 : w3.frozen? ⟨N, 0, none⟩ = false) (f1 : w3.frozen? ⟨N, 1, none⟩ = false) (hNX : N ≠ X) (gX : w.heap.size ≤ X)
    (Hq : IsI w3 (Iv bq (.slice oq lq cq)) z1) (Hr : IsI w3 (Iv br (.slice or' lr cr)) z2) (hB : Below w.heap.size w w3) :
    (((w3.setCell ⟨X, 0, none⟩ (.bool bq)).setCell ⟨X, 1, none⟩ (.slice oq lq cq)).alloc (.cells #[.bool br, .slice or' lr cr] T)).cell? ⟨N, 0, none⟩ = some (.bool false) ∧ (((w3.setCell ⟨X, 0, none⟩ (.bool bq)).setCell ⟨X, 1, none⟩ (.slice oq lq cq)).alloc (.cells #[.bool br, .slice or' lr cr] T)).cell? ⟨N, 1, none⟩ = some (.slice none 0 0) ∧ (((w3.setCell ⟨X, 0, none⟩ (.bool bq)).setCell ⟨X, 1, none⟩ (.slice oq lq cq)).alloc (.cells #[.bool br, .slice or' lr cr] T)).cell? ⟨X, 0, none⟩ = some (.bool bq) ∧ (((w3.setCell ⟨X, 0, none⟩ (.bool bq)).setCell ⟨X, 1, none⟩ (.slice oq lq cq)).alloc (.cells #[.bool br, .slice or' lr cr] T)).cell? ⟨X, 1, none⟩ = some (Value.slice oq lq cq) ∧ (((w3.setCell ⟨X, 0, none⟩ (.bool bq)).setCell ⟨X, 1, none⟩ (.slice oq lq cq)).alloc (.cells #[.bool br, .slice or' lr cr] T)).cell? ⟨w3.heap.size, 0, none⟩ = some (.bool br) ∧ (((w3.setCell ⟨X, 0, none⟩ (.bool bq)).setCell ⟨X, 1, none⟩ (.slice oq lq cq)).alloc (.cells #[.bool br, .slice or' lr cr] T)).cell? ⟨w3.heap.size, 1, none⟩ = some (Value.slice or' lr cr) ∧ (((w3.setCell ⟨X, 0, none⟩ (.bool bq)).setCell ⟨X, 1, none⟩ (.slice oq lq cq)).alloc (.cells #[.bool br, .slice or' lr cr] T)).frozen? ⟨N, 0, none⟩ = false ∧ (((w3.setCell ⟨X, 0, none⟩ (.bool bq)).setCell ⟨X, 1, none⟩ (.slice oq lq cq)).alloc (.cells #[.bool br, .slice or' lr cr] T)).frozen? ⟨N, 1, none⟩ = false ∧ IsI (((w3.setCell ⟨X, 0, none⟩ (.bool bq)).setCell ⟨X, 1, none⟩ (.slice oq lq cq)).alloc (.cells #[.bool br, .slice or' lr cr] T)) (Iv bq (.slice oq lq cq)) z1 ∧ IsI (((w3.setCell ⟨X, 0, none⟩ (.bool bq)).setCell ⟨X, 1, none⟩ (.slice oq lq cq)).alloc (.cells #[.bool br, .slice or' lr cr] T)) (Iv br (.slice or' lr cr)) z2 ∧ Below w.heap.size w (((w3.setCell ⟨X, 0, none⟩ (.bool bq)).setCell ⟨X, 1, none⟩ (.slice oq lq cq)).alloc (.cells #[.bool br, .slice or' lr cr] T)) := by
  have s : N < w3.heap.size := World.block_lt_of_cell? _ _ hN0
  have sx : X < w3.heap.size := World.block_lt_of_cell? _ _ hX0
  have hXN : X ≠ N := fun e => hNX e.symm
  have sN := Nat.ne_of_lt s
  have sX := Nat.ne_of_lt sx
  have hs := hB.size
  refine ⟨?_, ?_, ?_, ?_, ?_, ?_, ?_, ?_, (Hq.put hX0 (by simp) hX1 (by simp)).al _, (Hr.put hX0 (by simp) hX1 (by simp)).al _, ((hB.setCell gX _).setCell gX _).alloc (by simp; omega) _⟩ <;> first | (simp [go_sem, *]; done) | (simp [go_sem, frozen?_alloc_cells, *]; done) | (simp [go_sem, World.cell?_alloc_some, *]; done)
theorem fin_iib {w w3 : World} {X N T : Nat} {bq br : Bool} {oq or' : Option Addr} {lq cq lr cr : Nat} {z1 z2 : Int} (hX0 : w3.cell? ⟨X, 0, none⟩ = some (.bool false)) (hX1 : w3.cell? ⟨X, 1, none⟩ = some (.slice none 0 0))
    (hN0 : w3.cell? ⟨N, 0, none⟩ = some (.bool false)) (hN1 : w3.cell? ⟨N, 1, none⟩ = some (.slice none 0 0)) (f0 : w3.frozen? ⟨N, 0, none⟩ = false) (f1 : w3.frozen? ⟨N, 1, none⟩ = false) (hNX : N ≠ X) (gX : w.heap.size ≤ X)
    (Hq : IsI w3 (Iv bq (.slice oq lq cq)) z1) (Hr : IsI w3 (Iv br (.slice or' lr cr)) z2) (hB : Below w.heap.size w w3) :
    (((w3.setCell ⟨X, 0, none⟩ (.bool br)).setCell ⟨X, 1, none⟩ (.slice or' lr cr)).alloc (.cells #[.bool bq, .slice oq lq cq] T)).cell? ⟨N, 0, none⟩ = some (.bool false) ∧ (((w3.setCell ⟨X, 0, none⟩ (.bool br)).setCell ⟨X, 1, none⟩ (.slice or' lr cr)).alloc (.cells #[.bool bq, .slice oq lq cq] T)).cell? ⟨N, 1, none⟩ = some (.slice none 0 0) ∧ (((w3.setCell ⟨X, 0, none⟩ (.bool br)).setCell ⟨X, 1, none⟩ (.slice or' lr cr)).alloc (.cells #[.bool bq, .slice oq lq cq] T)).cell? ⟨w3.heap.size, 0, none⟩ = some (.bool bq) ∧ (((w3.setCell ⟨X, 0, none⟩ (.bool br)).setCell ⟨X, 1, none⟩ (.slice or' lr cr)).alloc (.cells #[.bool bq, .slice oq lq cq] T)).cell? ⟨w3.heap.size, 1, none⟩ = some (Value.slice oq lq cq) ∧ (((w3.setCell ⟨X, 0, none⟩ (.bool br)).setCell ⟨X, 1, none⟩ (.slice or' lr cr)).alloc (.cells #[.bool bq, .slice oq lq cq] T)).cell? ⟨X, 0, none⟩ = some (.bool br) ∧ (((w3.setCell ⟨X, 0, none⟩ (.bool br)).setCell ⟨X, 1, none⟩ (.slice or' lr cr)).alloc (.cells #[.bool bq, .slice oq lq cq] T)).cell? ⟨X, 1, none⟩ = some (Value.slice or' lr cr) ∧ (((w3.setCell ⟨X, 0, none⟩ (.bool br)).setCell ⟨X, 1, none⟩ (.slice or' lr cr)).alloc (.cells #[.bool bq, .slice oq lq cq] T)).frozen? ⟨N, 0, none⟩ = false ∧ (((w3.setCell ⟨X, 0, none⟩ (.bool br)).setCell ⟨X, 1, none⟩ (.slice or' lr cr)).alloc (.cells #[.bool bq, .slice oq lq cq] T)).frozen? ⟨N, 1, none⟩ = false ∧ IsI (((w3.setCell ⟨X, 0, none⟩ (.bool br)).setCell ⟨X, 1, none⟩ (.slice or' lr cr)).alloc (.cells #[.bool bq, .slice oq lq cq] T)) (Iv bq (.slice oq lq cq)) z1 ∧ IsI (((w3.setCell ⟨X, 0, none⟩ (.bool br)).setCell ⟨X, 1, none⟩ (.slice or' lr cr)).alloc (.cells #[.bool bq, .slice oq lq cq] T)) (Iv br (.slice or' lr cr)) z2 ∧ Below w.heap.size w (((w3.setCell ⟨X, 0, none⟩ (.bool br)).setCell ⟨X, 1, none⟩ (.slice or' lr cr)).alloc (.cells #[.bool bq, .slice oq lq cq] T)) := by
  have s : N < w3.heap.size := World.block_lt_of_cell? _ _ hN0
  have sx : X < w3.heap.size := World.block_lt_of_cell? _ _ hX0
  have hXN : X ≠ N := fun e => hNX e.symm
  have sN := Nat.ne_of_lt s
  have sX := Nat.ne_of_lt sx
  have hs := hB.size
  refine ⟨?_, ?_, ?_, ?_, ?_, ?_, ?_, ?_, (Hq.put hX0 (by simp) hX1 (by simp)).al _, (Hr.put hX0 (by simp) hX1 (by simp)).al _, ((hB.setCell gX _).setCell gX _).alloc (by simp; omega) _⟩ <;> first | (simp [go_sem, *]; done) | (simp [go_sem, frozen?_alloc_cells, *]; done) | (simp [go_sem, World.cell?_alloc_some, *]; done)
theorem fin_iiia {w w3 : World} {N T : Nat} {bq br : Bool} {oq or' : Option Addr} {lq cq lr cr : Nat} {z1 z2 : Int} 
    (hN0 : w3.cell? ⟨N, 0, none⟩ = some (.bool false)) (hN1 : w3.cell? ⟨N, 1, none⟩ = some (.slice none 0 0)) (f0 : w3.frozen? ⟨N, 0, none⟩ = false) (f1 : w3.frozen? ⟨N, 1, none⟩ = false)
    (Hq : IsI w3 (Iv bq (.slice oq lq cq)) z1) (Hr : IsI w3 (Iv br (.slice or' lr cr)) z2) (hB : Below w.heap.size w w3) :
    ((w3.alloc (.cells #[.bool bq, .slice oq lq cq] T)).alloc (.cells #[.bool br, .slice or' lr cr] T)).cell? ⟨N, 0, none⟩ = some (.bool false) ∧ ((w3.alloc (.cells #[.bool bq, .slice oq lq cq] T)).alloc (.cells #[.bool br, .slice or' lr cr] T)).cell? ⟨N, 1, none⟩ = some (.slice none 0 0) ∧ ((w3.alloc (.cells #[.bool bq, .slice oq lq cq] T)).alloc (.cells #[.bool br, .slice or' lr cr] T)).cell? ⟨w3.heap.size, 0, none⟩ = some (.bool bq) ∧ ((w3.alloc (.cells #[.bool bq, .slice oq lq cq] T)).alloc (.cells #[.bool br, .slice or' lr cr] T)).cell? ⟨w3.heap.size, 1, none⟩ = some (Value.slice oq lq cq) ∧ ((w3.alloc (.cells #[.bool bq, .slice oq lq cq] T)).alloc (.cells #[.bool br, .slice or' lr cr] T)).cell? ⟨(w3.heap.size + 1), 0, none⟩ = some (.bool br) ∧ ((w3.alloc (.cells #[.bool bq, .slice oq lq cq] T)).alloc (.cells #[.bool br, .slice or' lr cr] T)).cell? ⟨(w3.heap.size + 1), 1, none⟩ = some (Value.slice or' lr cr) ∧ ((w3.alloc (.cells #[.bool bq, .slice oq lq cq] T)).alloc (.cells #[.bool br, .slice or' lr cr] T)).frozen? ⟨N, 0, none⟩ = false ∧ ((w3.alloc (.cells #[.bool bq, .slice oq lq cq] T)).alloc (.cells #[.bool br, .slice or' lr cr] T)).frozen? ⟨N, 1, none⟩ = false ∧ IsI ((w3.alloc (.cells #[.bool bq, .slice oq lq cq] T)).alloc (.cells #[.bool br, .slice or' lr cr] T)) (Iv bq (.slice oq lq cq)) z1 ∧ IsI ((w3.alloc (.cells #[.bool bq, .slice oq lq cq] T)).alloc (.cells #[.bool br, .slice or' lr cr] T)) (Iv br (.slice or' lr cr)) z2 ∧ Below w.heap.size w ((w3.alloc (.cells #[.bool bq, .slice oq lq cq] T)).alloc (.cells #[.bool br, .slice or' lr cr] T)) := by
  have s : N < w3.heap.size := World.block_lt_of_cell? _ _ hN0
  have sN := Nat.ne_of_lt s
  have s1 : N < w3.heap.size + 1 := by omega
  have hs := hB.size
  refine ⟨?_, ?_, ?_, ?_, ?_, ?_, ?_, ?_, (Hq.al _).al _, (Hr.al _).al _, (hB.alloc (by omega) _).alloc (by simp; omega) _⟩ <;> first | (simp [go_sem, *]; done) | (simp [go_sem, frozen?_alloc_cells, *]; done) | (simp [go_sem, World.cell?_alloc_some, *]; done)
theorem fin_iiib {w w3 : World} {N T : Nat} {bq br : Bool} {oq or' : Option Addr} {lq cq lr cr : Nat} {z1 z2 : Int} 
    (hN0 : w3.cell? ⟨N, 0, none⟩ = some (.bool false)) (hN1 : w3.cell? ⟨N, 1, none⟩ = some (.slice none 0 0)) (f0 : w3.frozen? ⟨N, 0, none⟩ = false) (f1 : w3.frozen? ⟨N, 1, none⟩ = false)
    (Hq : IsI w3 (Iv bq (.slice oq lq cq)) z1) (Hr : IsI w3 (Iv br (.slice or' lr cr)) z2) (hB : Below w.heap.size w w3) :
    ((w3.alloc (.cells #[.bool br, .slice or' lr cr] T)).alloc (.cells #[.bool bq, .slice oq lq cq] T)).cell? ⟨N, 0, none⟩ = some (.bool false) ∧ ((w3.alloc (.cells #[.bool br, .slice or' lr cr] T)).alloc (.cells #[.bool bq, .slice oq lq cq] T)).cell? ⟨N, 1, none⟩ = some (.slice none 0 0) ∧ ((w3.alloc (.cells #[.bool br, .slice or' lr cr] T)).alloc (.cells #[.bool bq, .slice oq lq cq] T)).cell? ⟨(w3.heap.size + 1), 0, none⟩ = some (.bool bq) ∧ ((w3.alloc (.cells #[.bool br, .slice or' lr cr] T)).alloc (.cells #[.bool bq, .slice oq lq cq] T)).cell? ⟨(w3.heap.size + 1), 1, none⟩ = some (Value.slice oq lq cq) ∧ ((w3.alloc (.cells #[.bool br, .slice or' lr cr] T)).alloc (.cells #[.bool bq, .slice oq lq cq] T)).cell? ⟨w3.heap.size, 0, none⟩ = some (.bool br) ∧ ((w3.alloc (.cells #[.bool br, .slice or' lr cr] T)).alloc (.cells #[.bool bq, .slice oq lq cq] T)).cell? ⟨w3.heap.size, 1, none⟩ = some (Value.slice or' lr cr) ∧ ((w3.alloc (.cells #[.bool br, .slice or' lr cr] T)).alloc (.cells #[.bool bq, .slice oq lq cq] T)).frozen? ⟨N, 0, none⟩ = false ∧ ((w3.alloc (.cells #[.bool br, .slice or' lr cr] T)).alloc (.cells #[.bool bq, .slice oq lq cq] T)).frozen? ⟨N, 1, none⟩ = false ∧ IsI ((w3.alloc (.cells #[.bool br, .slice or' lr cr] T)).alloc (.cells #[.bool bq, .slice oq lq cq] T)) (Iv bq (.slice oq lq cq)) z1 ∧ IsI ((w3.alloc (.cells #[.bool br, .slice or' lr cr] T)).alloc (.cells #[.bool bq, .slice oq lq cq] T)) (Iv br (.slice or' lr cr)) z2 ∧ Below w.heap.size w ((w3.alloc (.cells #[.bool br, .slice or' lr cr] T)).alloc (.cells #[.bool bq, .slice oq lq cq] T)) := by
  have s : N < w3.heap.size := World.block_lt_of_cell? _ _ hN0
  have sN := Nat.ne_of_lt s
  have s1 : N < w3.heap.size + 1 := by omega
  have hs := hB.size
  refine ⟨?_, ?_, ?_, ?_, ?_, ?_, ?_, ?_, (Hq.al _).al _, (Hr.al _).al _, (hB.alloc (by omega) _).alloc (by simp; omega) _⟩ <;> first | (simp [go_sem, *]; done) | (simp [go_sem, frozen?_alloc_cells, *]; done) | (simp [go_sem, World.cell?_alloc_some, *]; done)
theorem icmp_is (x y : Value) (a b s : Int) (w : World) (ha : IsI w x a) (hb : IsI w y b) (ga : a.natAbs < BIG) (gb : b.natAbs < BIG) (hs : sg a b = s) : Calls Tryz.prog 85 #[x, y] w fun e w' => e = .returned (.int .i64 s) ∧ Below w.heap.size w w' := by
  have := icmp_any x y a b w ha hb ga gb
  rw [hs] at this
  exact this
/-- Beyond what is rounded. -/
def LOW : Nat := 2 ^ 1024
theorem low_of {n k : Nat} (h : n < 2 ^ k) (hk : k ≤ 1024) : n < LOW := by
  unfold LOW
  exact Nat.lt_of_lt_of_le h (pow2_mono k 1024 hk)
theorem low_gen {n K : Nat} (h : n < 2 ^ K) : n < 2 ^ (K + 2) ∧ 2 * n < 2 ^ (K + 2) ∧ 2 * n + 2 < 2 ^ (K + 2) := by
  have p := Nat.two_pow_pos K
  rw [Nat.pow_add]
  generalize (2 : Nat) ^ K = P at *
  omega
theorem low_big {n : Nat} (h : n < LOW) : n < BIG ∧ 2 * n < BIG ∧ 2 * n < MID ∧ n < MID ∧ 2 * n + 2 < BIG := by
  unfold LOW at h
  have p := low_gen h
  exact ⟨big_of p.1 (by decide), big_of p.2.1 (by decide), mid_of p.2.1 (by decide), mid_of p.1 (by decide), big_of p.2.2 (by decide)⟩
end Go.Proofs.YtldchepfcgbpiaaGreat
namespace Go.Proofs.YtldchepfcgbpiaaGreat
open Go.RowKit

/-- x reads as p over q. -/
def IsR (w : World) (x : Value) (p : Int) (q : Nat) : Prop := ∃ b o1 l1 c1 o2 l2 c2, x = Rv b (.slice o1 l1 c1) (.slice o2 l2 c2) ∧ Hid (b = decide (p < 0) ∧ IsN w (.slice o1 l1 c1) p.natAbs ∧ IsN w (.slice o2 l2 c2) q)
theorem IsR.mk {w : World} {b : Bool} {o1 o2 : Option Addr} {l1 c1 l2 c2 : Nat} {p : Int} {q : Nat} (H : Hid (b = decide (p < 0) ∧ IsN w (.slice o1 l1 c1) p.natAbs ∧ IsN w (.slice o2 l2 c2) q)) : IsR w (Rv b (.slice o1 l1 c1) (.slice o2 l2 c2)) p q := ⟨b, o1, l1, c1, o2, l2, c2, rfl, H⟩
theorem IsR.below {w w' : World} {x : Value} {p : Int} {q : Nat} (h : IsR w x p q) (hb : Below w.heap.size w w') : IsR w' x p q := by
  obtain ⟨b, o1, l1, c1, o2, l2, c2, rfl, H⟩ := h
  exact ⟨b, o1, l1, c1, o2, l2, c2, rfl, ⟨H.out.1, H.out.2.1.below hb, H.out.2.2.below hb⟩⟩
set_option maxRecDepth 100000 in
set_option maxHeartbeats 8000000 in
theorem den_any (x : Value) (p : Int) (q : Nat) (w : World) (h : IsR w x p q) : Calls Tryz.prog 81 #[x] w (SomeI w (q : Int)) := by
  obtain ⟨ba, oa1, la1, ca1, oa2, la2, ca2, rfl, Ha⟩ := h
  go_enter Tryz.func81, Tryz.ntmps81
  go_wp2_with (first | (go_at_call 63; (with_reducible refine (made_as false _ q (q : Int) _ (Ha.out.2.2.below (by repeat (first | exact Below.refl _ _ | assumption | apply Below.drew | refine Below.setCell ?_ (by first | omega | (simp; done) | (simp; omega)) _ | refine Below.alloc ?_ (by first | omega | (simp; done) | (simp; omega)) _))) (if_neg (by decide)).symm).mono ?_); rintro e w1 ⟨vm, rfl, hv, hb1⟩; have e10 : w1.cell? ⟨w.heap.size, 0, none⟩ = some (.bool ba) := cell_on hb1 (by first | (simp [go_sem, *]; done) | (simp [go_sem, World.cell?_alloc_some, *]; done) | fail); have e11 : w1.cell? ⟨w.heap.size, 1, none⟩ = some (Value.slice oa1 la1 ca1) := cell_on hb1 (by first | (simp [go_sem, *]; done) | (simp [go_sem, World.cell?_alloc_some, *]; done) | fail); have e12 : w1.cell? ⟨w.heap.size, 2, none⟩ = some (Value.slice oa2 la2 ca2) := cell_on hb1 (by first | (simp [go_sem, *]; done) | (simp [go_sem, World.cell?_alloc_some, *]; done) | fail); have e13 : w1.cell? ⟨w.heap.size + 1, 0, none⟩ = some (.bool false) := cell_on hb1 (by first | (simp [go_sem, *]; done) | (simp [go_sem, World.cell?_alloc_some, *]; done) | fail); have e14 : w1.cell? ⟨w.heap.size + 1, 1, none⟩ = some (.slice none 0 0) := cell_on hb1 (by first | (simp [go_sem, *]; done) | (simp [go_sem, World.cell?_alloc_some, *]; done) | fail); have s10 : w.heap.size < w1.heap.size := World.block_lt_of_cell? _ _ e10; have t10 : w.heap.size < w1.heap.size + 1 := Nat.lt_succ_of_lt s10; have s13 : w.heap.size + 1 < w1.heap.size := World.block_lt_of_cell? _ _ e13; have t13 : w.heap.size + 1 < w1.heap.size + 1 := Nat.lt_succ_of_lt s13; have y13 : w1.frozen? ⟨w.heap.size + 1, 0, none⟩ = false := frozen_on hb1 (v := .bool false) (by first | (simp [go_sem, *]; done) | (simp [go_sem, World.cell?_alloc_some, *]; done) | fail) (by first | (simp [go_sem, *]; done) | (simp [go_sem, frozen?_alloc_cells, *]; done) | fail); have y14 : w1.frozen? ⟨w.heap.size + 1, 1, none⟩ = false := frozen_on hb1 (v := .slice none 0 0) (by first | (simp [go_sem, *]; done) | (simp [go_sem, World.cell?_alloc_some, *]; done) | fail) (by first | (simp [go_sem, *]; done) | (simp [go_sem, frozen?_alloc_cells, *]; done) | fail); have q1 := hb1.size; (try simp at q1); obtain ⟨bm, om, lm, cm, rfl, Hm⟩ := hv.open; clear hv) | fail)
  refine bodyPost_ret (v := Iv bm (.slice om lm cm)) (by simp [results, Tryz.results81, go_sem, *]) rfl ⟨_, rfl, ?_, ?_⟩
  · exact IsI.put (v0 := .bool false) (v1 := .slice none 0 0) (IsI.mk Hm.out.1 Hm.out.2.1) e13 (by simp) e14 (by simp)
  · repeat (first | exact Below.refl _ _ | assumption | apply Below.drew | refine Below.setCell ?_ (by first | omega | (simp; done) | (simp; omega)) _ | refine Below.alloc ?_ (by first | omega | (simp; done) | (simp; omega)) _ | refine Below.trans ?_ (hb1.mono (by first | omega | (simp; done) | (simp; omega))))
set_option maxRecDepth 100000 in
set_option maxHeartbeats 8000000 in
theorem rcmp_any (x y : Value) (p r : Int) (q s : Nat) (w : World) (h : IsR w x p q) (k : IsR w y r s) (gp : p.natAbs < BIG) (gr : r.natAbs < BIG) (gq : q < BIG) (gs : s < BIG) (g1 : (p * s).natAbs < BIG) (g2 : (r * q).natAbs < BIG) : Calls Tryz.prog 102 #[x, y] w fun e w' => e = .returned (.int .i64 (sg (p * s) (r * q))) ∧ Below w.heap.size w w' := by
  obtain ⟨ba, oa1, la1, ca1, oa2, la2, ca2, rfl, Ha⟩ := h
  obtain ⟨bd, od1, ld1, cd1, od2, ld2, cd2, rfl, Hd⟩ := k
  have G : Hid (p.natAbs < BIG ∧ r.natAbs < BIG ∧ ((q : Nat) : Int).natAbs < BIG ∧ ((s : Nat) : Int).natAbs < BIG ∧ (p * s).natAbs < BIG ∧ (r * q).natAbs < BIG) := ⟨gp, gr, gq, gs, g1, g2⟩
  clear gp gr gq gs g1 g2
  go_enter Tryz.func102, Tryz.ntmps102
  go_wp2
  go_region_held3 (fun w' => w'.cell? ⟨w.heap.size, 0, none⟩ = some (.bool ba) ∧ w'.cell? ⟨w.heap.size, 1, none⟩ = some (Value.slice oa1 la1 ca1) ∧ w'.cell? ⟨w.heap.size, 2, none⟩ = some (Value.slice oa2 la2 ca2) ∧ w'.cell? ⟨w.heap.size + 1, 0, none⟩ = some (.bool bd) ∧ w'.cell? ⟨w.heap.size + 1, 1, none⟩ = some (Value.slice od1 ld1 cd1) ∧ w'.cell? ⟨w.heap.size + 1, 2, none⟩ = some (Value.slice od2 ld2 cd2)) (first | (simp [go_sem, *]; done) | (simp [go_sem, World.cell?_alloc_some, *]; done)) (first | (go_at_call 81; (with_reducible refine (den_any _ r s _ (IsR.below (IsR.mk Hd) (by repeat (first | exact Below.refl _ _ | assumption | apply Below.drew | refine Below.setCell ?_ (by first | omega | (simp; done) | (simp; omega)) _ | refine Below.alloc ?_ (by first | omega | (simp; done) | (simp; omega)) _)))).mono ?_); rintro e w1 ⟨vs, rfl, hv, hb1⟩; have e10 : w1.cell? ⟨w.heap.size, 0, none⟩ = some (.bool ba) := cell_on hb1 (by first | (simp [go_sem, *]; done) | (simp [go_sem, World.cell?_alloc_some, *]; done) | fail); have e11 : w1.cell? ⟨w.heap.size, 1, none⟩ = some (Value.slice oa1 la1 ca1) := cell_on hb1 (by first | (simp [go_sem, *]; done) | (simp [go_sem, World.cell?_alloc_some, *]; done) | fail); have e12 : w1.cell? ⟨w.heap.size, 2, none⟩ = some (Value.slice oa2 la2 ca2) := cell_on hb1 (by first | (simp [go_sem, *]; done) | (simp [go_sem, World.cell?_alloc_some, *]; done) | fail); have e13 : w1.cell? ⟨w.heap.size + 1, 0, none⟩ = some (.bool bd) := cell_on hb1 (by first | (simp [go_sem, *]; done) | (simp [go_sem, World.cell?_alloc_some, *]; done) | fail); have e14 : w1.cell? ⟨w.heap.size + 1, 1, none⟩ = some (Value.slice od1 ld1 cd1) := cell_on hb1 (by first | (simp [go_sem, *]; done) | (simp [go_sem, World.cell?_alloc_some, *]; done) | fail); have e15 : w1.cell? ⟨w.heap.size + 1, 2, none⟩ = some (Value.slice od2 ld2 cd2) := cell_on hb1 (by first | (simp [go_sem, *]; done) | (simp [go_sem, World.cell?_alloc_some, *]; done) | fail); have s10 : w.heap.size < w1.heap.size := World.block_lt_of_cell? _ _ e10; have t10 : w.heap.size < w1.heap.size + 1 := Nat.lt_succ_of_lt s10; have s13 : w.heap.size + 1 < w1.heap.size := World.block_lt_of_cell? _ _ e13; have t13 : w.heap.size + 1 < w1.heap.size + 1 := Nat.lt_succ_of_lt s13; have q1 := hb1.size; (try simp at q1); obtain ⟨bs, os, ls, cs, rfl, Hs⟩ := hv.open; clear hv) | (go_at_call 51; (with_reducible refine (itimes_any _ _ p (s : Int) _ (IsI.below (IsI.mk Ha.out.1 Ha.out.2.1) (by repeat (first | exact Below.refl _ _ | assumption | apply Below.drew | refine Below.setCell ?_ (by first | omega | (simp; done) | (simp; omega)) _ | refine Below.alloc ?_ (by first | omega | (simp; done) | (simp; omega)) _ | refine Below.trans ?_ (hb1.mono (by first | omega | (simp; done) | (simp; omega)))))) ((IsI.mk Hs.out.1 Hs.out.2.1).below (by repeat (first | exact Below.refl _ _ | assumption | apply Below.drew | refine Below.setCell ?_ (by first | omega | (simp; done) | (simp; omega)) _ | refine Below.alloc ?_ (by first | omega | (simp; done) | (simp; omega)) _))) G.out.1 G.out.2.2.2.1).mono ?_); rintro e w2 ⟨vt, rfl, hv, hb2⟩; have e20 : w2.cell? ⟨w.heap.size, 0, none⟩ = some (.bool ba) := cell_on hb2 (by first | (simp [go_sem, *]; done) | (simp [go_sem, World.cell?_alloc_some, *]; done) | fail); have e21 : w2.cell? ⟨w.heap.size, 1, none⟩ = some (Value.slice oa1 la1 ca1) := cell_on hb2 (by first | (simp [go_sem, *]; done) | (simp [go_sem, World.cell?_alloc_some, *]; done) | fail); have e22 : w2.cell? ⟨w.heap.size, 2, none⟩ = some (Value.slice oa2 la2 ca2) := cell_on hb2 (by first | (simp [go_sem, *]; done) | (simp [go_sem, World.cell?_alloc_some, *]; done) | fail); have e23 : w2.cell? ⟨w.heap.size + 1, 0, none⟩ = some (.bool bd) := cell_on hb2 (by first | (simp [go_sem, *]; done) | (simp [go_sem, World.cell?_alloc_some, *]; done) | fail); have e24 : w2.cell? ⟨w.heap.size + 1, 1, none⟩ = some (Value.slice od1 ld1 cd1) := cell_on hb2 (by first | (simp [go_sem, *]; done) | (simp [go_sem, World.cell?_alloc_some, *]; done) | fail); have e25 : w2.cell? ⟨w.heap.size + 1, 2, none⟩ = some (Value.slice od2 ld2 cd2) := cell_on hb2 (by first | (simp [go_sem, *]; done) | (simp [go_sem, World.cell?_alloc_some, *]; done) | fail); have s20 : w.heap.size < w2.heap.size := World.block_lt_of_cell? _ _ e20; have t20 : w.heap.size < w2.heap.size + 1 := Nat.lt_succ_of_lt s20; have s23 : w.heap.size + 1 < w2.heap.size := World.block_lt_of_cell? _ _ e23; have t23 : w.heap.size + 1 < w2.heap.size + 1 := Nat.lt_succ_of_lt s23; have q2 := hb2.size; (try simp at q2); obtain ⟨bt, ot, lt, ct, rfl, Ht⟩ := hv.open; clear hv) | (go_at_call 81; (with_reducible refine (den_any _ p q _ (IsR.below (IsR.mk Ha) (by repeat (first | exact Below.refl _ _ | assumption | apply Below.drew | refine Below.setCell ?_ (by first | omega | (simp; done) | (simp; omega)) _ | refine Below.alloc ?_ (by first | omega | (simp; done) | (simp; omega)) _ | refine Below.trans ?_ (hb2.mono (by first | omega | (simp; done) | (simp; omega))) | refine Below.trans ?_ (hb1.mono (by first | omega | (simp; done) | (simp; omega))))))).mono ?_); rintro e w3 ⟨vq, rfl, hv, hb3⟩; have e30 : w3.cell? ⟨w.heap.size, 0, none⟩ = some (.bool ba) := cell_on hb3 (by first | (simp [go_sem, *]; done) | (simp [go_sem, World.cell?_alloc_some, *]; done) | fail); have e31 : w3.cell? ⟨w.heap.size, 1, none⟩ = some (Value.slice oa1 la1 ca1) := cell_on hb3 (by first | (simp [go_sem, *]; done) | (simp [go_sem, World.cell?_alloc_some, *]; done) | fail); have e32 : w3.cell? ⟨w.heap.size, 2, none⟩ = some (Value.slice oa2 la2 ca2) := cell_on hb3 (by first | (simp [go_sem, *]; done) | (simp [go_sem, World.cell?_alloc_some, *]; done) | fail); have e33 : w3.cell? ⟨w.heap.size + 1, 0, none⟩ = some (.bool bd) := cell_on hb3 (by first | (simp [go_sem, *]; done) | (simp [go_sem, World.cell?_alloc_some, *]; done) | fail); have e34 : w3.cell? ⟨w.heap.size + 1, 1, none⟩ = some (Value.slice od1 ld1 cd1) := cell_on hb3 (by first | (simp [go_sem, *]; done) | (simp [go_sem, World.cell?_alloc_some, *]; done) | fail); have e35 : w3.cell? ⟨w.heap.size + 1, 2, none⟩ = some (Value.slice od2 ld2 cd2) := cell_on hb3 (by first | (simp [go_sem, *]; done) | (simp [go_sem, World.cell?_alloc_some, *]; done) | fail); have s30 : w.heap.size < w3.heap.size := World.block_lt_of_cell? _ _ e30; have t30 : w.heap.size < w3.heap.size + 1 := Nat.lt_succ_of_lt s30; have s33 : w.heap.size + 1 < w3.heap.size := World.block_lt_of_cell? _ _ e33; have t33 : w.heap.size + 1 < w3.heap.size + 1 := Nat.lt_succ_of_lt s33; have q3 := hb3.size; (try simp at q3); obtain ⟨bq, oq, lq, cq, rfl, Hq⟩ := hv.open; clear hv) | (go_at_call 51; (with_reducible refine (itimes_any _ _ r (q : Int) _ (IsI.below (IsI.mk Hd.out.1 Hd.out.2.1) (by repeat (first | exact Below.refl _ _ | assumption | apply Below.drew | refine Below.setCell ?_ (by first | omega | (simp; done) | (simp; omega)) _ | refine Below.alloc ?_ (by first | omega | (simp; done) | (simp; omega)) _ | refine Below.trans ?_ (hb3.mono (by first | omega | (simp; done) | (simp; omega))) | refine Below.trans ?_ (hb2.mono (by first | omega | (simp; done) | (simp; omega))) | refine Below.trans ?_ (hb1.mono (by first | omega | (simp; done) | (simp; omega)))))) ((IsI.mk Hq.out.1 Hq.out.2.1).below (by repeat (first | exact Below.refl _ _ | assumption | apply Below.drew | refine Below.setCell ?_ (by first | omega | (simp; done) | (simp; omega)) _ | refine Below.alloc ?_ (by first | omega | (simp; done) | (simp; omega)) _))) G.out.2.1 G.out.2.2.1).mono ?_); rintro e w4 ⟨vu, rfl, hv, hb4⟩; have e40 : w4.cell? ⟨w.heap.size, 0, none⟩ = some (.bool ba) := cell_on hb4 (by first | (simp [go_sem, *]; done) | (simp [go_sem, World.cell?_alloc_some, *]; done) | fail); have e41 : w4.cell? ⟨w.heap.size, 1, none⟩ = some (Value.slice oa1 la1 ca1) := cell_on hb4 (by first | (simp [go_sem, *]; done) | (simp [go_sem, World.cell?_alloc_some, *]; done) | fail); have e42 : w4.cell? ⟨w.heap.size, 2, none⟩ = some (Value.slice oa2 la2 ca2) := cell_on hb4 (by first | (simp [go_sem, *]; done) | (simp [go_sem, World.cell?_alloc_some, *]; done) | fail); have e43 : w4.cell? ⟨w.heap.size + 1, 0, none⟩ = some (.bool bd) := cell_on hb4 (by first | (simp [go_sem, *]; done) | (simp [go_sem, World.cell?_alloc_some, *]; done) | fail); have e44 : w4.cell? ⟨w.heap.size + 1, 1, none⟩ = some (Value.slice od1 ld1 cd1) := cell_on hb4 (by first | (simp [go_sem, *]; done) | (simp [go_sem, World.cell?_alloc_some, *]; done) | fail); have e45 : w4.cell? ⟨w.heap.size + 1, 2, none⟩ = some (Value.slice od2 ld2 cd2) := cell_on hb4 (by first | (simp [go_sem, *]; done) | (simp [go_sem, World.cell?_alloc_some, *]; done) | fail); have s40 : w.heap.size < w4.heap.size := World.block_lt_of_cell? _ _ e40; have t40 : w.heap.size < w4.heap.size + 1 := Nat.lt_succ_of_lt s40; have s43 : w.heap.size + 1 < w4.heap.size := World.block_lt_of_cell? _ _ e43; have t43 : w.heap.size + 1 < w4.heap.size + 1 := Nat.lt_succ_of_lt s43; have q4 := hb4.size; (try simp at q4); obtain ⟨bu, ou, lu, cu, rfl, Hu⟩ := hv.open; clear hv) | (go_at_call 85; (with_reducible refine (icmp_any _ _ (p * s) (r * q) _ ((IsI.mk Ht.out.1 Ht.out.2.1).below (by repeat (first | exact Below.refl _ _ | assumption | apply Below.drew | refine Below.setCell ?_ (by first | omega | (simp; done) | (simp; omega)) _ | refine Below.alloc ?_ (by first | omega | (simp; done) | (simp; omega)) _ | refine Below.trans ?_ (hb4.mono (by first | omega | (simp; done) | (simp; omega))) | refine Below.trans ?_ (hb3.mono (by first | omega | (simp; done) | (simp; omega)))))) ((IsI.mk Hu.out.1 Hu.out.2.1).below (by repeat (first | exact Below.refl _ _ | assumption | apply Below.drew | refine Below.setCell ?_ (by first | omega | (simp; done) | (simp; omega)) _ | refine Below.alloc ?_ (by first | omega | (simp; done) | (simp; omega)) _))) G.out.2.2.2.2.1 G.out.2.2.2.2.2).mono ?_); rintro e w5 ⟨rfl, hb5⟩; have e50 : w5.cell? ⟨w.heap.size, 0, none⟩ = some (.bool ba) := cell_on hb5 (by first | (simp [go_sem, *]; done) | (simp [go_sem, World.cell?_alloc_some, *]; done) | fail); have e51 : w5.cell? ⟨w.heap.size, 1, none⟩ = some (Value.slice oa1 la1 ca1) := cell_on hb5 (by first | (simp [go_sem, *]; done) | (simp [go_sem, World.cell?_alloc_some, *]; done) | fail); have e52 : w5.cell? ⟨w.heap.size, 2, none⟩ = some (Value.slice oa2 la2 ca2) := cell_on hb5 (by first | (simp [go_sem, *]; done) | (simp [go_sem, World.cell?_alloc_some, *]; done) | fail); have e53 : w5.cell? ⟨w.heap.size + 1, 0, none⟩ = some (.bool bd) := cell_on hb5 (by first | (simp [go_sem, *]; done) | (simp [go_sem, World.cell?_alloc_some, *]; done) | fail); have e54 : w5.cell? ⟨w.heap.size + 1, 1, none⟩ = some (Value.slice od1 ld1 cd1) := cell_on hb5 (by first | (simp [go_sem, *]; done) | (simp [go_sem, World.cell?_alloc_some, *]; done) | fail); have e55 : w5.cell? ⟨w.heap.size + 1, 2, none⟩ = some (Value.slice od2 ld2 cd2) := cell_on hb5 (by first | (simp [go_sem, *]; done) | (simp [go_sem, World.cell?_alloc_some, *]; done) | fail); have s50 : w.heap.size < w5.heap.size := World.block_lt_of_cell? _ _ e50; have t50 : w.heap.size < w5.heap.size + 1 := Nat.lt_succ_of_lt s50; have s53 : w.heap.size + 1 < w5.heap.size := World.block_lt_of_cell? _ _ e53; have t53 : w.heap.size + 1 < w5.heap.size + 1 := Nat.lt_succ_of_lt s53; have q5 := hb5.size; (try simp at q5)))
  all_goals
    go_wp2_with fail
    go_ret
    refine ⟨rfl, ?_⟩
    repeat (first | exact Below.refl _ _ | assumption | apply Below.drew | refine Below.setCell ?_ (by first | omega | (simp; done) | (simp; omega)) _ | refine Below.alloc ?_ (by first | omega | (simp; done) | (simp; omega)) _ | refine Below.trans ?_ (hb5.mono (by first | omega | (simp; done) | (simp; omega))) | refine Below.trans ?_ (hb4.mono (by first | omega | (simp; done) | (simp; omega))) | refine Below.trans ?_ (hb3.mono (by first | omega | (simp; done) | (simp; omega))) | refine Below.trans ?_ (hb2.mono (by first | omega | (simp; done) | (simp; omega))) | refine Below.trans ?_ (hb1.mono (by first | omega | (simp; done) | (simp; omega))))
end Go.Proofs.YtldchepfcgbpiaaGreat
namespace Go.Proofs.YtldchepfcgbpiaaGreat
open Go.RowKit

theorem sd_ab (a : Int) (p : Int) : sd (ng a) (ab a * p) = a * p := by
  unfold sd ng ab
  by_cases h : a < 0
  · have : ((a.natAbs : Nat) : Int) = -a := by omega
    simp only [h, decide_true, if_true, this]
    rw [Int.neg_mul, Int.neg_neg]
  · have : ((a.natAbs : Nat) : Int) = a := by omega
    simp only [h, decide_false, this]; rfl
theorem left_far {a : Int} (ha : R a) (n : Nat) (h1 : n ≤ 126) (h : 128 < bl (ab a) + n) : ¬ R (a * 2 ^ n) := by
  have hU := U_ab ha
  have h0 : ab a ≠ 0 := by intro e; rw [e, bl_zero] at h; omega
  obtain ⟨b1, b2, b3⟩ := bl_bd hU h0
  have m := pow_mono (show 128 ≤ (bl (ab a) - 1) + n by omega)
  rw [Int.pow_add, pow128] at m
  have := Int.mul_le_mul_of_nonneg_right b2 (show (0 : Int) ≤ 2 ^ n from Int.le_of_lt (Int.pow_pos (by decide)))
  have e := sd_ab a (2 ^ n)
  intro hr
  rw [← e, R_iff] at hr
  unfold sd at hr
  split at hr <;> omega
theorem left_near {a : Int} (ha : R a) (n : Nat) (h : bl (ab a) + n ≤ 128) : ws (ab a * 2 ^ n) = ab a * 2 ^ n := by
  have hU := U_ab ha
  have hb := ab_bd ha
  by_cases h0 : ab a = 0
  · rw [h0, Int.zero_mul]; rfl
  obtain ⟨b1, b2, b3⟩ := bl_bd hU h0
  have m := pow_mono (show bl (ab a) + n ≤ 128 from h)
  rw [Int.pow_add, pow128] at m
  have hp : (0 : Int) < 2 ^ n := Int.pow_pos (by decide)
  have := Int.mul_le_mul_of_nonneg_right (show ab a + 1 ≤ 2 ^ bl (ab a) by omega) (Int.le_of_lt hp)
  rw [Int.add_mul] at this
  have p0 : 0 ≤ ab a * 2 ^ n := Int.mul_nonneg hb.1 (Int.le_of_lt hp)
  exact ws_in (by rw [U_iff]; omega)

theorem mul_bd {a b : Int} (a0 : -9223372036854775808 ≤ a) (a1 : a ≤ 9223372036854775807) (b0 : -9223372036854775808 ≤ b) (b1 : b ≤ 9223372036854775807) :
    -85070591730234615865843651857942052864 ≤ a * b ∧ a * b ≤ 85070591730234615865843651857942052864 := by
  have h : (a * b).natAbs ≤ 9223372036854775808 * 9223372036854775808 := by
    rw [Int.natAbs_mul]; exact Nat.mul_le_mul (by omega) (by omega)
  omega
/-- The product's high half, as it is mended for the signs. -/
def mh (a b h : Int) : Int :=
  let h1 := if a < 0 then IntKind.u64.wrap (h - IntKind.u64.wrap b) else h
  if b < 0 then IntKind.u64.wrap (h1 - IntKind.u64.wrap a) else h1
theorem mul_halves {a b : Int} (a0 : -9223372036854775808 ≤ a) (a1 : a ≤ 9223372036854775807) (b0 : -9223372036854775808 ≤ b) (b1 : b ≤ 9223372036854775807) {X : Int}
    (hX : X = IntKind.u64.wrap a * IntKind.u64.wrap b) : wrap64 (mh a b (X / 18446744073709551616)) = hi (a * b) ∧ X % 18446744073709551616 = lo (a * b) := by
  have bd := mul_bd a0 a1 b0 b1
  have key : X = a * b + (if a < 0 then 18446744073709551616 * b else 0) + (if b < 0 then 18446744073709551616 * a else 0) + (if a < 0 ∧ b < 0 then 340282366920938463463374607431768211456 else 0) := by
    rw [hX, IntKind.wrap_u64, IntKind.wrap_u64]
    by_cases ha : a < 0
    · have ea : a % 18446744073709551616 = a + 18446744073709551616 := by omega
      by_cases hb : b < 0
      · have eb : b % 18446744073709551616 = b + 18446744073709551616 := by omega
        rw [ea, eb, Int.add_mul, Int.mul_add, Int.mul_add]; simp only [ha, hb, if_true, and_self]; omega
      · have eb : b % 18446744073709551616 = b := by omega
        rw [ea, eb, Int.add_mul]; simp only [ha, hb, if_true, if_false, and_false]; omega
    · have ea : a % 18446744073709551616 = a := by omega
      by_cases hb : b < 0
      · have eb : b % 18446744073709551616 = b + 18446744073709551616 := by omega
        rw [ea, eb, Int.mul_add]; simp only [ha, hb, if_true, if_false, false_and]; omega
      · have eb : b % 18446744073709551616 = b := by omega
        rw [ea, eb]; simp only [ha, hb, if_false, and_self]; omega
  clear hX
  generalize a * b = P at *
  unfold mh hi lo wrap64
  simp only [IntKind.wrap_u64]
  by_cases ha : a < 0 <;> by_cases hb : b < 0 <;> simp only [ha, hb, if_true, if_false, and_self, and_false, false_and] at key ⊢ <;> omega
end Go.Proofs.YtldchepfcgbpiaaGreat
namespace Go.Proofs.YtldchepfcgbpiaaGreat
open Go.RowKit

end Go.Proofs.YtldchepfcgbpiaaGreat
namespace Go.Proofs.YtldchepfcgbpiaaGreat
open Go.RowKit

theorem up_cases (n d : Int) : (up n d = true ∧ (ab d < 2 * (ab n % ab d) ∨ (2 * (ab n % ab d) = ab d ∧ ab n / ab d % 2 = 1))) ∨ (up n d = false ∧ (2 * (ab n % ab d) < ab d ∨ (2 * (ab n % ab d) = ab d ∧ ab n / ab d % 2 ≠ 1))) := by
  unfold up
  generalize 2 * (ab n % ab d) = r
  generalize ab n / ab d = q
  generalize ab d = D
  rcases Int.lt_trichotomy r D with h | h | h
  · rw [sg_lt h]; simp; omega
  · rw [h, sg_eq]
    by_cases hq : q % 2 = 1
    · simp [hq]
    · simp [hq]
  · have e : sg r D = 1 := by unfold sg; rw [if_neg (by omega), if_pos h]
    rw [e]; simp; omega
end Go.Proofs.YtldchepfcgbpiaaGreat
namespace Go.Proofs.YtldchepfcgbpiaaGreat
open Go.RowKit

end Go.Proofs.YtldchepfcgbpiaaGreat
namespace Go.Proofs.YtldchepfcgbpiaaGreat
open Go.RowKit

end Go.Proofs.YtldchepfcgbpiaaGreat
namespace Go.Proofs.YtldchepfcgbpiaaGreat
open Go.RowKit

/-- Is v a word? -/
def wd (v : Int) : Bool := decide (-140737488355328 < v ∧ v < 140737488355328)
/-- Are these counts of fraction bits? -/
def fb (f : Int) : Bool := decide (8 ≤ f ∧ f ≤ 32)
/-- A number told as a word; and the error beside it. -/
def tw (v : Int) : Int := if wd v = true then v else 0
def te (v : Int) : Int := if wd v = true then 0 else 3
theorem wd_bd {v : Int} (h : wd v = true) : -140737488355328 < v ∧ v < 140737488355328 := of_decide_eq_true h
theorem wd_mk {v : Int} (h : -140737488355328 < v ∧ v < 140737488355328) : wd v = true := decide_eq_true h
theorem wd_no {v : Int} (h : wd v = false) : v ≤ -140737488355328 ∨ 140737488355328 ≤ v := by have := of_decide_eq_false h; omega
theorem fb_bd {f : Int} (h : fb f = true) : 8 ≤ f ∧ f ≤ 32 := of_decide_eq_true h
theorem fb_no {f : Int} (h : fb f = false) : f < 8 ∨ 32 < f := by have := of_decide_eq_false h; omega
theorem tw_in {v : Int} (h : wd v = true) : tw v = v := if_pos h
theorem te_in {v : Int} (h : wd v = true) : te v = 0 := if_pos h
theorem tw_out {v : Int} (h : wd v = false) : tw v = 0 := if_neg (by simp [h])
theorem te_out {v : Int} (h : wd v = false) : te v = 3 := if_neg (by simp [h])
/-- fx.Check -/
theorem check_any (v : Int) (w : World) : Calls Tryz.prog 22 #[.int .i64 v] w fun e w' => e = .returned (.int .i64 (if wd v = true then 0 else 1)) ∧ w = w' := by
  cases g : wd v with
  | true =>
    obtain ⟨g1, g2⟩ := wd_bd g
    clear g
    go_enter Tryz.func22, Tryz.ntmps22
    go_wp2
    go_ret
    exact ⟨rfl, rfl⟩
  | false =>
    have h := wd_no g
    clear g
    by_cases g1 : v ≤ -140737488355328
    · clear h
      go_enter Tryz.func22, Tryz.ntmps22
      go_wp2
      go_ret
      exact ⟨rfl, rfl⟩
    · have g2 : 140737488355328 ≤ v := by omega
      clear h
      go_enter Tryz.func22, Tryz.ntmps22
      go_wp2
      go_ret
      exact ⟨rfl, rfl⟩
/-- fx.CheckF -/
theorem checkf_any (v : Int) (w : World) : Calls Tryz.prog 23 #[.int .i64 v] w fun e w' => e = .returned (.int .i64 (if fb v = true then 0 else 1)) ∧ w = w' := by
  cases g : fb v with
  | true =>
    obtain ⟨g1, g2⟩ := fb_bd g
    clear g
    go_enter Tryz.func23, Tryz.ntmps23
    go_wp2
    go_ret
    exact ⟨rfl, rfl⟩
  | false =>
    have h := fb_no g
    clear g
    by_cases g1 : v < 8
    · clear h
      go_enter Tryz.func23, Tryz.ntmps23
      go_wp2
      go_ret
      exact ⟨rfl, rfl⟩
    · have g2 : 32 < v := by omega
      clear h
      go_enter Tryz.func23, Tryz.ntmps23
      go_wp2
      go_ret
      exact ⟨rfl, rfl⟩
end Go.Proofs.YtldchepfcgbpiaaGreat
namespace Go.Proofs.YtldchepfcgbpiaaGreat
open Go.RowKit

theorem ab_mul (a b : Int) : ab (a * b) = ab a * ab b := by unfold ab; rw [Int.natAbs_mul]; rfl
theorem ng_mul_pos (a : Int) {k : Int} (hk : 0 < k) : ng (a * k) = ng a := by
  unfold ng
  rw [Bool.eq_iff_iff]; simp only [decide_eq_true_eq]
  constructor
  · intro h
    rcases Int.lt_or_le a 0 with h1 | h1
    · exact h1
    · have := Int.mul_nonneg h1 (Int.le_of_lt hk); omega
  · intro h; exact Int.mul_neg_of_neg_of_pos h hk
theorem sg_scale (a b : Int) {k : Int} (hk : 0 < k) : sg (a * k) (b * k) = sg a b := by
  rcases Int.lt_trichotomy a b with h | h | h
  · rw [sg_lt h, sg_lt (Int.mul_lt_mul_of_pos_right h hk)]
  · rw [h, sg_eq, sg_eq]
  · rw [sg_gt h, sg_gt (Int.mul_lt_mul_of_pos_right h hk)]
theorem rd_scale (n d : Int) {k : Int} (hk : 0 < k) : rd (n * k) (d * k) = rd n d := by
  have ek : ab k = k := by unfold ab; omega
  unfold rd up
  have er : ab n * k % (ab d * k) = (ab n % ab d) * k := by rw [Int.mul_comm (ab n) k, Int.mul_comm (ab d) k, Int.mul_emod_mul_of_pos _ _ hk, Int.mul_comm]
  rw [ab_mul, ab_mul, ng_mul_pos n hk, ng_mul_pos d hk, ek, Int.mul_ediv_mul_of_pos_left _ _ hk, er, ← Int.mul_assoc, sg_scale _ _ hk]
end Go.Proofs.YtldchepfcgbpiaaGreat
