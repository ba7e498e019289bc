/-
  The references' whole numbers: the greatest divisor of two.
  The references' whole numbers with a sign: as a word, halved, divided.
  The references' whole numbers with a sign: halved, divided.
  The references' whole numbers with a sign: divided, rounded down.
  The references' rational numbers: made, in lowest terms.
  The references' rational numbers: the nearest whole one.
  Shifted and rounded back: whole numbers.
  Rounded quotients: of multiples, of negatives.
  The nearest whole number to a quotient, as the references reckon it.
  The document's own answer for package wide: the nearest quotient.
  The document's own answer for package wide: a wide number as a whole one.
  The document's own answer for package fx: sums, products, quotients, closings, told as words.
  What is rounded to the nearest does not fall.
-/
import Derived.Test.YtchakmkoimgakaaM06
import Derived.Test.YtchakmkoimgakaaM07
import Derived.Test.YtchakmkoimgakaaM09
import Derived.Test.YtchakmkoimgakaaM11
import Derived.Test.YtchakmkoimgakaaM16
import Derived.Test.YtchakmkoimgakaaM17
namespace Go.Proofs.Ytchakmkoimgakaa
open Go.RowKit

theorem Rd.eq {k : IntKind} {w : World} {v : Value} {xs ys : List Nat} (hx : Rd k w v xs) (hy : Rd k w v ys) : xs = ys := by
  obtain ⟨o1, c1, e1, h1⟩ := hx.form
  obtain ⟨o2, c2, e2, h2⟩ := hy.form
  rw [e1] at e2
  simp only [Value.slice.injEq] at e2
  obtain ⟨ho, hl, _⟩ := e2
  apply List.ext_getElem hl
  intro i hi hi2
  obtain ⟨b, off, eo, _, hc⟩ := h1 i hi
  obtain ⟨b', off', eo', _, hc'⟩ := h2 i hi2
  rw [eo] at ho
  rw [← ho] at eo'
  simp only [Option.some.injEq, Addr.mk.injEq, and_true] at eo'
  obtain ⟨rfl, rfl⟩ := eo'
  rw [hc] at hc'
  simp only [Option.some.injEq, Value.int.injEq, true_and] at hc'
  simp only [List.getD, List.getElem?_eq_getElem hi, List.getElem?_eq_getElem hi2, Option.getD_some] at hc'
  omega
theorem IsN.eq {w : World} {v : Value} {m n : Nat} (hm : IsN w v m) (hn : IsN w v n) : m = n := by
  obtain ⟨xs, r1, _, e1, _⟩ := hm
  obtain ⟨ys, r2, _, e2, _⟩ := hn
  rw [← e1, ← e2, r1.eq r2]
open Classical in
/-- The number that a slice is, if it is one. -/
noncomputable def numOf (w : World) (v : Value) : Nat := if h : ∃ n, IsN w v n then h.choose else 0
theorem IsN.num {w : World} {v : Value} {n : Nat} (h : IsN w v n) : numOf w v = n := by
  have h' : ∃ n, IsN w v n := ⟨n, h⟩
  unfold numOf
  rw [dif_pos h']
  exact h'.choose_spec.eq h

end Go.Proofs.Ytchakmkoimgakaa
namespace Go.Proofs.Ytchakmkoimgakaa
open Go.RowKit

/-- The lowest limb of a number that has one. -/
theorem IsN.low {w : World} {o : Option Addr} {l c n : Nat} (h : IsN w (.slice o l c) n) (hl : l ≠ 0) :
    ∃ b off x, o = some ⟨b, off, none⟩ ∧ w.cell? ⟨b, off, none⟩ = some (.int .u64 (x : Nat)) ∧ x < 18446744073709551616 ∧ x = n % 18446744073709551616 ∧ (l = 1 → x = n) ∧ (1 < l → 18446744073709551616 ≤ n) := by
  obtain ⟨ls, r, h1, h2, h3⟩ := h
  obtain ⟨o', c', e, hc⟩ := r.form
  simp only [Value.slice.injEq] at e
  obtain ⟨rfl, rfl, rfl⟩ := e
  obtain ⟨b, off, rfl, _, hcell⟩ := hc 0 (by omega)
  have gx := getD_lt (by decide) h1 0
  have lm := limb_at h1 0
  rw [Nat.pow_zero, Nat.div_one, h2] at lm
  refine ⟨b, off, ls.getD 0 0, rfl, hcell, gx, lm.symm, fun e => ?_, fun e => ?_⟩
  · match ls, e with
    | [x], _ => rw [← h2]; simp [lval]
  · have := lval_ge 18446744073709551616 ls h3 (by intro e'; rw [e'] at e; simp at e)
    rw [h2] at this
    have p := Nat.pow_le_pow_right (show 0 < 18446744073709551616 by decide) (show 1 ≤ ls.length - 1 by omega)
    rw [Nat.pow_one] at p
    omega
theorem isS_f {z : Int} (h : z < -9223372036854775808 ∨ 9223372036854775807 < z) : isS z = false ∧ sm z = 0 := by
  have : isS z = false := by unfold isS; simp only [decide_eq_false_iff_not]; omega
  exact ⟨this, if_neg (by simp [this])⟩
theorem isS_t {z : Int} (h : -9223372036854775808 ≤ z ∧ z ≤ 9223372036854775807) : isS z = true ∧ sm z = z := ⟨isS_mk h, if_pos (isS_mk h)⟩

set_option maxRecDepth 100000 in
set_option maxHeartbeats 4000000 in
/-- Small -/
theorem ismall_any (x : Value) (z : Int) (w : World) (h : IsI w x z) : Calls Try.prog 53 #[x] w fun e w' => e = .returned (.tuple #[.int .i64 (sm z), .bool (isS z)]) ∧ Below w.heap.size w w' := by
  obtain ⟨ba, oa, la, ca, rfl, Ha⟩ := h.open
  by_cases h0 : la = 0
  · have hz := Ha.out.2.2.1 h0
    have H := Lib.hid (isS_t (z := z) (by omega))
    have HZ := Lib.hid hz
    subst h0
    clear hz h
    go_enter Try.func53, Try.ntmps53
    go_wp2
    go_ret2
    exact ⟨by rw [H.out.1, H.out.2, HZ.out] <;> rfl, by repeat (first | exact Below.refl _ _ | assumption | apply Below.drew | refine Below.setCell ?_ (by first | omega | (simp; done) | (simp; omega)) _ | refine Below.alloc ?_ (by first | omega | (simp; done) | (simp; omega)) _)⟩
  · obtain ⟨b, off, m, rfl, hc, mb, -, m1, m2⟩ := Ha.out.2.1.low h0
    have hbl : b < w.heap.size := World.block_lt_of_cell? _ _ hc
    by_cases h1 : la = 1
    · have em := m1 h1
      subst h1
      have hneg := Ha.out.1
      clear m1 m2 h
      cases ba with
      | true =>
        have zn : z < 0 := by simpa using hneg.symm
        rcases Nat.lt_or_ge 9223372036854775808 m with hm | hm
        · have H := Lib.hid (isS_f (z := z) (by omega))
          have hm' : (9223372036854775808 : Int) < (m : Int) := by omega
          clear em zn hm hneg
          go_enter Try.func53, Try.ntmps53
          go_wp2
          go_ret2
          exact ⟨by rw [H.out.1, H.out.2] <;> rfl, by repeat (first | exact Below.refl _ _ | assumption | apply Below.drew | refine Below.setCell ?_ (by first | omega | (simp; done) | (simp; omega)) _ | refine Below.alloc ?_ (by first | omega | (simp; done) | (simp; omega)) _)⟩
        · have H := Lib.hid (isS_t (z := z) (by omega))
          have hm' : ¬ (9223372036854775808 : Int) < (m : Int) := by omega
          have e1 : wrap64 (IntKind.u64.wrap (-(m : Int))) = -(m : Int) := by rw [IntKind.wrap_u64]; unfold wrap64; omega
          have ez := Lib.hid (show z = -(m : Int) by omega)
          clear em zn hm hneg
          go_enter Try.func53, Try.ntmps53
          go_wp2
          go_ret2
          exact ⟨by rw [H.out.1, H.out.2, ez.out] <;> rfl, by repeat (first | exact Below.refl _ _ | assumption | apply Below.drew | refine Below.setCell ?_ (by first | omega | (simp; done) | (simp; omega)) _ | refine Below.alloc ?_ (by first | omega | (simp; done) | (simp; omega)) _)⟩
      | false =>
        have zp : 0 ≤ z := by simpa using hneg.symm
        rcases Nat.lt_or_ge m 9223372036854775808 with hm | hm
        · have H := Lib.hid (isS_t (z := z) (by omega))
          have hm' : ¬ (9223372036854775808 : Int) ≤ (m : Int) := by omega
          have e1 : wrap64 (m : Int) = (m : Int) := by unfold wrap64; omega
          have ez := Lib.hid (show z = (m : Int) by omega)
          clear em zp hm hneg
          go_enter Try.func53, Try.ntmps53
          go_wp2
          go_ret2
          exact ⟨by rw [H.out.1, H.out.2, ez.out] <;> rfl, by repeat (first | exact Below.refl _ _ | assumption | apply Below.drew | refine Below.setCell ?_ (by first | omega | (simp; done) | (simp; omega)) _ | refine Below.alloc ?_ (by first | omega | (simp; done) | (simp; omega)) _)⟩
        · have H := Lib.hid (isS_f (z := z) (by omega))
          have hm' : (9223372036854775808 : Int) ≤ (m : Int) := by omega
          clear em zp hm hneg
          go_enter Try.func53, Try.ntmps53
          go_wp2
          go_ret2
          exact ⟨by rw [H.out.1, H.out.2] <;> rfl, by repeat (first | exact Below.refl _ _ | assumption | apply Below.drew | refine Below.setCell ?_ (by first | omega | (simp; done) | (simp; omega)) _ | refine Below.alloc ?_ (by first | omega | (simp; done) | (simp; omega)) _)⟩
    · have hm := m2 (by omega)
      have H := Lib.hid (isS_f (z := z) (by omega))
      have l1 : (1 : Int) < (la : Int) := by omega
      clear m1 m2 hm h
      go_enter Try.func53, Try.ntmps53
      go_wp2
      go_ret2
      exact ⟨by rw [H.out.1, H.out.2] <;> rfl, by repeat (first | exact Below.refl _ _ | assumption | apply Below.drew | refine Below.setCell ?_ (by first | omega | (simp; done) | (simp; omega)) _ | refine Below.alloc ?_ (by first | omega | (simp; done) | (simp; omega)) _)⟩
end Go.Proofs.Ytchakmkoimgakaa
namespace Go.Proofs.Ytchakmkoimgakaa
open Go.RowKit

theorem right_pos {z : Int} (h : 0 ≤ z) (n : Nat) : z / 2 ^ n = if false = true then -((z.natAbs / 2 ^ n : Nat) : Int) else ((z.natAbs / 2 ^ n : Nat) : Int) := by
  rw [if_neg (by decide), Int.natCast_ediv, Int.natAbs_of_nonneg h]
  simp
theorem right_even {z : Int} {n m : Nat} (h : z < 0) (_hm : m = z.natAbs / 2 ^ n) (he : m * 2 ^ n = z.natAbs) : z / 2 ^ n = -(m : Int) := by
  have p : (0 : Int) < 2 ^ n := Int.pow_pos (by decide)
  have e : z = -(m : Int) * 2 ^ n := by
    have : ((m * 2 ^ n : Nat) : Int) = z.natAbs := by rw [he]
    rw [Int.natCast_mul, Int.natCast_pow] at this
    rw [Int.neg_mul]
    have e2 : ((2 : Nat) : Int) = 2 := rfl
    rw [e2] at this
    omega
  rw [e, Int.mul_ediv_cancel _ (by omega)]
theorem right_odd {z : Int} {n m : Nat} (h : z < 0) (hm : m = z.natAbs / 2 ^ n) (he : m * 2 ^ n ≠ z.natAbs) : z / 2 ^ n = -((m + 1 : Nat) : Int) := by
  have p : (0 : Nat) < 2 ^ n := Nat.two_pow_pos n
  have d := Nat.div_add_mod z.natAbs (2 ^ n)
  have l := Nat.mod_lt z.natAbs p
  rw [← hm] at d
  have r0 : z.natAbs % 2 ^ n ≠ 0 := by intro e; rw [e, Nat.mul_comm] at d; exact he (by omega)
  have hP : (((2 : Nat) ^ n : Nat) : Int) = (2 : Int) ^ n := by simp
  rw [← hP]
  generalize z.natAbs % 2 ^ n = r at *
  generalize (2 : Nat) ^ n = P at *
  have e : z = ((P : Int) - r) + (P : Int) * (-((m : Int) + 1)) := by
    have h1 : ((P * m + r : Nat) : Int) = z.natAbs := by rw [d]
    rw [Int.natCast_add, Int.natCast_mul] at h1
    rw [Int.mul_neg, Int.mul_add, Int.mul_one]
    generalize (P : Int) * (m : Int) = A at *
    omega
  rw [e, Int.add_mul_ediv_left _ _ (by omega), Int.ediv_eq_zero_of_lt (by omega) (by omega)]
  omega

theorem nof_1 (w : World) : Calls Try.prog 58 #[.int .u64 1] w (SomeN w 1) := nof_num 1 w (by decide)
end Go.Proofs.Ytchakmkoimgakaa
namespace Go.Proofs.Ytchakmkoimgakaa
open Go.RowKit

def SomeII (w : World) (q r : Int) (e : Ending) (w' : World) : Prop := ∃ u v, e = .returned (.tuple #[u, v]) ∧ IsI w' u q ∧ IsI w' v r ∧ Below w.heap.size w w'

theorem dn_same {a b : Int} {x y : Bool} (hx : x = decide (a < 0)) (hy : y = decide (b < 0)) (h : (x == y) = true) : dn a b = ((a.natAbs / b.natAbs : Nat) : Int) := by
  have e : (ng a != ng b) = false := by
    unfold ng; rw [← hx, ← hy]; cases x <;> cases y <;> simp at h ⊢
  unfold dn
  rw [e]
  simp [sd, ab]
theorem dn_even {a b : Int} {x y : Bool} (hx : x = decide (a < 0)) (hy : y = decide (b < 0)) (h : (x == y) = false) (hr : a.natAbs % b.natAbs = 0) : dn a b = -((a.natAbs / b.natAbs : Nat) : Int) := by
  have e : (ng a != ng b) = true := by
    unfold ng; rw [← hx, ← hy]; cases x <;> cases y <;> simp at h ⊢
  have r : (ab a % ab b == 0) = true := by
    have : ab a % ab b = ((a.natAbs % b.natAbs : Nat) : Int) := rfl
    rw [this, hr]; rfl
  unfold dn
  rw [e, r]
  simp [sd, ab]
theorem dn_odd {a b : Int} {x y : Bool} (hx : x = decide (a < 0)) (hy : y = decide (b < 0)) (h : (x == y) = false) (hr : a.natAbs % b.natAbs ≠ 0) : dn a b = -((a.natAbs / b.natAbs : Nat) : Int) - 1 := by
  have e : (ng a != ng b) = true := by
    unfold ng; rw [← hx, ← hy]; cases x <;> cases y <;> simp at h ⊢
  have r : (ab a % ab b == 0) = false := by
    have : ab a % ab b = ((a.natAbs % b.natAbs : Nat) : Int) := rfl
    rw [this, beq_eq_false_iff_ne]; omega
  have q : ab a / ab b = ((a.natAbs / b.natAbs : Nat) : Int) := rfl
  unfold dn
  rw [e, r, q]
  simp [sd]
  omega
theorem one_big : (1 : Int).natAbs < BIG := big_of (k := 1) (by decide) (by decide)
theorem dn_le {a b : Int} (h0 : b ≠ 0) : (dn a b).natAbs ≤ a.natAbs := by
  have dp : 0 < b.natAbs := by omega
  have q1 := Nat.div_le_self a.natAbs b.natAbs
  have d := Nat.div_add_mod a.natAbs b.natAbs
  by_cases h : (decide (a < 0) == decide (b < 0)) = true
  · rw [dn_same rfl rfl h]
    generalize a.natAbs / b.natAbs = q at *
    omega
  · have h : (decide (a < 0) == decide (b < 0)) = false := by simpa using h
    by_cases hr : a.natAbs % b.natAbs = 0
    · rw [dn_even rfl rfl h hr]
      generalize a.natAbs / b.natAbs = q at *
      omega
    · rw [dn_odd rfl rfl h hr]
      have l := Nat.mod_lt a.natAbs dp
      have : 1 * (a.natAbs / b.natAbs) ≤ b.natAbs * (a.natAbs / b.natAbs) := Nat.mul_le_mul_right _ dp
      generalize a.natAbs / b.natAbs = q at *
      generalize b.natAbs * q = m at *
      omega
theorem dn_mul {a b : Int} (ga : a.natAbs < MID) (gb : b.natAbs < MID) (h0 : b ≠ 0) : (dn a b).natAbs < BIG ∧ (dn a b * b).natAbs < BIG := by
  have h := dn_le (a := a) h0
  refine ⟨Nat.lt_of_le_of_lt h (mid_big ga), ?_⟩
  rw [Int.natAbs_mul]
  unfold MID at ga gb
  exact big_of (k := 131073) (mul_pow_lt 65536 65536 131073 (Nat.le_of_lt (Nat.lt_of_le_of_lt h ga)) (Nat.le_of_lt gb) (by decide)) (by decide)

end Go.Proofs.Ytchakmkoimgakaa
namespace Go.Proofs.Ytchakmkoimgakaa
open Go.RowKit

theorem mid_gcd {n d : Nat} (h0 : d ≠ 0) (ld : d < MID) : Nat.gcd n d ≠ 0 ∧ Nat.gcd n d < MID := by
  have p := Nat.gcd_pos_of_pos_right n (Nat.pos_of_ne_zero h0)
  have l := Nat.gcd_le_right n (Nat.pos_of_ne_zero h0)
  exact ⟨by omega, Nat.lt_of_le_of_lt l ld⟩
abbrev Rv (b : Bool) (m d : Value) : Value := .agg #[.bool b, m, d]
/-- A rational number p / q comes out, its slices written out. -/
def SomeR (w : World) (p : Int) (q : Nat) (e : Ending) (w' : World) : Prop := ∃ b o1 l1 c1 o2 l2 c2, e = .returned (Rv b (.slice o1 l1 c1) (.slice o2 l2 c2)) ∧ Hid (b = decide (p < 0) ∧ IsN w' (.slice o1 l1 c1) p.natAbs ∧ IsN w' (.slice o2 l2 c2) q) ∧ Below w.heap.size w w'
theorem IsN.store3 {w : World} {v u0 u1 u2 : Value} {n B : Nat} {b0 : Bool} {s1 s2 : Value} (h : IsN w v n) (e0 : w.cell? ⟨B, 0, none⟩ = some (.bool b0)) (e1 : w.cell? ⟨B, 1, none⟩ = some s1) (e2 : w.cell? ⟨B, 2, none⟩ = some s2) (n1 : ∀ x, s1 ≠ .int .u64 x := by intro x; simp) (n2 : ∀ x, s2 ≠ .int .u64 x := by intro x; simp) : IsN (((w.setCell ⟨B, 0, none⟩ u0).setCell ⟨B, 1, none⟩ u1).setCell ⟨B, 2, none⟩ u2) v n :=
  ((h.store e0 (by simp)).store ((World.cell?_setCell_other _ _ _ _ (by simp)).trans e1) n1).store ((World.cell?_setCell_other _ _ _ _ (by simp)).trans ((World.cell?_setCell_other _ _ _ _ (by simp)).trans e2)) n2
theorem tdiv_sign {n : Int} {b : Bool} (hb : b = decide (n < 0)) (g : Nat) : n.tdiv (g : Int) = if b = true then -((n.natAbs / g : Nat) : Int) else ((n.natAbs / g : Nat) : Int) := by
  rcases Int.lt_or_le n 0 with h | h
  · rw [hb, if_pos (by simpa using h)]
    have e : n = -((n.natAbs : Nat) : Int) := by omega
    conv => lhs; rw [e]
    rw [Int.neg_tdiv, Int.ofNat_tdiv]
  · rw [hb, if_neg (by simp; omega)]
    have e : n = ((n.natAbs : Nat) : Int) := by omega
    conv => lhs; rw [e]
    rw [Int.ofNat_tdiv]
end Go.Proofs.Ytchakmkoimgakaa
namespace Go.Proofs.Ytchakmkoimgakaa
open Go.RowKit

/-- Twice the number, rounded down. -/
def t2 (p : Int) (q : Nat) : Int := dn (p * 2 ^ 1) q
/-- The nearest whole number to p / q, halves to even. -/
def nr (p : Int) (q : Nat) : Int := if t2 p q / 2 ^ 1 * 2 ^ 1 = t2 p q then t2 p q / 2 ^ 1 else if p * 2 ^ 1 - t2 p q * q ≠ 0 then t2 p q / 2 ^ 1 + 1 else if t2 p q / 2 ^ 1 / 2 ^ 1 * 2 ^ 1 = t2 p q / 2 ^ 1 then t2 p q / 2 ^ 1 else t2 p q / 2 ^ 1 + 1

theorem IsI.al {w : World} {x : Value} {z : Int} (h : IsI w x z) (o : Obj) : IsI (w.alloc o) x z := h.below ((Below.refl _ _).alloc (Nat.le_refl _) _)
theorem fin_i {w w3 : World} {X Y N : Nat} {bq br : Bool} {oq or' : Option Addr} {lq cq lr cr : Nat} {z1 z2 : Int} (hX0 : w3.cell? ⟨X, 0, none⟩ = some (.bool false)) (hX1 : w3.cell? ⟨X, 1, none⟩ = some (.slice none 0 0)) (hY0 : w3.cell? ⟨Y, 0, none⟩ = some (.bool false)) (hY1 : w3.cell? ⟨Y, 1, none⟩ = some (.slice none 0 0)) (hXY : X ≠ Y)
    (hN0 : w3.cell? ⟨N, 0, none⟩ = some (.bool false)) (hN1 : w3.cell? ⟨N, 1, none⟩ = some (.slice none 0 0)) (f0 : w3.frozen? ⟨N, 0, none⟩ = false) (f1 : w3.frozen? ⟨N, 1, none⟩ = false) (hNX : N ≠ X) (hNY : N ≠ Y)
    (Hq : IsI w3 (Iv bq (.slice oq lq cq)) z1) (Hr : IsI w3 (Iv br (.slice or' lr cr)) z2) (hB : Below w.heap.size w w3) (gX : w.heap.size ≤ X) (gY : w.heap.size ≤ Y) :
    ((((w3.setCell ⟨X, 0, none⟩ (.bool bq)).setCell ⟨X, 1, none⟩ (.slice oq lq cq)).setCell ⟨Y, 0, none⟩ (.bool br)).setCell ⟨Y, 1, none⟩ (.slice or' lr cr)).cell? ⟨N, 0, none⟩ = some (.bool false) ∧ ((((w3.setCell ⟨X, 0, none⟩ (.bool bq)).setCell ⟨X, 1, none⟩ (.slice oq lq cq)).setCell ⟨Y, 0, none⟩ (.bool br)).setCell ⟨Y, 1, none⟩ (.slice or' lr cr)).cell? ⟨N, 1, none⟩ = some (.slice none 0 0) ∧ ((((w3.setCell ⟨X, 0, none⟩ (.bool bq)).setCell ⟨X, 1, none⟩ (.slice oq lq cq)).setCell ⟨Y, 0, none⟩ (.bool br)).setCell ⟨Y, 1, none⟩ (.slice or' lr cr)).cell? ⟨X, 0, none⟩ = some (.bool bq) ∧ ((((w3.setCell ⟨X, 0, none⟩ (.bool bq)).setCell ⟨X, 1, none⟩ (.slice oq lq cq)).setCell ⟨Y, 0, none⟩ (.bool br)).setCell ⟨Y, 1, none⟩ (.slice or' lr cr)).cell? ⟨X, 1, none⟩ = some (Value.slice oq lq cq) ∧ ((((w3.setCell ⟨X, 0, none⟩ (.bool bq)).setCell ⟨X, 1, none⟩ (.slice oq lq cq)).setCell ⟨Y, 0, none⟩ (.bool br)).setCell ⟨Y, 1, none⟩ (.slice or' lr cr)).cell? ⟨Y, 0, none⟩ = some (.bool br) ∧ ((((w3.setCell ⟨X, 0, none⟩ (.bool bq)).setCell ⟨X, 1, none⟩ (.slice oq lq cq)).setCell ⟨Y, 0, none⟩ (.bool br)).setCell ⟨Y, 1, none⟩ (.slice or' lr cr)).cell? ⟨Y, 1, none⟩ = some (Value.slice or' lr cr) ∧
    ((((w3.setCell ⟨X, 0, none⟩ (.bool bq)).setCell ⟨X, 1, none⟩ (.slice oq lq cq)).setCell ⟨Y, 0, none⟩ (.bool br)).setCell ⟨Y, 1, none⟩ (.slice or' lr cr)).frozen? ⟨N, 0, none⟩ = false ∧ ((((w3.setCell ⟨X, 0, none⟩ (.bool bq)).setCell ⟨X, 1, none⟩ (.slice oq lq cq)).setCell ⟨Y, 0, none⟩ (.bool br)).setCell ⟨Y, 1, none⟩ (.slice or' lr cr)).frozen? ⟨N, 1, none⟩ = false ∧
    IsI ((((w3.setCell ⟨X, 0, none⟩ (.bool bq)).setCell ⟨X, 1, none⟩ (.slice oq lq cq)).setCell ⟨Y, 0, none⟩ (.bool br)).setCell ⟨Y, 1, none⟩ (.slice or' lr cr)) (Iv bq (.slice oq lq cq)) z1 ∧ IsI ((((w3.setCell ⟨X, 0, none⟩ (.bool bq)).setCell ⟨X, 1, none⟩ (.slice oq lq cq)).setCell ⟨Y, 0, none⟩ (.bool br)).setCell ⟨Y, 1, none⟩ (.slice or' lr cr)) (Iv br (.slice or' lr cr)) z2 ∧ Below w.heap.size w ((((w3.setCell ⟨X, 0, none⟩ (.bool bq)).setCell ⟨X, 1, none⟩ (.slice oq lq cq)).setCell ⟨Y, 0, none⟩ (.bool br)).setCell ⟨Y, 1, none⟩ (.slice or' lr cr)) := by
  have y0 : ((w3.setCell ⟨X, 0, none⟩ (.bool bq)).setCell ⟨X, 1, none⟩ (.slice oq lq cq)).cell? ⟨Y, 0, none⟩ = some (.bool false) := by simp [go_sem, *]
  have y1 : ((w3.setCell ⟨X, 0, none⟩ (.bool bq)).setCell ⟨X, 1, none⟩ (.slice oq lq cq)).cell? ⟨Y, 1, none⟩ = some (.slice none 0 0) := by simp [go_sem, *]
  have hYX : Y ≠ X := fun e => hXY e.symm
  have hXN : X ≠ N := fun e => hNX e.symm
  have hYN : Y ≠ N := fun e => hNY e.symm
  refine ⟨?_, ?_, ?_, ?_, ?_, ?_, by simp [f0], by simp [f1], (Hq.put hX0 (by simp) hX1 (by simp)).put y0 (by simp) y1 (by simp), (Hr.put hX0 (by simp) hX1 (by simp)).put y0 (by simp) y1 (by simp), (((hB.setCell gX _).setCell gX _).setCell gY _).setCell gY _⟩ <;> simp [go_sem, *]
theorem fin_iia {w w3 : World} {X N T : Nat} {bq br : Bool} {oq or' : Option Addr} {lq cq lr cr : Nat} {z1 z2 : Int} (hX0 : w3.cell? ⟨X, 0, none⟩ = some (.bool false)) (hX1 : w3.cell? ⟨X, 1, none⟩ = some (.slice none 0 0))
    (hN0 : w3.cell? ⟨N, 0, none⟩ = some (.bool false)) (hN1 : w3.cell? ⟨N, 1, none⟩ = some (.slice none 0 0)) (f0 : w3.frozen? ⟨N, 0, none⟩ = false) (f1 : w3.frozen? ⟨N, 1, none⟩ = false) (hNX : N ≠ X) (gX : w.heap.size ≤ X)
    (Hq : IsI w3 (Iv bq (.slice oq lq cq)) z1) (Hr : IsI w3 (Iv br (.slice or' lr cr)) z2) (hB : Below w.heap.size w w3) :
    (((w3.setCell ⟨X, 0, none⟩ (.bool bq)).setCell ⟨X, 1, none⟩ (.slice oq lq cq)).alloc (.cells #[.bool br, .slice or' lr cr] T)).cell? ⟨N, 0, none⟩ = some (.bool false) ∧ (((w3.setCell ⟨X, 0, none⟩ (.bool bq)).setCell ⟨X, 1, none⟩ (.slice oq lq cq)).alloc (.cells #[.bool br, .slice or' lr cr] T)).cell? ⟨N, 1, none⟩ = some (.slice none 0 0) ∧ (((w3.setCell ⟨X, 0, none⟩ (.bool bq)).setCell ⟨X, 1, none⟩ (.slice oq lq cq)).alloc (.cells #[.bool br, .slice or' lr cr] T)).cell? ⟨X, 0, none⟩ = some (.bool bq) ∧ (((w3.setCell ⟨X, 0, none⟩ (.bool bq)).setCell ⟨X, 1, none⟩ (.slice oq lq cq)).alloc (.cells #[.bool br, .slice or' lr cr] T)).cell? ⟨X, 1, none⟩ = some (Value.slice oq lq cq) ∧ (((w3.setCell ⟨X, 0, none⟩ (.bool bq)).setCell ⟨X, 1, none⟩ (.slice oq lq cq)).alloc (.cells #[.bool br, .slice or' lr cr] T)).cell? ⟨w3.heap.size, 0, none⟩ = some (.bool br) ∧ (((w3.setCell ⟨X, 0, none⟩ (.bool bq)).setCell ⟨X, 1, none⟩ (.slice oq lq cq)).alloc (.cells #[.bool br, .slice or' lr cr] T)).cell? ⟨w3.heap.size, 1, none⟩ = some (Value.slice or' lr cr) ∧ (((w3.setCell ⟨X, 0, none⟩ (.bool bq)).setCell ⟨X, 1, none⟩ (.slice oq lq cq)).alloc (.cells #[.bool br, .slice or' lr cr] T)).frozen? ⟨N, 0, none⟩ = false ∧ (((w3.setCell ⟨X, 0, none⟩ (.bool bq)).setCell ⟨X, 1, none⟩ (.slice oq lq cq)).alloc (.cells #[.bool br, .slice or' lr cr] T)).frozen? ⟨N, 1, none⟩ = false ∧ IsI (((w3.setCell ⟨X, 0, none⟩ (.bool bq)).setCell ⟨X, 1, none⟩ (.slice oq lq cq)).alloc (.cells #[.bool br, .slice or' lr cr] T)) (Iv bq (.slice oq lq cq)) z1 ∧ IsI (((w3.setCell ⟨X, 0, none⟩ (.bool bq)).setCell ⟨X, 1, none⟩ (.slice oq lq cq)).alloc (.cells #[.bool br, .slice or' lr cr] T)) (Iv br (.slice or' lr cr)) z2 ∧ Below w.heap.size w (((w3.setCell ⟨X, 0, none⟩ (.bool bq)).setCell ⟨X, 1, none⟩ (.slice oq lq cq)).alloc (.cells #[.bool br, .slice or' lr cr] T)) := by
  have s : N < w3.heap.size := World.block_lt_of_cell? _ _ hN0
  have sx : X < w3.heap.size := World.block_lt_of_cell? _ _ hX0
  have hXN : X ≠ N := fun e => hNX e.symm
  have sN := Nat.ne_of_lt s
  have sX := Nat.ne_of_lt sx
  have hs := hB.size
  refine ⟨?_, ?_, ?_, ?_, ?_, ?_, ?_, ?_, (Hq.put hX0 (by simp) hX1 (by simp)).al _, (Hr.put hX0 (by simp) hX1 (by simp)).al _, ((hB.setCell gX _).setCell gX _).alloc (by simp; omega) _⟩ <;> first | (simp [go_sem, *]; done) | (simp [go_sem, frozen?_alloc_cells, *]; done) | (simp [go_sem, World.cell?_alloc_some, *]; done)
theorem fin_iib {w w3 : World} {X N T : Nat} {bq br : Bool} {oq or' : Option Addr} {lq cq lr cr : Nat} {z1 z2 : Int} (hX0 : w3.cell? ⟨X, 0, none⟩ = some (.bool false)) (hX1 : w3.cell? ⟨X, 1, none⟩ = some (.slice none 0 0))
    (hN0 : w3.cell? ⟨N, 0, none⟩ = some (.bool false)) (hN1 : w3.cell? ⟨N, 1, none⟩ = some (.slice none 0 0)) (f0 : w3.frozen? ⟨N, 0, none⟩ = false) (f1 : w3.frozen? ⟨N, 1, none⟩ = false) (hNX : N ≠ X) (gX : w.heap.size ≤ X)
    (Hq : IsI w3 (Iv bq (.slice oq lq cq)) z1) (Hr : IsI w3 (Iv br (.slice or' lr cr)) z2) (hB : Below w.heap.size w w3) :
    (((w3.setCell ⟨X, 0, none⟩ (.bool br)).setCell ⟨X, 1, none⟩ (.slice or' lr cr)).alloc (.cells #[.bool bq, .slice oq lq cq] T)).cell? ⟨N, 0, none⟩ = some (.bool false) ∧ (((w3.setCell ⟨X, 0, none⟩ (.bool br)).setCell ⟨X, 1, none⟩ (.slice or' lr cr)).alloc (.cells #[.bool bq, .slice oq lq cq] T)).cell? ⟨N, 1, none⟩ = some (.slice none 0 0) ∧ (((w3.setCell ⟨X, 0, none⟩ (.bool br)).setCell ⟨X, 1, none⟩ (.slice or' lr cr)).alloc (.cells #[.bool bq, .slice oq lq cq] T)).cell? ⟨w3.heap.size, 0, none⟩ = some (.bool bq) ∧ (((w3.setCell ⟨X, 0, none⟩ (.bool br)).setCell ⟨X, 1, none⟩ (.slice or' lr cr)).alloc (.cells #[.bool bq, .slice oq lq cq] T)).cell? ⟨w3.heap.size, 1, none⟩ = some (Value.slice oq lq cq) ∧ (((w3.setCell ⟨X, 0, none⟩ (.bool br)).setCell ⟨X, 1, none⟩ (.slice or' lr cr)).alloc (.cells #[.bool bq, .slice oq lq cq] T)).cell? ⟨X, 0, none⟩ = some (.bool br) ∧ (((w3.setCell ⟨X, 0, none⟩ (.bool br)).setCell ⟨X, 1, none⟩ (.slice or' lr cr)).alloc (.cells #[.bool bq, .slice oq lq cq] T)).cell? ⟨X, 1, none⟩ = some (Value.slice or' lr cr) ∧ (((w3.setCell ⟨X, 0, none⟩ (.bool br)).setCell ⟨X, 1, none⟩ (.slice or' lr cr)).alloc (.cells #[.bool bq, .slice oq lq cq] T)).frozen? ⟨N, 0, none⟩ = false ∧ (((w3.setCell ⟨X, 0, none⟩ (.bool br)).setCell ⟨X, 1, none⟩ (.slice or' lr cr)).alloc (.cells #[.bool bq, .slice oq lq cq] T)).frozen? ⟨N, 1, none⟩ = false ∧ IsI (((w3.setCell ⟨X, 0, none⟩ (.bool br)).setCell ⟨X, 1, none⟩ (.slice or' lr cr)).alloc (.cells #[.bool bq, .slice oq lq cq] T)) (Iv bq (.slice oq lq cq)) z1 ∧ IsI (((w3.setCell ⟨X, 0, none⟩ (.bool br)).setCell ⟨X, 1, none⟩ (.slice or' lr cr)).alloc (.cells #[.bool bq, .slice oq lq cq] T)) (Iv br (.slice or' lr cr)) z2 ∧ Below w.heap.size w (((w3.setCell ⟨X, 0, none⟩ (.bool br)).setCell ⟨X, 1, none⟩ (.slice or' lr cr)).alloc (.cells #[.bool bq, .slice oq lq cq] T)) := by
  have s : N < w3.heap.size := World.block_lt_of_cell? _ _ hN0
  have sx : X < w3.heap.size := World.block_lt_of_cell? _ _ hX0
  have hXN : X ≠ N := fun e => hNX e.symm
  have sN := Nat.ne_of_lt s
  have sX := Nat.ne_of_lt sx
  have hs := hB.size
  refine ⟨?_, ?_, ?_, ?_, ?_, ?_, ?_, ?_, (Hq.put hX0 (by simp) hX1 (by simp)).al _, (Hr.put hX0 (by simp) hX1 (by simp)).al _, ((hB.setCell gX _).setCell gX _).alloc (by simp; omega) _⟩ <;> first | (simp [go_sem, *]; done) | (simp [go_sem, frozen?_alloc_cells, *]; done) | (simp [go_sem, World.cell?_alloc_some, *]; done)
theorem fin_iiia {w w3 : World} {N T : Nat} {bq br : Bool} {oq or' : Option Addr} {lq cq lr cr : Nat} {z1 z2 : Int} 
    (hN0 : w3.cell? ⟨N, 0, none⟩ = some (.bool false)) (hN1 : w3.cell? ⟨N, 1, none⟩ = some (.slice none 0 0)) (f0 : w3.frozen? ⟨N, 0, none⟩ = false) (f1 : w3.frozen? ⟨N, 1, none⟩ = false)
    (Hq : IsI w3 (Iv bq (.slice oq lq cq)) z1) (Hr : IsI w3 (Iv br (.slice or' lr cr)) z2) (hB : Below w.heap.size w w3) :
    ((w3.alloc (.cells #[.bool bq, .slice oq lq cq] T)).alloc (.cells #[.bool br, .slice or' lr cr] T)).cell? ⟨N, 0, none⟩ = some (.bool false) ∧ ((w3.alloc (.cells #[.bool bq, .slice oq lq cq] T)).alloc (.cells #[.bool br, .slice or' lr cr] T)).cell? ⟨N, 1, none⟩ = some (.slice none 0 0) ∧ ((w3.alloc (.cells #[.bool bq, .slice oq lq cq] T)).alloc (.cells #[.bool br, .slice or' lr cr] T)).cell? ⟨w3.heap.size, 0, none⟩ = some (.bool bq) ∧ ((w3.alloc (.cells #[.bool bq, .slice oq lq cq] T)).alloc (.cells #[.bool br, .slice or' lr cr] T)).cell? ⟨w3.heap.size, 1, none⟩ = some (Value.slice oq lq cq) ∧ ((w3.alloc (.cells #[.bool bq, .slice oq lq cq] T)).alloc (.cells #[.bool br, .slice or' lr cr] T)).cell? ⟨(w3.heap.size + 1), 0, none⟩ = some (.bool br) ∧ ((w3.alloc (.cells #[.bool bq, .slice oq lq cq] T)).alloc (.cells #[.bool br, .slice or' lr cr] T)).cell? ⟨(w3.heap.size + 1), 1, none⟩ = some (Value.slice or' lr cr) ∧ ((w3.alloc (.cells #[.bool bq, .slice oq lq cq] T)).alloc (.cells #[.bool br, .slice or' lr cr] T)).frozen? ⟨N, 0, none⟩ = false ∧ ((w3.alloc (.cells #[.bool bq, .slice oq lq cq] T)).alloc (.cells #[.bool br, .slice or' lr cr] T)).frozen? ⟨N, 1, none⟩ = false ∧ IsI ((w3.alloc (.cells #[.bool bq, .slice oq lq cq] T)).alloc (.cells #[.bool br, .slice or' lr cr] T)) (Iv bq (.slice oq lq cq)) z1 ∧ IsI ((w3.alloc (.cells #[.bool bq, .slice oq lq cq] T)).alloc (.cells #[.bool br, .slice or' lr cr] T)) (Iv br (.slice or' lr cr)) z2 ∧ Below w.heap.size w ((w3.alloc (.cells #[.bool bq, .slice oq lq cq] T)).alloc (.cells #[.bool br, .slice or' lr cr] T)) := by
  have s : N < w3.heap.size := World.block_lt_of_cell? _ _ hN0
  have sN := Nat.ne_of_lt s
  have s1 : N < w3.heap.size + 1 := by omega
  have hs := hB.size
  refine ⟨?_, ?_, ?_, ?_, ?_, ?_, ?_, ?_, (Hq.al _).al _, (Hr.al _).al _, (hB.alloc (by omega) _).alloc (by simp; omega) _⟩ <;> first | (simp [go_sem, *]; done) | (simp [go_sem, frozen?_alloc_cells, *]; done) | (simp [go_sem, World.cell?_alloc_some, *]; done)
theorem fin_iiib {w w3 : World} {N T : Nat} {bq br : Bool} {oq or' : Option Addr} {lq cq lr cr : Nat} {z1 z2 : Int} 
    (hN0 : w3.cell? ⟨N, 0, none⟩ = some (.bool false)) (hN1 : w3.cell? ⟨N, 1, none⟩ = some (.slice none 0 0)) (f0 : w3.frozen? ⟨N, 0, none⟩ = false) (f1 : w3.frozen? ⟨N, 1, none⟩ = false)
    (Hq : IsI w3 (Iv bq (.slice oq lq cq)) z1) (Hr : IsI w3 (Iv br (.slice or' lr cr)) z2) (hB : Below w.heap.size w w3) :
    ((w3.alloc (.cells #[.bool br, .slice or' lr cr] T)).alloc (.cells #[.bool bq, .slice oq lq cq] T)).cell? ⟨N, 0, none⟩ = some (.bool false) ∧ ((w3.alloc (.cells #[.bool br, .slice or' lr cr] T)).alloc (.cells #[.bool bq, .slice oq lq cq] T)).cell? ⟨N, 1, none⟩ = some (.slice none 0 0) ∧ ((w3.alloc (.cells #[.bool br, .slice or' lr cr] T)).alloc (.cells #[.bool bq, .slice oq lq cq] T)).cell? ⟨(w3.heap.size + 1), 0, none⟩ = some (.bool bq) ∧ ((w3.alloc (.cells #[.bool br, .slice or' lr cr] T)).alloc (.cells #[.bool bq, .slice oq lq cq] T)).cell? ⟨(w3.heap.size + 1), 1, none⟩ = some (Value.slice oq lq cq) ∧ ((w3.alloc (.cells #[.bool br, .slice or' lr cr] T)).alloc (.cells #[.bool bq, .slice oq lq cq] T)).cell? ⟨w3.heap.size, 0, none⟩ = some (.bool br) ∧ ((w3.alloc (.cells #[.bool br, .slice or' lr cr] T)).alloc (.cells #[.bool bq, .slice oq lq cq] T)).cell? ⟨w3.heap.size, 1, none⟩ = some (Value.slice or' lr cr) ∧ ((w3.alloc (.cells #[.bool br, .slice or' lr cr] T)).alloc (.cells #[.bool bq, .slice oq lq cq] T)).frozen? ⟨N, 0, none⟩ = false ∧ ((w3.alloc (.cells #[.bool br, .slice or' lr cr] T)).alloc (.cells #[.bool bq, .slice oq lq cq] T)).frozen? ⟨N, 1, none⟩ = false ∧ IsI ((w3.alloc (.cells #[.bool br, .slice or' lr cr] T)).alloc (.cells #[.bool bq, .slice oq lq cq] T)) (Iv bq (.slice oq lq cq)) z1 ∧ IsI ((w3.alloc (.cells #[.bool br, .slice or' lr cr] T)).alloc (.cells #[.bool bq, .slice oq lq cq] T)) (Iv br (.slice or' lr cr)) z2 ∧ Below w.heap.size w ((w3.alloc (.cells #[.bool br, .slice or' lr cr] T)).alloc (.cells #[.bool bq, .slice oq lq cq] T)) := by
  have s : N < w3.heap.size := World.block_lt_of_cell? _ _ hN0
  have sN := Nat.ne_of_lt s
  have s1 : N < w3.heap.size + 1 := by omega
  have hs := hB.size
  refine ⟨?_, ?_, ?_, ?_, ?_, ?_, ?_, ?_, (Hq.al _).al _, (Hr.al _).al _, (hB.alloc (by omega) _).alloc (by simp; omega) _⟩ <;> first | (simp [go_sem, *]; done) | (simp [go_sem, frozen?_alloc_cells, *]; done) | (simp [go_sem, World.cell?_alloc_some, *]; done)
/-- Beyond what is rounded. -/
def LOW : Nat := 2 ^ 1024
theorem low_of {n k : Nat} (h : n < 2 ^ k) (hk : k ≤ 1024) : n < LOW := by
  unfold LOW
  exact Nat.lt_of_lt_of_le h (pow2_mono k 1024 hk)
theorem low_gen {n K : Nat} (h : n < 2 ^ K) : n < 2 ^ (K + 2) ∧ 2 * n < 2 ^ (K + 2) ∧ 2 * n + 2 < 2 ^ (K + 2) := by
  have p := Nat.two_pow_pos K
  rw [Nat.pow_add]
  generalize (2 : Nat) ^ K = P at *
  omega
theorem low_big {n : Nat} (h : n < LOW) : n < BIG ∧ 2 * n < BIG ∧ 2 * n < MID ∧ n < MID ∧ 2 * n + 2 < BIG := by
  unfold LOW at h
  have p := low_gen h
  exact ⟨big_of p.1 (by decide), big_of p.2.1 (by decide), mid_of p.2.1 (by decide), mid_of p.1 (by decide), big_of p.2.2 (by decide)⟩
theorem t2_le {p : Int} {q : Nat} (hq : q ≠ 0) : (t2 p q).natAbs ≤ 2 * p.natAbs := by
  unfold t2
  have h := dn_le (a := p * 2 ^ 1) (b := (q : Int)) (by omega)
  omega

end Go.Proofs.Ytchakmkoimgakaa
namespace Go.Proofs.Ytchakmkoimgakaa
open Go.RowKit

theorem ab_mul_pow (x : Int) (n : Nat) : ab (x * 2 ^ n) = ab x * 2 ^ n := by
  unfold ab
  rw [Int.natAbs_mul, Int.natCast_mul, Int.natAbs_pow]
  simp
theorem shift_back (x : Int) (n : Nat) : rd (x * 2 ^ n) (2 ^ n) = x ∧ dn (x * 2 ^ n) (2 ^ n) = x := by
  have hp : (0 : Int) < 2 ^ n := Int.pow_pos (by decide)
  have ep : ab (2 ^ n) = 2 ^ n := by unfold ab; omega
  have en : ng ((2 : Int) ^ n) = false := by unfold ng; exact decide_eq_false (by omega)
  have q : ab (x * 2 ^ n) / ab (2 ^ n) = ab x := by rw [ab_mul_pow, ep]; exact Int.mul_ediv_cancel _ (by omega)
  have r : ab (x * 2 ^ n) % ab (2 ^ n) = 0 := by rw [ab_mul_pow, ep]; exact Int.mul_emod_left _ _
  have u : up (x * 2 ^ n) (2 ^ n) = false := by
    cases h : up (x * 2 ^ n) (2 ^ n) with
    | false => rfl
    | true => exact absurd r (up_rest hp h)
  have sn : ng (x * 2 ^ n) = ng x := by
    unfold ng
    rw [Bool.eq_iff_iff]; simp only [decide_eq_true_eq]
    constructor
    · intro h
      rcases Int.lt_or_le x 0 with h1 | h1
      · exact h1
      · have := Int.mul_nonneg h1 (Int.le_of_lt hp); omega
    · intro h; exact Int.mul_neg_of_neg_of_pos h hp
  have fin : sd (ng x) (ab x) = x := by have := sd_ab x 1; simpa using this
  unfold rd dn
  rw [u, q, r, en, sn]
  simp [fin]
theorem small_shift {x : Int} (n : Nat) (h0 : -36028797018963968 ≤ x) (h1 : x ≤ 36028797018963967) (hn : n ≤ 59) : R x ∧ R (x * 2 ^ n) ∧ R ((2 : Int) ^ n) := by
  have hp : (0 : Int) < 2 ^ n := Int.pow_pos (by decide)
  have m := pow_mono hn
  have e : (2 : Int) ^ 59 = 576460752303423488 := by decide
  rw [e] at m
  have a1 : (x * 2 ^ n).natAbs ≤ 36028797018963968 * 576460752303423488 := by
    rw [Int.natAbs_mul]; exact Nat.mul_le_mul (by omega) (by omega)
  simp only [R_iff]
  omega
end Go.Proofs.Ytchakmkoimgakaa
namespace Go.Proofs.Ytchakmkoimgakaa
open Go.RowKit

theorem ab_mul (a b : Int) : ab (a * b) = ab a * ab b := by unfold ab; rw [Int.natAbs_mul]; rfl
theorem ng_mul_pos (a : Int) {k : Int} (hk : 0 < k) : ng (a * k) = ng a := by
  unfold ng
  rw [Bool.eq_iff_iff]; simp only [decide_eq_true_eq]
  constructor
  · intro h
    rcases Int.lt_or_le a 0 with h1 | h1
    · exact h1
    · have := Int.mul_nonneg h1 (Int.le_of_lt hk); omega
  · intro h; exact Int.mul_neg_of_neg_of_pos h hk
theorem sg_scale (a b : Int) {k : Int} (hk : 0 < k) : sg (a * k) (b * k) = sg a b := by
  rcases Int.lt_trichotomy a b with h | h | h
  · rw [sg_lt h, sg_lt (Int.mul_lt_mul_of_pos_right h hk)]
  · rw [h, sg_eq, sg_eq]
  · rw [sg_gt h, sg_gt (Int.mul_lt_mul_of_pos_right h hk)]
theorem rd_scale (n d : Int) {k : Int} (hk : 0 < k) : rd (n * k) (d * k) = rd n d := by
  have ek : ab k = k := by unfold ab; omega
  unfold rd up
  have er : ab n * k % (ab d * k) = (ab n % ab d) * k := by rw [Int.mul_comm (ab n) k, Int.mul_comm (ab d) k, Int.mul_emod_mul_of_pos _ _ hk, Int.mul_comm]
  rw [ab_mul, ab_mul, ng_mul_pos n hk, ng_mul_pos d hk, ek, Int.mul_ediv_mul_of_pos_left _ _ hk, er, ← Int.mul_assoc, sg_scale _ _ hk]
theorem tw_neg (q : Int) : tw (-q) = -tw q ∧ te (-q) = te q := by
  cases g : wd q with
  | true =>
    have h := wd_bd g
    have k : wd (-q) = true := wd_mk (by omega)
    rw [tw_in g, tw_in k, te_in g, te_in k]
    exact ⟨rfl, rfl⟩
  | false =>
    have h := wd_no g
    have k : wd (-q) = false := by
      unfold wd; simp only [decide_eq_false_iff_not]; omega
    rw [tw_out g, tw_out k, te_out g, te_out k]
    exact ⟨rfl, rfl⟩
theorem tw_bd (q : Int) : -140737488355328 < tw q ∧ tw q < 140737488355328 := wd_bd (wd_tw q)
end Go.Proofs.Ytchakmkoimgakaa
namespace Go.Proofs.Ytchakmkoimgakaa
open Go.RowKit

theorem ediv_is {x D t r : Int} (hD : 0 < D) (h : x = t * D + r) (h0 : 0 ≤ r) (h1 : r < D) : x / D = t := by
  rw [h, Int.add_comm, Int.add_mul_ediv_right _ _ (by omega), Int.ediv_eq_zero_of_lt h0 h1, Int.zero_add]
theorem dn_ediv (x : Int) {D : Int} (hD : 0 < D) : dn x D = x / D := by
  have eD : ab D = D := by unfold ab; omega
  have nD : ng D = false := by unfold ng; exact decide_eq_false (by omega)
  have e := Int.mul_ediv_add_emod (ab x) D
  have r0 := Int.emod_nonneg (ab x) (show D ≠ 0 by omega)
  have r1 := Int.emod_lt_of_pos (ab x) hD
  unfold dn
  rw [eD, nD]
  rcases Int.lt_or_le x 0 with h | h
  · have nx : ng x = true := by unfold ng; exact decide_eq_true h
    have ax : ab x = -x := by unfold ab; omega
    rw [nx]
    generalize ab x / D = q at *
    generalize ab x % D = r at *
    by_cases hr : r = 0
    · subst hr
      simp [sd]
      refine (ediv_is hD (r := 0) ?_ (by omega) hD).symm
      rw [Int.neg_mul, Int.mul_comm q]
      omega
    · have hb : (r == 0) = false := by rw [beq_eq_false_iff_ne]; exact hr
      rw [hb]
      simp [sd]
      refine (ediv_is hD (r := D - r) ?_ (by omega) (by omega)).symm
      rw [Int.neg_mul, Int.add_mul, Int.mul_comm q]
      omega
  · have nx : ng x = false := by unfold ng; exact decide_eq_false (by omega)
    have ax : ab x = x := by unfold ab; omega
    rw [nx, ax]
    simp [sd]
theorem nr_of {p : Int} {q : Nat} {t r : Int} (_hq : q ≠ 0) (h : p * 2 ^ 1 = t * q + r) (h0 : 0 ≤ r) (h1 : r < q) : nr p q = if t % 2 = 0 then t / 2 else if r ≠ 0 then t / 2 + 1 else if t / 2 % 2 = 0 then t / 2 else t / 2 + 1 := by
  have e : t2 p q = t := by
    unfold t2
    rw [dn_ediv _ (by omega : (0 : Int) < q)]
    exact ediv_is (by omega) h h0 h1
  unfold nr
  rw [e, h]
  have e2 : t * (q : Int) + r - t * q = r := by omega
  rw [e2]
  have p1 : (2 : Int) ^ 1 = 2 := by decide
  rw [p1]
  have c1 : (t / 2 * 2 = t) = (t % 2 = 0) := by apply propext; omega
  have c2 : (t / 2 / 2 * 2 = t / 2) = (t / 2 % 2 = 0) := by apply propext; omega
  simp only [c1, c2]
theorem nr_rd (m : Int) {D : Nat} (hD : D ≠ 0) : nr m D = rd m D := by
  have eD : ab (D : Int) = D := by unfold ab; omega
  have nD : ng (D : Int) = false := by unfold ng; exact decide_eq_false (by omega)
  have U := up_cases m D
  have e := Int.mul_ediv_add_emod (ab m) (D : Int)
  have r0 := Int.emod_nonneg (ab m) (show (D : Int) ≠ 0 by omega)
  have r1 := Int.emod_lt_of_pos (ab m) (show (0 : Int) < D by omega)
  have q0 : 0 ≤ ab m / D := Int.ediv_nonneg (by unfold ab; omega) (by omega)
  rw [eD] at U
  unfold rd
  rw [eD, nD]
  have p1 : (2 : Int) ^ 1 = 2 := by decide
  rcases Int.lt_or_le m 0 with h | h
  · have nx : ng m = true := by unfold ng; exact decide_eq_true h
    have ax : ab m = -m := by unfold ab; omega
    rw [nx]
    generalize ab m / D = q at *
    generalize ab m % D = r at *
    have f : ∀ c : Int, (-(2 * q) - c) * (D : Int) = -(2 * (D * q)) - c * D := fun c => by
      rw [Int.sub_mul, Int.neg_mul, Int.mul_assoc, Int.mul_comm q]
    rcases (by omega : r = 0 ∨ (0 < r ∧ 2 * r < D) ∨ 2 * r = D ∨ (D : Int) < 2 * r) with c | c | c | c
    · rw [nr_of (t := -(2 * q) - 0) (r := 0) hD (by rw [f, p1]; omega) (by omega) (by omega)]
      rcases U with ⟨u, hu⟩ | ⟨u, hu⟩ <;> rw [u] <;> simp [sd] <;> omega
    · rw [nr_of (t := -(2 * q) - 1) (r := D - 2 * r) hD (by rw [f, p1]; omega) (by omega) (by omega)]
      rcases U with ⟨u, hu⟩ | ⟨u, hu⟩ <;> rw [u] <;> simp [sd] <;> omega
    · rw [nr_of (t := -(2 * q) - 1) (r := 0) hD (by rw [f, p1]; omega) (by omega) (by omega)]
      rcases U with ⟨u, hu⟩ | ⟨u, hu⟩ <;> rw [u] <;> simp [sd] <;> omega
    · rw [nr_of (t := -(2 * q) - 2) (r := 2 * D - 2 * r) hD (by rw [f, p1]; omega) (by omega) (by omega)]
      rcases U with ⟨u, hu⟩ | ⟨u, hu⟩ <;> rw [u] <;> simp [sd] <;> omega
  · have nx : ng m = false := by unfold ng; exact decide_eq_false (by omega)
    have ax : ab m = m := by unfold ab; omega
    rw [nx]
    generalize ab m / D = q at *
    generalize ab m % D = r at *
    have f : ∀ c : Int, (2 * q + c) * (D : Int) = 2 * (D * q) + c * D := fun c => by
      rw [Int.add_mul, Int.mul_assoc, Int.mul_comm q]
    rcases (by omega : 2 * r < D ∨ 2 * r = D ∨ (D : Int) < 2 * r) with c | c | c
    · rw [nr_of (t := 2 * q + 0) (r := 2 * r) hD (by rw [f, p1]; omega) (by omega) (by omega)]
      rcases U with ⟨u, hu⟩ | ⟨u, hu⟩ <;> rw [u] <;> simp [sd] <;> omega
    · rw [nr_of (t := 2 * q + 1) (r := 0) hD (by rw [f, p1]; omega) (by omega) (by omega)]
      rcases U with ⟨u, hu⟩ | ⟨u, hu⟩ <;> rw [u] <;> simp [sd] <;> omega
    · rw [nr_of (t := 2 * q + 1) (r := 2 * r - D) hD (by rw [f, p1]; omega) (by omega) (by omega)]
      rcases U with ⟨u, hu⟩ | ⟨u, hu⟩ <;> rw [u] <;> simp [sd] <;> omega
theorem rd_flip (n : Int) {d : Int} (h : d < 0) : rd (-n) (-d) = rd n d := by
  have ea : ab (-n) = ab n := by unfold ab; omega
  have eb : ab (-d) = ab d := by unfold ab; omega
  have ed : ng d = true := by unfold ng; exact decide_eq_true h
  have ed2 : ng (-d) = false := by unfold ng; exact decide_eq_false (by omega)
  by_cases hn : n = 0
  · subst hn
    have z : ab 0 = 0 := rfl
    have dp : 0 < ab d := by unfold ab; omega
    unfold rd up
    rw [ea, eb, z, Int.zero_ediv, Int.zero_emod, Int.mul_zero, sg_lt dp]
    cases (ng (-d)) <;> cases (ng d) <;> simp [sd]
  · have en : ng (-n) = !ng n := by unfold ng; by_cases k : n < 0 <;> simp [k] <;> omega
    unfold rd up
    rw [ea, eb, en, ed, ed2]
    cases (ng n) <;> simp
theorem lowest (m : Int) {D : Nat} (hD : D ≠ 0) : nr (m.tdiv (Nat.gcd m.natAbs D : Nat)) (D / Nat.gcd m.natAbs D) = rd m D ∧ D / Nat.gcd m.natAbs D ≠ 0 := by
  have gp := Nat.gcd_pos_of_pos_right m.natAbs (Nat.pos_of_ne_zero hD)
  have d1 := Nat.gcd_dvd_left m.natAbs D
  have d2 := Nat.gcd_dvd_right m.natAbs D
  generalize Nat.gcd m.natAbs D = g at *
  obtain ⟨k, hk⟩ := d2
  have kp : k ≠ 0 := fun e => hD (by rw [hk, e, Nat.mul_zero])
  have e2 : D / g = k := by rw [hk, Nat.mul_div_cancel_left _ gp]
  have e1 : m.tdiv (g : Int) * g = m := Int.tdiv_mul_cancel (Int.ofNat_dvd_left.2 d1)
  rw [e2]
  refine ⟨?_, kp⟩
  rw [nr_rd _ kp, ← rd_scale _ _ (show (0 : Int) < g by omega), e1]
  congr 1
  rw [hk, Int.natCast_mul, Int.mul_comm]
end Go.Proofs.Ytchakmkoimgakaa
namespace Go.Proofs.Ytchakmkoimgakaa
open Go.RowKit

theorem IsI.al3 {w : World} {x : Value} {z : Int} (h : IsI w x z) (o : Obj) : IsI (w.alloc o) x z := h.below ((Below.refl _ _).alloc (Nat.le_refl _) _)

theorem near_is (a : Int) {b : Int} (h0 : b ≠ 0) : nr ((if b < 0 then -a else a).tdiv (Nat.gcd (if b < 0 then -a else a).natAbs b.natAbs : Nat)) (b.natAbs / Nat.gcd (if b < 0 then -a else a).natAbs b.natAbs) = rd a b ∧ b.natAbs / Nat.gcd (if b < 0 then -a else a).natAbs b.natAbs ≠ 0 := by
  obtain ⟨h1, h2⟩ := lowest (if b < 0 then -a else a) (D := b.natAbs) (by omega)
  refine ⟨h1.trans ?_, h2⟩
  by_cases h : b < 0
  · rw [if_pos h]
    have e : ((b.natAbs : Nat) : Int) = -b := by omega
    rw [e]
    exact rd_flip a h
  · rw [if_neg h]
    have e : ((b.natAbs : Nat) : Int) = b := by omega
    rw [e]
theorem near_low {a b : Int} (ga : a.natAbs < LOW) (gb : b.natAbs < LOW) : ((if b < 0 then -a else a).tdiv (Nat.gcd (if b < 0 then -a else a).natAbs b.natAbs : Nat)).natAbs < LOW ∧ b.natAbs / Nat.gcd (if b < 0 then -a else a).natAbs b.natAbs < LOW := by
  refine ⟨?_, Nat.lt_of_le_of_lt (Nat.div_le_self _ _) gb⟩
  have e : (if b < 0 then -a else a).natAbs = a.natAbs := by split <;> simp
  refine Nat.lt_of_le_of_lt ?_ ga
  rw [Int.natAbs_tdiv, e]
  exact Nat.div_le_self _ _
end Go.Proofs.Ytchakmkoimgakaa
namespace Go.Proofs.Ytchakmkoimgakaa
open Go.RowKit

end Go.Proofs.Ytchakmkoimgakaa
namespace Go.Proofs.Ytchakmkoimgakaa
open Go.RowKit

set_option maxRecDepth 100000 in
set_option maxHeartbeats 8000000 in
theorem r2word_any (x : Value) (z : Int) (w : World) (h : IsI w x z) : Calls Try.prog 35 #[x] w fun e w' => e = .returned (.tuple #[.int .i64 (tw z), .int .i64 (te z)]) ∧ Below w.heap.size w w' := by
  obtain ⟨bn, on, ln, cn, rfl, Hn⟩ := h.open
  clear h
  have SC := Lib.hid (fun (W : World) (h : IsI W (Iv bn (.slice on ln cn)) z) => ismall_any _ z W h)
  cases g : isS z with
  | false =>
    have gw : wd z = false := by
      have := isS_no g
      unfold wd; simp only [decide_eq_false_iff_not]; omega
    have H := Lib.hid (And.intro (tw_out gw) (te_out gw))
    have SC := fun (W : World) (h : IsI W (Iv bn (.slice on ln cn)) z) => SC.out W h
    rw [g] at SC
    have SC := Lib.hid SC
    clear g gw
    go_enter Try.func35, Try.ntmps35
    go_wp2_with (go_at_call 53; (with_reducible refine (SC.out _ ((IsI.mk Hn.out.1 Hn.out.2.1).below (by repeat (first | exact Below.refl _ _ | assumption | apply Below.drew | refine Below.setCell ?_ (by first | omega | (simp; done) | (simp; omega)) _ | refine Below.alloc ?_ (by first | omega | (simp; done) | (simp; omega)) _)))).mono ?_); rintro e w1 ⟨rfl, hb1⟩; have e10 : w1.cell? ⟨w.heap.size, 0, none⟩ = some (.bool bn) := cell_on hb1 (by first | (simp [go_sem, *]; done) | (simp [go_sem, World.cell?_alloc_some, *]; done) | fail); have e11 : w1.cell? ⟨w.heap.size, 1, none⟩ = some (Value.slice on ln cn) := cell_on hb1 (by first | (simp [go_sem, *]; done) | (simp [go_sem, World.cell?_alloc_some, *]; done) | fail); have s10 : w.heap.size < w1.heap.size := World.block_lt_of_cell? _ _ e10; have t10 : w.heap.size < w1.heap.size + 1 := Nat.lt_succ_of_lt s10; have q1 := hb1.size; (try simp at q1))
    go_ret2
    refine ⟨by rw [H.out.1, H.out.2] <;> rfl, ?_⟩
    repeat (first | exact Below.refl _ _ | assumption | apply Below.drew | refine Below.setCell ?_ (by first | omega | (simp; done) | (simp; omega)) _ | refine Below.alloc ?_ (by first | omega | (simp; done) | (simp; omega)) _ | refine Below.trans ?_ (hb1.mono (by first | omega | (simp; done) | (simp; omega))))
  | true =>
    have SC := fun (W : World) (h : IsI W (Iv bn (.slice on ln cn)) z) => SC.out W h
    rw [g, show sm z = z from if_pos g] at SC
    have SC := Lib.hid SC
    have MC := fun W : World => may_any z W
    cases gw : wd z with
    | true =>
      have H := Lib.hid (And.intro (tw_in gw) (te_in gw))
      rw [gw] at MC
      have MC := Lib.hid MC
      clear g gw
      go_enter Try.func35, Try.ntmps35
      go_wp2_with (first | (go_at_call 53; (with_reducible refine (SC.out _ ((IsI.mk Hn.out.1 Hn.out.2.1).below (by repeat (first | exact Below.refl _ _ | assumption | apply Below.drew | refine Below.setCell ?_ (by first | omega | (simp; done) | (simp; omega)) _ | refine Below.alloc ?_ (by first | omega | (simp; done) | (simp; omega)) _)))).mono ?_); rintro e w1 ⟨rfl, hb1⟩; have e10 : w1.cell? ⟨w.heap.size, 0, none⟩ = some (.bool bn) := cell_on hb1 (by first | (simp [go_sem, *]; done) | (simp [go_sem, World.cell?_alloc_some, *]; done) | fail); have e11 : w1.cell? ⟨w.heap.size, 1, none⟩ = some (Value.slice on ln cn) := cell_on hb1 (by first | (simp [go_sem, *]; done) | (simp [go_sem, World.cell?_alloc_some, *]; done) | fail); have s10 : w.heap.size < w1.heap.size := World.block_lt_of_cell? _ _ e10; have t10 : w.heap.size < w1.heap.size + 1 := Nat.lt_succ_of_lt s10; have q1 := hb1.size; (try simp at q1)) | (go_at_call 40; (with_reducible refine (MC.out _).mono ?_); rintro e w' ⟨rfl, rfl⟩))
      go_ret2
      refine ⟨by rw [H.out.1, H.out.2] <;> rfl, ?_⟩
      repeat (first | exact Below.refl _ _ | assumption | apply Below.drew | refine Below.setCell ?_ (by first | omega | (simp; done) | (simp; omega)) _ | refine Below.alloc ?_ (by first | omega | (simp; done) | (simp; omega)) _ | refine Below.trans ?_ (hb1.mono (by first | omega | (simp; done) | (simp; omega))))
    | false =>
      have H := Lib.hid (And.intro (tw_out gw) (te_out gw))
      rw [gw] at MC
      have MC := Lib.hid MC
      clear g gw
      go_enter Try.func35, Try.ntmps35
      go_wp2_with (first | (go_at_call 53; (with_reducible refine (SC.out _ ((IsI.mk Hn.out.1 Hn.out.2.1).below (by repeat (first | exact Below.refl _ _ | assumption | apply Below.drew | refine Below.setCell ?_ (by first | omega | (simp; done) | (simp; omega)) _ | refine Below.alloc ?_ (by first | omega | (simp; done) | (simp; omega)) _)))).mono ?_); rintro e w1 ⟨rfl, hb1⟩; have e10 : w1.cell? ⟨w.heap.size, 0, none⟩ = some (.bool bn) := cell_on hb1 (by first | (simp [go_sem, *]; done) | (simp [go_sem, World.cell?_alloc_some, *]; done) | fail); have e11 : w1.cell? ⟨w.heap.size, 1, none⟩ = some (Value.slice on ln cn) := cell_on hb1 (by first | (simp [go_sem, *]; done) | (simp [go_sem, World.cell?_alloc_some, *]; done) | fail); have s10 : w.heap.size < w1.heap.size := World.block_lt_of_cell? _ _ e10; have t10 : w.heap.size < w1.heap.size + 1 := Nat.lt_succ_of_lt s10; have q1 := hb1.size; (try simp at q1)) | (go_at_call 40; (with_reducible refine (MC.out _).mono ?_); rintro e w' ⟨rfl, rfl⟩))
      go_ret2
      refine ⟨by rw [H.out.1, H.out.2] <;> rfl, ?_⟩
      repeat (first | exact Below.refl _ _ | assumption | apply Below.drew | refine Below.setCell ?_ (by first | omega | (simp; done) | (simp; omega)) _ | refine Below.alloc ?_ (by first | omega | (simp; done) | (simp; omega)) _ | refine Below.trans ?_ (hb1.mono (by first | omega | (simp; done) | (simp; omega))))
set_option maxRecDepth 100000 in
set_option maxHeartbeats 8000000 in
theorem r2add_any (a b : Int) (w : World) (a0 : -9223372036854775808 ≤ a) (a1 : a ≤ 9223372036854775807) (b0 : -9223372036854775808 ≤ b) (b1 : b ≤ 9223372036854775807) : Calls Try.prog 19 #[.int .i64 a, .int .i64 b] w fun e w' => e = .returned (.tuple #[.int .i64 (tw (a + b)), .int .i64 (te (a + b))]) ∧ Below w.heap.size w w' := by
  have FA := Lib.hid (fun W : World => ifrom_any a W a0 a1)
  have FB := Lib.hid (fun W : World => ifrom_any b W b0 b1)
  have G : Hid (a.natAbs < BIG ∧ b.natAbs < BIG) := ⟨big_of (k := 64) (by omega) (by decide), big_of (k := 64) (by omega) (by decide)⟩
  clear a0 a1 b0 b1
  go_enter Try.func19, Try.ntmps19
  go_wp2_with (first | (go_at_call 37; have _g := hb1; (with_reducible refine (FB.out _).mono ?_); rintro e w2 ⟨vg, rfl, hv, hb2⟩; have q2 := hb2.size; (try simp at q2); obtain ⟨bg, og, lg, cg, rfl, Hg⟩ := hv.open; clear hv) | (go_at_call 37; (with_reducible refine (FA.out _).mono ?_); rintro e w1 ⟨vf, rfl, hv, hb1⟩; have q1 := hb1.size; (try simp at q1); obtain ⟨bf, of, lf, cf, rfl, Hf⟩ := hv.open; clear hv) | (go_at_call 36; (with_reducible refine (iplus_any _ _ a b _ ((IsI.mk Hf.out.1 Hf.out.2.1).below (by repeat (first | exact Below.refl _ _ | assumption | apply Below.drew | refine Below.setCell ?_ (by first | omega | (simp; done) | (simp; omega)) _ | refine Below.alloc ?_ (by first | omega | (simp; done) | (simp; omega)) _ | refine Below.trans ?_ (hb2.mono (by first | omega | (simp; done) | (simp; omega)))))) ((IsI.mk Hg.out.1 Hg.out.2.1).below (by repeat (first | exact Below.refl _ _ | assumption | apply Below.drew | refine Below.setCell ?_ (by first | omega | (simp; done) | (simp; omega)) _ | refine Below.alloc ?_ (by first | omega | (simp; done) | (simp; omega)) _))) G.out.1 G.out.2).mono ?_); rintro e w3 ⟨vn, rfl, hv, hb3⟩; have q3 := hb3.size; (try simp at q3); obtain ⟨bn, on, ln, cn, rfl, Hn⟩ := hv.open; clear hv) | (go_at_call 35; (with_reducible refine (r2word_any _ (a + b) _ ((IsI.mk Hn.out.1 Hn.out.2.1).below (by repeat (first | exact Below.refl _ _ | assumption | apply Below.drew | refine Below.setCell ?_ (by first | omega | (simp; done) | (simp; omega)) _ | refine Below.alloc ?_ (by first | omega | (simp; done) | (simp; omega)) _)))).mono ?_); rintro e w4 ⟨rfl, hb4⟩; have q4 := hb4.size; (try simp at q4)))
  go_ret2
  refine ⟨rfl, ?_⟩
  repeat (first | exact Below.refl _ _ | assumption | apply Below.drew | refine Below.setCell ?_ (by first | omega | (simp; done) | (simp; omega)) _ | refine Below.alloc ?_ (by first | omega | (simp; done) | (simp; omega)) _ | refine Below.trans ?_ (hb4.mono (by first | omega | (simp; done) | (simp; omega))) | refine Below.trans ?_ (hb3.mono (by first | omega | (simp; done) | (simp; omega))) | refine Below.trans ?_ (hb2.mono (by first | omega | (simp; done) | (simp; omega))) | refine Below.trans ?_ (hb1.mono (by first | omega | (simp; done) | (simp; omega))))
theorem low_tdiv {m : Int} {D : Nat} (gm : m.natAbs < LOW) (gD : D < LOW) : (m.tdiv (Nat.gcd m.natAbs D : Nat)).natAbs < LOW ∧ D / Nat.gcd m.natAbs D < LOW := by
  refine ⟨?_, Nat.lt_of_le_of_lt (Nat.div_le_self _ _) gD⟩
  rw [Int.natAbs_tdiv]
  exact Nat.lt_of_le_of_lt (Nat.div_le_self _ _) gm
/-- A quotient by a power of 2. -/
theorem pow_quo (m : Int) (f : Nat) (gm : m.natAbs < LOW) (hf : f ≤ 126) : ∃ (p : Int) (q : Nat), p = m.tdiv (Nat.gcd m.natAbs (1 * 2 ^ f) : Nat) ∧ q = (1 * 2 ^ f) / Nat.gcd m.natAbs (1 * 2 ^ f) ∧ nr p q = rd m (2 ^ f) ∧ q ≠ 0 ∧ p.natAbs < LOW ∧ q < LOW ∧ m.natAbs < MID ∧ 1 * 2 ^ f < MID ∧ 1 * 2 ^ f ≠ 0 := by
  have h0 : 1 * 2 ^ f ≠ 0 := by have := Nat.two_pow_pos f; omega
  have gD : 1 * 2 ^ f < LOW := low_of (k := 127) (by rw [Nat.one_mul]; exact Nat.pow_lt_pow_right (by decide) (by omega)) (by decide)
  obtain ⟨h1, h2⟩ := lowest m h0
  have e : ((1 * 2 ^ f : Nat) : Int) = 2 ^ f := by rw [Nat.one_mul]; simp
  rw [e] at h1
  exact ⟨_, _, rfl, rfl, h1, h2, (low_tdiv gm gD).1, (low_tdiv gm gD).2, (low_big gm).2.2.2.1, (low_big gD).2.2.2.1, h0⟩
theorem p8_on {W W' : World} {B : Nat} {p : Fl} (hb : Below W.heap.size W W') (h : W.cell? ⟨B, 0, none⟩ = some (.int .i64 p.a) ∧ W.cell? ⟨B, 1, none⟩ = some (.int .i64 p.b) ∧ W.cell? ⟨B, 2, none⟩ = some (.int .i64 p.f) ∧ W.cell? ⟨B, 3, none⟩ = some (.int .i64 p.n) ∧ W.cell? ⟨B, 4, none⟩ = some (.int .i64 p.d) ∧ W.cell? ⟨B, 5, none⟩ = some (.int .i64 (hi p.v)) ∧ W.cell? ⟨B, 6, none⟩ = some (.int .u64 (lo p.v)) ∧ W.cell? ⟨B, 7, none⟩ = some (.int .i64 p.k)) : W'.cell? ⟨B, 0, none⟩ = some (.int .i64 p.a) ∧ W'.cell? ⟨B, 1, none⟩ = some (.int .i64 p.b) ∧ W'.cell? ⟨B, 2, none⟩ = some (.int .i64 p.f) ∧ W'.cell? ⟨B, 3, none⟩ = some (.int .i64 p.n) ∧ W'.cell? ⟨B, 4, none⟩ = some (.int .i64 p.d) ∧ W'.cell? ⟨B, 5, none⟩ = some (.int .i64 (hi p.v)) ∧ W'.cell? ⟨B, 6, none⟩ = some (.int .u64 (lo p.v)) ∧ W'.cell? ⟨B, 7, none⟩ = some (.int .i64 p.k) :=
  ⟨cell_on hb h.1, cell_on hb h.2.1, cell_on hb h.2.2.1, cell_on hb h.2.2.2.1, cell_on hb h.2.2.2.2.1, cell_on hb h.2.2.2.2.2.1, cell_on hb h.2.2.2.2.2.2.1, cell_on hb h.2.2.2.2.2.2.2⟩
end Go.Proofs.Ytchakmkoimgakaa
namespace Go.Proofs.Ytchakmkoimgakaa
theorem rd_mono {n m d : Int} (hd : 0 < d) (h : n ≤ m) : rd n d ≤ rd m d := by
  have a := (half_math n d (by omega)).1
  have b := (half_math m d (by omega)).1
  by_cases l2 : rd n d ≤ rd m d
  · exact l2
  · exfalso
    have l : rd m d < rd n d := by omega
    by_cases e : n = m
    · subst e; omega
    · have k : (rd m d + 1) * d ≤ rd n d * d := Int.mul_le_mul_of_nonneg_right l (by omega)
      rw [Int.add_mul, Int.one_mul] at k
      generalize rd m d * d = x at *
      generalize rd n d * d = y at *
      omega
end Go.Proofs.Ytchakmkoimgakaa
