/-
  The references' whole numbers: quotient and rest.
  The references' whole numbers: the greatest divisor of two.
  Rounded quotients, said of whole numbers.
  The references' whole numbers with a sign: as a word, halved, divided.
-/
import Derived.Test.YtldchepfcgbpiaaGreatM02
import Derived.Test.YtldchepfcgbpiaaGreatM03
import Derived.Test.YtldchepfcgbpiaaGreatM04
import Derived.Test.YtldchepfcgbpiaaGreatM06
namespace Go.Proofs.YtldchepfcgbpiaaGreat
open Go.RowKit

/-- A row of limbs that the call has made: cells that may be written. -/
def Cells64 (W : World) (g : Nat) (es : List Nat) : Prop := g < W.heap.size ∧ ∀ j, j < es.length → W.cell? ⟨g, j, none⟩ = some (.int .u64 (es.getD j 0 : Nat)) ∧ W.frozen? ⟨g, j, none⟩ = false
theorem Cells64.set {W : World} {g : Nat} {es : List Nat} (h : Cells64 W g es) (j v : Nat) (hj : j < es.length) : Cells64 (W.setCell ⟨g, j, none⟩ (.int .u64 (v : Nat))) g (es.set j v) := by
  refine ⟨by simpa [World.setCell] using h.1, fun m hm => ?_⟩
  rw [List.length_set] at hm
  obtain ⟨h1, h2⟩ := h.2 m hm
  refine ⟨?_, by rw [World.frozen?_setCell]; exact h2⟩
  rw [getD_set _ _ _ _ hj]
  by_cases e : m = j
  · subst e; rw [if_pos rfl]; simp [go_sem, h1]
  · rw [if_neg e]
    have : ¬ j = m := fun h => e h.symm
    simp [go_sem, h1]
theorem Cells64.drew {W : World} {g : Nat} {es : List Nat} (h : Cells64 W g es) : Cells64 W.drew g es := h
theorem Cells64.below {W W' : World} {g : Nat} {es : List Nat} (h : Cells64 W g es) (hb : Below W.heap.size W W') : Cells64 W' g es := by
  refine ⟨Nat.lt_of_lt_of_le h.1 hb.size, fun m hm => ?_⟩
  obtain ⟨h1, h2⟩ := h.2 m hm
  exact ⟨(hb.cell (p := ⟨g, m, none⟩) h.1).trans h1, (hb.frozen (p := ⟨g, m, none⟩) h.1).trans h2⟩
theorem Cells64.rd {W : World} {g cap : Nat} {es : List Nat} (h : Cells64 W g es) (hc : es.length ≤ cap) : Rd .u64 W (.slice (some ⟨g, 0, none⟩) es.length cap) es :=
  .inr ⟨g, 0, cap, rfl, hc, h.1, fun i hi => by rw [Nat.zero_add]; exact (h.2 i hi).1⟩
theorem cells64_made (w : World) (n : Nat) : Cells64 (w.alloc (.cells (madeCells #[.int .u64 0] n) 57)) w.heap.size (List.replicate n 0) := by
  refine ⟨by simp, fun j hj => ?_⟩
  simp at hj
  have g : (List.replicate n 0).getD j 0 = 0 := by simp only [List.getD_eq_getElem?_getD, List.getElem?_replicate]; split <;> rfl
  rw [g]
  refine ⟨?_, by simp [go_sem]⟩
  rw [World.cell?_alloc_new]
  simp [madeCells, hj, Nat.mod_one]
/-- A write into a block that a number does not lie in. -/
theorem IsN.set_far {W : World} {v u : Value} {n g j : Nat} (h : IsN W v n) (hg : v.ownBlock ≠ some g) : IsN (W.setCell ⟨g, j, none⟩ u) v n := by
  obtain ⟨ls, r, h2⟩ := h
  refine ⟨ls, ?_, h2⟩
  rcases r with ⟨rfl, rfl⟩ | ⟨b, off, cap, rfl, hc, hl, hr⟩
  · exact .inl ⟨rfl, rfl⟩
  · have hne : b ≠ g := fun e => hg (by rw [e]; rfl)
    refine .inr ⟨b, off, cap, rfl, hc, by simpa [World.setCell] using hl, fun i hi => ?_⟩
    refine (World.cell?_setCell_other _ _ _ _ fun e => ?_).trans (hr i hi)
    simp only [Addr.mk.injEq] at e
    exact hne e.1.symm
theorem IsN.own_lt {W : World} {v : Value} {n b : Nat} (h : IsN W v n) (hv : v.ownBlock = some b) : b < W.heap.size := by
  obtain ⟨ls, r, _⟩ := h
  rcases r with ⟨rfl, rfl⟩ | ⟨b', off, cap, rfl, hc, hl, hr⟩
  · simp [Value.ownBlock] at hv
  · simp [Value.ownBlock] at hv; omega
theorem zeros_val (n : Nat) : lval 18446744073709551616 (List.replicate n 0) = 0 := by
  induction n with
  | zero => rfl
  | succ n ih => simp [List.replicate_succ, lval, ih]
/-- Beyond all numbers that are divided. -/
def MID : Nat := 2 ^ 65536
theorem mul_pow_lt {a b : Nat} (k m n : Nat) (ha : a ≤ 2 ^ k) (hb : b ≤ 2 ^ m) (h : k + m < n) : a * b < 2 ^ n := by
  have p := Nat.mul_le_mul ha hb
  rw [← Nat.pow_add] at p
  exact Nat.lt_of_le_of_lt p (Nat.pow_lt_pow_right (by decide) h)
theorem mid_of {n k : Nat} (h : n < 2 ^ k) (hk : k ≤ 65536) : n < MID := by
  unfold MID
  exact Nat.lt_of_lt_of_le h (pow2_mono k 65536 hk)
theorem mid_big {n : Nat} (h : n < MID) : n < BIG := by
  unfold MID at h
  exact big_of h (by decide)
theorem mid_bn {n : Nat} (h : n < MID) : bn n ≤ 65536 := by
  unfold MID at h
  exact bn_le h
/-- What holds at each round: the quotient so far, the rest, the divisor moved. -/
def QInv (a b q r d j : Nat) : Prop := a = q * b + r ∧ r < b * 2 ^ j ∧ q % 2 ^ j = 0 ∧ d = b * 2 ^ j / 2
theorem qinv_start {a b : Nat} (hb : b ≠ 0) {n : Nat} (hn : bn a = n + bn b) : QInv a b 0 a (b * 2 ^ n) (n + 1) := by
  have h1 := bn_lt a
  have h2 := bn_ge hb
  have hb1 : 1 ≤ bn b := by
    rcases Nat.eq_zero_or_pos (bn b) with h | h
    · have := bn_lt b; rw [h] at this; simp at this; omega
    · exact h
  refine ⟨by omega, ?_, by simp, ?_⟩
  · refine Nat.lt_of_lt_of_le h1 ?_
    have := Nat.mul_le_mul_right (2 ^ (n + 1)) h2
    rw [← Nat.pow_add, show bn b - 1 + (n + 1) = bn a by omega] at this
    exact this
  · rw [Nat.pow_succ, ← Nat.mul_assoc, Nat.mul_div_cancel _ (by decide)]
theorem qinv_more {a b q r d j : Nat} (h : QInv a b q r d (j + 1)) (hd : d ≤ r) : QInv a b (q + 2 ^ j) (r - d) (d / 2) j := by
  obtain ⟨h1, h2, h3, h4⟩ := h
  have e : d = b * 2 ^ j := by rw [h4, Nat.pow_succ, ← Nat.mul_assoc, Nat.mul_div_cancel _ (by decide)]
  rw [Nat.pow_succ, ← Nat.mul_assoc] at h2
  refine ⟨?_, by omega, ?_, by rw [e]⟩
  · rw [Nat.add_mul, Nat.mul_comm (2 ^ j), ← e]; omega
  · have hd : 2 ^ j ∣ q := Nat.dvd_trans (Nat.pow_dvd_pow 2 (Nat.le_succ j)) (Nat.dvd_of_mod_eq_zero h3)
    exact Nat.mod_eq_zero_of_dvd (Nat.dvd_add hd (Nat.dvd_refl _))
theorem qinv_less {a b q r d j : Nat} (h : QInv a b q r d (j + 1)) (hd : r < d) : QInv a b q r (d / 2) j := by
  obtain ⟨h1, h2, h3, h4⟩ := h
  have e : d = b * 2 ^ j := by rw [h4, Nat.pow_succ, ← Nat.mul_assoc, Nat.mul_div_cancel _ (by decide)]
  refine ⟨h1, by omega, ?_, by rw [e]⟩
  exact Nat.mod_eq_zero_of_dvd (Nat.dvd_trans (Nat.pow_dvd_pow 2 (Nat.le_succ j)) (Nat.dvd_of_mod_eq_zero h3))
theorem qinv_end {a b q r d : Nat} (h : QInv a b q r d 0) : q = a / b ∧ r = a % b := by
  obtain ⟨h1, h2, _, _⟩ := h
  rw [Nat.pow_zero, Nat.mul_one] at h2
  have hb : 0 < b := by omega
  rw [h1]
  refine ⟨?_, ?_⟩
  · rw [Nat.mul_comm q b, Nat.mul_add_div hb, Nat.div_eq_of_lt h2, Nat.add_zero]
  · rw [Nat.mul_comm q b, Nat.mul_add_mod, Nat.mod_eq_of_lt h2]
/-- The next bit of the quotient, put into its limb. -/
theorem bit_put {es : List Nat} {q j k s : Nat} (hx : ∀ x ∈ es, x < 18446744073709551616) (hv : lval 18446744073709551616 es = q) (hq : q % 2 ^ (j + 1) = 0) (hj : j = 64 * k + s) (hs : s < 64) (hk : k < es.length) :
    bits BinOp.or IntKind.u64 (es.getD k 0 : Nat) ((2 ^ s : Nat) : Int) = ((es.getD k 0 + 2 ^ s : Nat) : Int) ∧ es.getD k 0 + 2 ^ s < 18446744073709551616 ∧ lval 18446744073709551616 (es.set k (es.getD k 0 + 2 ^ s)) = q + 2 ^ j ∧ ∀ x ∈ es.set k (es.getD k 0 + 2 ^ s), x < 18446744073709551616 := by
  have hl := limb_at hx k
  rw [hv] at hl
  obtain ⟨M, hM⟩ := Nat.dvd_of_mod_eq_zero hq
  have pk : (18446744073709551616 : Nat) ^ k = 2 ^ (64 * k) := by rw [b64, ← Nat.pow_mul]
  have e1 : q / 18446744073709551616 ^ k = 2 ^ (s + 1) * M := by
    rw [hM, pk, hj, show 64 * k + s + 1 = 64 * k + (s + 1) by omega, Nat.pow_add, Nat.mul_assoc, Nat.mul_div_cancel_left _ (Nat.two_pow_pos _)]
  have e2 : (2 : Nat) ^ (s + 1) * 2 ^ (63 - s) = 18446744073709551616 := by rw [← Nat.pow_add, show s + 1 + (63 - s) = 64 by omega]
  have e3 : 2 ^ (s + 1) * M % 18446744073709551616 = 2 ^ (s + 1) * (M % 2 ^ (63 - s)) := by
    have h := Nat.mul_mod_mul_left (2 ^ (s + 1)) M (2 ^ (63 - s))
    rw [e2] at h
    exact h
  rw [e1, e3] at hl
  have m := Nat.mod_lt M (Nat.two_pow_pos (63 - s))
  have m2 := Nat.mul_le_mul_left (2 ^ (s + 1)) (show M % 2 ^ (63 - s) + 1 ≤ 2 ^ (63 - s) from m)
  rw [Nat.mul_add, Nat.mul_one, e2, hl] at m2
  have ps : (2 : Nat) ^ (s + 1) = 2 * 2 ^ s := by rw [Nat.pow_succ, Nat.mul_comm]
  have pp : (0 : Nat) < 2 ^ s := Nat.two_pow_pos s
  have lt : es.getD k 0 + 2 ^ s < 18446744073709551616 := by omega
  refine ⟨?_, lt, ?_, ?_⟩
  · rw [u64_or_nat _ _ (by omega) (by omega)]
    congr 1
    rw [← hl]
    exact (Nat.two_pow_add_eq_or_of_lt (i := s + 1) (b := 2 ^ s) (by omega) _).symm
  · have h := lval_set 18446744073709551616 es k (es.getD k 0 + 2 ^ s) hk
    rw [hv, Nat.mul_add] at h
    have e4 : 18446744073709551616 ^ k * 2 ^ s = 2 ^ j := by rw [pk, ← Nat.pow_add, hj]
    omega
  · intro x hxm
    rcases List.mem_or_eq_of_mem_set hxm with h | h
    · exact hx x h
    · rw [h]; exact lt

theorem bn_less {a b : Nat} (h : bn a < bn b) : a < b := by
  have h1 := bn_lt a
  have hb : b ≠ 0 := fun e => by rw [e] at h; simp [bn] at h
  have h2 := bn_ge hb
  have := Nat.pow_le_pow_right (show 0 < 2 by decide) (show bn a ≤ bn b - 1 by omega)
  omega
theorem dig_many {ls : List Nat} (h2 : ∀ x ∈ ls, x < 4294967296) (h : 4294967296 ≤ lval 4294967296 ls) : ((ls.length : Int) == 1) = false := by
  rw [beq_eq_false_iff_ne]
  intro e
  have e1 : ls.length = 1 := by omega
  match ls, e1 with
  | [y], _ =>
    have := h2 y (by simp)
    simp [lval] at h
    omega
theorem dig_one {ls : List Nat} (_h2 : ∀ x ∈ ls, x < 4294967296) (h3 : trimLen ls = ls.length) (h : lval 4294967296 ls < 4294967296) (h0 : lval 4294967296 ls ≠ 0) : ∃ y, ls = [y] ∧ y = lval 4294967296 ls := by
  match ls, h3, h, h0 with
  | [], _, _, h0 => exact absurd rfl h0
  | [y], _, _, _ => exact ⟨y, rfl, by simp [lval]⟩
  | x :: y :: zs, h3, h, _ =>
    have := lval_ge 4294967296 (x :: y :: zs) h3 (by simp)
    have p := Nat.pow_le_pow_right (show 0 < 4294967296 by decide) (show 1 ≤ (x :: y :: zs).length - 1 by simp)
    rw [Nat.pow_one] at p
    omega
theorem down2_1 (va : Value) (a : Nat) (w : World) (ha : IsN w va a) (la : a < BIG) : Calls Tryz.prog 92 #[va, .int .i64 1] w (SomeNF w (a / 2)) := by
  have h := down2_far va a 1 w ha la (by decide)
  rw [Nat.pow_one] at h
  exact h
/-- whole, of digits that are a number -/
theorem whole_isd (v : Value) (n : Nat) (w : World) (h : IsD w v n) (hb : n < BIG) : Calls Tryz.prog 90 #[v] w (SomeN w n) := by
  obtain ⟨ls, r, h1, h2, h3⟩ := h
  have := len_d h3 (by rw [h2]; exact hb)
  rw [← h2]
  exact whole_num v ls w r h1 (by omega)
/-- What a division answers. -/
def SomeQR (w : World) (q r : Nat) (e : Ending) (w' : World) : Prop := ∃ u v, e = .returned (.tuple #[u, v]) ∧ IsN w' u q ∧ IsN w' v r ∧ Below w.heap.size w w'

set_option maxRecDepth 100000 in
set_option maxHeartbeats 8000000 in
/-- NDivide -/
theorem ndivide_any (va vb : Value) (a b : Nat) (w : World) (ha : IsN w va a) (hb : IsN w vb b) (la : a < MID) (lb : b < MID) (hb0 : b ≠ 0) : Calls Tryz.prog 62 #[va, vb] w (SomeQR w (a / b) (a % b)) := by
  have HA := Lib.hid (And.intro ha (And.intro hb (And.intro la (And.intro lb hb0))))
  clear ha hb la lb hb0
  rcases Nat.lt_or_ge b 4294967296 with hlt | hge
  · have bps : 0 < b := Nat.pos_of_ne_zero HA.out.2.2.2.2
    have HB := Lib.hid (And.intro hlt bps)
    clear hlt bps
    go_enter Tryz.func62, Tryz.ntmps62
    go_wp2_with (first | (go_at_call 88; (with_reducible refine (halves_num vb b _ HA.out.2.1 (mid_big HA.out.2.2.2.1)).mono ?_); rintro e w1 ⟨vy, rfl, hvy, hb1⟩; obtain ⟨ys, ry, y1, y2, y3⟩ := hvy; obtain ⟨y, rfl, ey0⟩ := dig_one y1 y3 (by rw [y2]; exact HB.out.1) (by rw [y2]; exact HA.out.2.2.2.2); (have ey := ey0.trans y2); clear ey0; subst ey; obtain ⟨oy, cy, rfl, hcy⟩ := ry.form; obtain ⟨bx, fx, rfl, hbx, hcell⟩ := hcy 0 (by simp); (have hcell : w1.cell? ⟨bx, fx, none⟩ = some (.int .u32 (y : Nat)) := hcell); clear hcy ry y1 y2 y3; simp only [List.length_singleton]))
    go_region_held3 (fun w' => w'.cell? ⟨bx, fx, none⟩ = some (.int .u32 (y : Nat))) (first | (simp [go_sem, *]; done) | (simp [go_sem, World.cell?_alloc_some, *]; done)) (first | (go_at_call 88; (with_reducible refine (halves_num va a _ (HA.out.1.below (by repeat (first | exact Below.refl _ _ | assumption | apply Below.drew | refine Below.setCell ?_ (by first | omega | (simp; done) | (simp; omega)) _ | refine Below.alloc ?_ (by first | omega | (simp; done) | (simp; omega)) _ | refine Below.trans ?_ (hb1.mono (by first | omega | (simp; done) | (simp; omega)))))) (mid_big HA.out.2.2.1)).mono ?_); rintro e w2 ⟨vx, rfl, hvx, hb2⟩; have e20 : w2.cell? ⟨bx, fx, none⟩ = some (.int .u32 (y : Nat)) := cell_on hb2 (by first | (simp [go_sem, *]; done) | (simp [go_sem, World.cell?_alloc_some, *]; done) | fail); have s20 : bx < w2.heap.size := World.block_lt_of_cell? _ _ e20; have t20 : bx < w2.heap.size + 1 := Nat.lt_succ_of_lt s20) | (go_at_call 89; (with_reducible refine (short_any _ a y _ (hvx.below (by repeat (first | exact Below.refl _ _ | assumption | apply Below.drew | refine Below.setCell ?_ (by first | omega | (simp; done) | (simp; omega)) _ | refine Below.alloc ?_ (by first | omega | (simp; done) | (simp; omega)) _))) (mid_big HA.out.2.2.1) HB.out.2 HB.out.1).mono ?_); rintro e w3 ⟨q, rfl, hq, hb3⟩; have e30 : w3.cell? ⟨bx, fx, none⟩ = some (.int .u32 (y : Nat)) := cell_on hb3 (by first | (simp [go_sem, *]; done) | (simp [go_sem, World.cell?_alloc_some, *]; done) | fail); have s30 : bx < w3.heap.size := World.block_lt_of_cell? _ _ e30; have t30 : bx < w3.heap.size + 1 := Nat.lt_succ_of_lt s30))
    all_goals
      have yl := HB.out.1
      have ml := Nat.mod_lt a HB.out.2
      obtain ⟨m, hm⟩ : ∃ m, m = a % y := ⟨_, rfl⟩
      have hmI : (a : Int) % (y : Int) = (m : Int) := by rw [hm]; simp
      rw [← hm] at ml
      have MM := Lib.hid ml
      have er : IntKind.u64.wrap (m : Int) = (m : Int) := by rw [IntKind.wrap_u64]; omega
      have HM := Lib.hid hm
      clear hm yl ml
      go_wp2_with (first | (go_at_call 90; (with_reducible refine (whole_isd _ (a / y) _ (hq.below (by repeat (first | exact Below.refl _ _ | assumption | apply Below.drew | refine Below.setCell ?_ (by first | omega | (simp; done) | (simp; omega)) _ | refine Below.alloc ?_ (by first | omega | (simp; done) | (simp; omega)) _))) (Nat.lt_of_le_of_lt (Nat.div_le_self _ _) (mid_big HA.out.2.2.1))).mono ?_); rintro e w4 ⟨u, rfl, hu, hb4⟩) | (go_at_call 38; (with_reducible refine (nof_num m _ (by have := MM.out; have := HB.out.1; omega)).mono ?_); rintro e w5 ⟨v, rfl, hv, hb5⟩))
      go_ret2
      have q1 := hb1.size
      have q2 : w1.heap.size ≤ w2.heap.size := hb2.size
      have q3 := hb3.size
      have q4 := hb4.size
      exact ⟨u, v, rfl, hu.below (by repeat (first | exact Below.refl _ _ | assumption | apply Below.drew | refine Below.setCell ?_ (by first | omega | (simp; done) | (simp; omega)) _ | refine Below.alloc ?_ (by first | omega | (simp; done) | (simp; omega)) _ | refine Below.trans ?_ (hb5.mono (by first | omega | (simp; done) | (simp; omega))))), by rw [← HM.out]; exact hv, by
        repeat (first | exact Below.refl _ _ | assumption | apply Below.drew | refine Below.setCell ?_ (by first | omega | (simp; done) | (simp; omega)) _ | refine Below.alloc ?_ (by first | omega | (simp; done) | (simp; omega)) _ | refine Below.trans ?_ (hb5.mono (by first | omega | (simp; done) | (simp; omega))) | refine Below.trans ?_ (hb4.mono (by first | omega | (simp; done) | (simp; omega))) | refine Below.trans ?_ (hb3.mono (by first | omega | (simp; done) | (simp; omega))) | refine Below.trans ?_ (hb2.mono (by first | omega | (simp; done) | (simp; omega))) | refine Below.trans ?_ (hb1.mono (by first | omega | (simp; done) | (simp; omega))))⟩
  · have hmk : Hid (∀ (k : Nat) (W : World), k ≤ 1024 → (Instr.makeSlice 69 (.int .i64 ((k : Int) + 1)) (.int .i64 ((k : Int) + 1))).run Tryz.prog W = .ok (.slice (some ⟨W.heap.size, 0, none⟩) (k + 1) (k + 1)) (W.alloc (.cells (madeCells #[.int .u64 0] (k + 1)) 57))) := by
      obtain ⟨i0, hi0, hz0, hz1, hz2⟩ := info_parts info64
      intro k W hn
      have := run_make (w := W) 69 57 i0 (.int .u64 0) Tryz.underlying69 hi0 hz0 .i64 .i64 (k + 1) (k + 1) (by omega) (by omega) (by rw [hz2]; omega) (by omega)
      (try simp only [Int.natCast_add, Int.natCast_one] at this)
      rw [this, hz1]; simp [Value.cells]
    have HB := Lib.hid hge
    have NA := Lib.hid (fun W h => nlen_any va a W h (mid_big HA.out.2.2.1))
    have NB := Lib.hid (fun W h => nlen_any vb b W h (mid_big HA.out.2.2.2.1))
    have lA := mid_bn HA.out.2.2.1
    have lB := mid_bn HA.out.2.2.2.1
    clear hge
    rcases Nat.lt_or_ge (bn a) (bn b) with hlt | hge
    · have AL := Lib.hid (bn_less hlt)
      have neg : (bn a : Int) - (bn b : Int) < 0 := by omega
      clear hlt
      go_enter Tryz.func62, Tryz.ntmps62
      go_wp2_with (first | (go_at_call 88; (with_reducible refine (halves_num vb b _ HA.out.2.1 (mid_big HA.out.2.2.2.1)).mono ?_); rintro e w1 ⟨vy, rfl, hvy, hb1⟩; have q1 := hb1.size; obtain ⟨ys, ry, y1, y2, y3⟩ := hvy; have dm := dig_many y1 (by rw [y2]; exact HB.out); obtain ⟨oy, cy, rfl, hcy⟩ := ry.form; clear hcy ry y1 y2 y3) | (go_at_call 91; (with_reducible refine (NA.out _ (HA.out.1.below hb1)).mono ?_); rintro e w' ⟨rfl, rfl⟩) | (go_at_call 91; (with_reducible refine (NB.out _ (HA.out.2.1.below hb1)).mono ?_); rintro e w' ⟨rfl, rfl⟩))
      go_ret2
      exact ⟨_, _, rfl, ⟨[], .inl ⟨rfl, rfl⟩, by simp, by rw [Nat.div_eq_of_lt AL.out]; rfl, rfl⟩, by rw [Nat.mod_eq_of_lt AL.out]; exact HA.out.1.below hb1, hb1⟩
    · obtain ⟨n, hn⟩ : ∃ n, bn a = n + bn b := ⟨bn a - bn b, by omega⟩
      have QS := Lib.hid (qinv_start HA.out.2.2.2.2 hn)
      have en : (bn a : Int) - (bn b : Int) = (n : Int) := by omega
      have nb : n ≤ 65536 := by omega
      obtain ⟨k, hk⟩ : ∃ k, k = n / 64 := ⟨_, rfl⟩
      have ek : (n : Int) / 64 = (k : Int) := by omega
      have kb : k ≤ 1024 := by omega
      have HK := Lib.hid hk
      clear hn hge hk
      go_enter Tryz.func62, Tryz.ntmps62
      go_wp2_with (first | (go_at_call 88; (with_reducible refine (halves_num vb b _ HA.out.2.1 (mid_big HA.out.2.2.2.1)).mono ?_); rintro e w1 ⟨vy, rfl, hvy, hb1⟩; have q1 := hb1.size; obtain ⟨ys, ry, y1, y2, y3⟩ := hvy; have dm := dig_many y1 (by rw [y2]; exact HB.out); obtain ⟨oy, cy, rfl, hcy⟩ := ry.form; clear hcy ry y1 y2 y3; have mk := hmk.out k w1 kb) | (go_at_call 91; (with_reducible refine (NA.out _ (HA.out.1.below hb1)).mono ?_); rintro e w' ⟨rfl, rfl⟩) | (go_at_call 91; (with_reducible refine (NB.out _ (HA.out.2.1.below hb1)).mono ?_); rintro e w' ⟨rfl, rfl⟩) | (go_at_call 80; (with_reducible refine (up2_far vb b n _ (HA.out.2.1.below (by repeat (first | exact Below.refl _ _ | assumption | apply Below.drew | refine Below.setCell ?_ (by first | omega | (simp; done) | (simp; omega)) _ | refine Below.alloc ?_ (by first | omega | (simp; done) | (simp; omega)) _ | refine Below.trans ?_ (hb1.mono (by first | omega | (simp; done) | (simp; omega)))))) (mid_big HA.out.2.2.2.1) (by omega)).mono ?_); rintro e w2 ⟨vd, rfl, hvd, hb2, fd⟩))
      have gD : decide ((n : Int) < 0) = false := by rw [decide_eq_false_iff_not]; omega
      simp only [gD]
      have C0 := Lib.hid ((cells64_made w1 (k + 1)).below hb2)
      have FD := Lib.hid (fd w1.heap.size (by simp))
      have FA : Hid (va.ownBlock ≠ some w1.heap.size) := fun h => by have := HA.out.1.own_lt h; omega
      have z2 : w1.heap.size < w2.heap.size := by have := hb2.size; simp at this; omega
      have hB0 : Below w.heap.size w w2 := by
        repeat (first | exact Below.refl _ _ | assumption | apply Below.drew | refine Below.setCell ?_ (by first | omega | (simp; done) | (simp; omega)) _ | refine Below.alloc ?_ (by first | omega | (simp; done) | (simp; omega)) _ | refine Below.trans ?_ (hb2.mono (by first | omega | (simp; done) | (simp; omega))) | refine Below.trans ?_ (hb1.mono (by first | omega | (simp; done) | (simp; omega))))
      have VD := Lib.hid hvd
      clear gD en ek mk dm fd hvd hb2
      generalize w1.heap.size = g at *
      go_loopw [11, 12, 13] (fun s11 s12 s13 wr => ∃ (j : Nat) (es : List Nat) (r d q : Nat), j ≤ n + 1 ∧ s13 = .int .i64 ((j : Int) - 1) ∧ Hid (QInv a b q r d j) ∧ Hid (IsN wr s11 r ∧ s11.ownBlock ≠ some g) ∧ Hid (IsN wr s12 d ∧ s12.ownBlock ≠ some g) ∧ Hid (Cells64 wr g es ∧ es.length = k + 1 ∧ lval 18446744073709551616 es = q ∧ ∀ x ∈ es, x < 18446744073709551616) ∧ Below w.heap.size w wr) (fun _ _ s13 _ => (intOf s13 + 1).toNat)
      case atStart =>
        refine ⟨n + 1, List.replicate (k + 1) 0, a, b * 2 ^ n, 0, Nat.le_refl _, by congr 1; omega, QS.out, ⟨HA.out.1.below hB0, FA.out⟩, ⟨VD.out, FD.out⟩, ⟨C0.out, by simp, zeros_val _, ?_⟩, hB0⟩
        intro x hx
        rw [(List.mem_replicate.1 hx).2]; decide
      case round =>
        obtain ⟨j, es, r, d, q, hj, rfl, HI, HR, HD, HC, hB⟩ := hrel
        have hBs := hB.size
        by_cases h0 : j = 0
        · subst h0
          obtain ⟨p1, p2⟩ := qinv_end HI.out
          have RD : Hid (Rd .u64 wr (.slice (some ⟨g, 0, none⟩) (k + 1) (k + 1)) es) := by
            have h := HC.out.1.rd (cap := k + 1) (by rw [HC.out.2.1]; exact Nat.le_refl _)
            rw [HC.out.2.1] at h
            exact h
          have HN : Hid (IsN wr (cutv (.slice (some ⟨g, 0, none⟩) (k + 1) (k + 1)) (trimLen es)) (a / b)) := by
            have h := isN_trim RD.out HC.out.2.2.2
            rw [HC.out.2.2.1, p1] at h
            exact h
          have TR := Lib.hid (trim_any _ es wr (by rw [HC.out.2.1]; omega) RD.out)
          have PR := Lib.hid p2
          clear p1 p2
          simp only [Int.natCast_zero]
          go_wp2_with (first | (go_at_call 64; (with_reducible refine (TR.out).mono ?_); rintro e w' ⟨rfl, rfl⟩) | fail)
          go_ret2
          exact ⟨_, _, rfl, HN.out, by rw [← PR.out]; exact HR.out.1, hB⟩
        · obtain ⟨i, rfl⟩ : ∃ i, j = i + 1 := ⟨j - 1, by omega⟩
          have em : ((i + 1 : Nat) : Int) - 1 = (i : Int) := by omega
          rw [em]
          have rB : r < BIG := Nat.lt_of_le_of_lt (by have h := HI.out.1; omega) (mid_big HA.out.2.2.1)
          have dB : d < BIG := by
            have h := HI.out.2.2.2
            have hb := HA.out.2.2.2.1
            unfold MID at hb
            refine big_of (k := 131073) ?_ (by decide)
            rw [h, Nat.pow_succ, ← Nat.mul_assoc, Nat.mul_div_cancel _ (by decide)]
            have p1 := pow2_mono i 65536 (by omega)
            exact mul_pow_lt 65536 65536 131073 (Nat.le_of_lt hb) p1 (by decide)
          have GB := Lib.hid (And.intro rB dB)
          clear rB dB
          obtain ⟨c, hc⟩ : ∃ c, c = sg (r : Nat) (d : Nat) := ⟨_, rfl⟩
          have CM : Hid (∀ W, IsN W u11 r → IsN W u12 d → Calls Tryz.prog 77 #[u11, u12] W fun e w' => e = .returned (.int .i64 c) ∧ Below W.heap.size W w') := fun W h1 h2 => by rw [hc]; exact ncmp_any _ _ r d W h1 h2 GB.out.1 GB.out.2
          rcases Nat.lt_or_ge r d with hlt | hge
          · have c0 : c < 0 := by rw [hc]; unfold sg; split <;> omega
            have ST := Lib.hid (qinv_less HI.out hlt)
            clear hc hlt em
            go_wp2_with (first | (go_at_call 77; (with_reducible refine (CM.out _ (HR.out.1.below (by repeat (first | exact Below.refl _ _ | assumption | apply Below.drew | refine Below.setCell ?_ (by first | omega | (simp; done) | (simp; omega)) _ | refine Below.alloc ?_ (by first | omega | (simp; done) | (simp; omega)) _))) (HD.out.1.below (by repeat (first | exact Below.refl _ _ | assumption | apply Below.drew | refine Below.setCell ?_ (by first | omega | (simp; done) | (simp; omega)) _ | refine Below.alloc ?_ (by first | omega | (simp; done) | (simp; omega)) _)))).mono ?_); rintro e w3 ⟨rfl, hb3⟩; have q3 := hb3.size) | (go_at_call 92; (with_reducible refine (down2_1 u12 d _ (HD.out.1.below (by repeat (first | exact Below.refl _ _ | assumption | apply Below.drew | refine Below.setCell ?_ (by first | omega | (simp; done) | (simp; omega)) _ | refine Below.alloc ?_ (by first | omega | (simp; done) | (simp; omega)) _ | refine Below.trans ?_ (hb3.mono (by first | omega | (simp; done) | (simp; omega)))))) GB.out.2).mono ?_); rintro e w5 ⟨v5, rfl, hv5, hb5, f5⟩; have q5 := hb5.size))
            have hg := HC.out.1.1
            have B5 : Below wr.heap.size wr w5 := by
              repeat (first | exact Below.refl _ _ | assumption | apply Below.drew | refine Below.setCell ?_ (by first | omega | (simp; done) | (simp; omega)) _ | refine Below.alloc ?_ (by first | omega | (simp; done) | (simp; omega)) _ | refine Below.trans ?_ (hb5.mono (by first | omega | (simp; done) | (simp; omega))) | refine Below.trans ?_ (hb3.mono (by first | omega | (simp; done) | (simp; omega))))
            exact ⟨⟨i, es, r, d / 2, q, by omega, rfl, ST.out, ⟨HR.out.1.below B5, HR.out.2⟩, ⟨hv5, f5 g (by omega)⟩, ⟨HC.out.1.below B5, HC.out.2⟩, hB.trans (B5.mono hBs)⟩, by simp [intOf]⟩
          · have c0 : c ≥ 0 := by rw [hc]; unfold sg; split; omega; split <;> omega
            have LE := Lib.hid hge
            have ST := Lib.hid (qinv_more HI.out hge)
            clear hc hge em
            go_upto_region 16 with (first | (go_at_call 77; (with_reducible refine (CM.out _ (HR.out.1.below (by repeat (first | exact Below.refl _ _ | assumption | apply Below.drew | refine Below.setCell ?_ (by first | omega | (simp; done) | (simp; omega)) _ | refine Below.alloc ?_ (by first | omega | (simp; done) | (simp; omega)) _))) (HD.out.1.below (by repeat (first | exact Below.refl _ _ | assumption | apply Below.drew | refine Below.setCell ?_ (by first | omega | (simp; done) | (simp; omega)) _ | refine Below.alloc ?_ (by first | omega | (simp; done) | (simp; omega)) _)))).mono ?_); rintro e w3 ⟨rfl, hb3⟩; have q3 := hb3.size) | (go_at_call 78; (with_reducible refine (nless_far u11 u12 r d _ (HR.out.1.below (by repeat (first | exact Below.refl _ _ | assumption | apply Below.drew | refine Below.setCell ?_ (by first | omega | (simp; done) | (simp; omega)) _ | refine Below.alloc ?_ (by first | omega | (simp; done) | (simp; omega)) _ | refine Below.trans ?_ (hb3.mono (by first | omega | (simp; done) | (simp; omega)))))) (HD.out.1.below (by repeat (first | exact Below.refl _ _ | assumption | apply Below.drew | refine Below.setCell ?_ (by first | omega | (simp; done) | (simp; omega)) _ | refine Below.alloc ?_ (by first | omega | (simp; done) | (simp; omega)) _ | refine Below.trans ?_ (hb3.mono (by first | omega | (simp; done) | (simp; omega)))))) GB.out.1 LE.out).mono ?_); rintro e w4 ⟨v4, rfl, hv4, hb4, f4⟩; have q4 := hb4.size))
            have hg := HC.out.1.1
            have B4 : Below wr.heap.size wr w4 := by
              repeat (first | exact Below.refl _ _ | assumption | apply Below.drew | refine Below.setCell ?_ (by first | omega | (simp; done) | (simp; omega)) _ | refine Below.alloc ?_ (by first | omega | (simp; done) | (simp; omega)) _ | refine Below.trans ?_ (hb4.mono (by first | omega | (simp; done) | (simp; omega))) | refine Below.trans ?_ (hb3.mono (by first | omega | (simp; done) | (simp; omega))))
            have HC4 := HC.out.1.below B4
            obtain ⟨kk, hkk⟩ : ∃ kk, kk = i / 64 := ⟨_, rfl⟩
            obtain ⟨ss, hss⟩ : ∃ ss, ss = i % 64 := ⟨_, rfl⟩
            have ek2 : (i : Int) / 64 = (kk : Int) := by omega
            have es2 : (i : Int) % 64 = (ss : Int) := by omega
            have hs64 : ss < 64 := by omega
            have klt : kk < k + 1 := by have := HK.out; omega
            have hlen : kk < es.length := by rw [HC.out.2.1]; exact klt
            obtain ⟨hce, hfe⟩ := HC4.2 kk hlen
            obtain ⟨o1, o2, o3, o4⟩ := bit_put HC.out.2.2.2 HC.out.2.2.1 HI.out.2.2.1 (show i = 64 * kk + ss by omega) hs64 hlen
            have hS := HC4.set kk (es.getD kk 0 + 2 ^ ss) hlen
            obtain ⟨x, ex⟩ : ∃ x, x = es.getD kk 0 := ⟨_, rfl⟩
            obtain ⟨P, eP⟩ : ∃ P : Nat, P = 2 ^ ss := ⟨_, rfl⟩
            have pI : (2 : Int) ^ ss = (P : Int) := by rw [eP]; simp
            have hP : P < 18446744073709551616 := by
              have := Nat.pow_lt_pow_right (a := 2) (by decide) hs64
              rw [eP, b64]; exact this
            have wP : IntKind.u64.wrap (P : Int) = (P : Int) := by rw [IntKind.wrap_u64]; omega
            rw [← ex, ← eP] at o1 o2 o3 o4 hS
            rw [← ex] at hce
            obtain ⟨v, ev⟩ : ∃ v, v = x + P := ⟨_, rfl⟩
            rw [← ev] at o1 o2 o3 o4 hS
            have SS := Lib.hid (And.intro o3 (And.intro o4 hS))
            have HC5 := Lib.hid HC4
            have klI : (kk : Int) < (k : Int) + 1 := by omega
            clear o2 o3 o4 hS hkk hss hlen ex eP ev HC4
            go_wp2_with (first | (go_at_call 92; (with_reducible refine (down2_1 u12 d _ ((HD.out.1.below B4).set_far HD.out.2) GB.out.2).mono ?_); rintro e w5 ⟨v5, rfl, hv5, hb5, f5⟩; have q5 := hb5.size))
            have far4 := f4 g (by omega)
            have hB4 : Below w.heap.size w w4 := hB.trans (B4.mono hBs)
            have hB4s := hB4.size
            have hB5 : Below w.heap.size w w5 := by
              repeat (first | exact Below.refl _ _ | assumption | apply Below.drew | refine Below.setCell ?_ (by first | omega | (simp; done) | (simp; omega)) _ | refine Below.alloc ?_ (by first | omega | (simp; done) | (simp; omega)) _ | refine Below.trans ?_ (hb5.mono (by first | omega | (simp; done) | (simp; omega))) | refine Below.trans ?_ (hB4.mono (by first | omega | (simp; done) | (simp; omega))))
            exact ⟨⟨i, es.set kk v, r - d, d / 2, q + 2 ^ i, by omega, rfl, ST.out, ⟨(hv4.set_far far4).below hb5, far4⟩, ⟨hv5, f5 g (by simpa [World.setCell] using (by omega : g < w4.heap.size))⟩, ⟨SS.out.2.2.below hb5, by rw [List.length_set]; exact HC.out.2.1, SS.out.1, SS.out.2.1⟩, hB5⟩, by simp [intOf]⟩
end Go.Proofs.YtldchepfcgbpiaaGreat
namespace Go.Proofs.YtldchepfcgbpiaaGreat
open Go.RowKit

theorem Rd.eq {k : IntKind} {w : World} {v : Value} {xs ys : List Nat} (hx : Rd k w v xs) (hy : Rd k w v ys) : xs = ys := by
  obtain ⟨o1, c1, e1, h1⟩ := hx.form
  obtain ⟨o2, c2, e2, h2⟩ := hy.form
  rw [e1] at e2
  simp only [Value.slice.injEq] at e2
  obtain ⟨ho, hl, _⟩ := e2
  apply List.ext_getElem hl
  intro i hi hi2
  obtain ⟨b, off, eo, _, hc⟩ := h1 i hi
  obtain ⟨b', off', eo', _, hc'⟩ := h2 i hi2
  rw [eo] at ho
  rw [← ho] at eo'
  simp only [Option.some.injEq, Addr.mk.injEq, and_true] at eo'
  obtain ⟨rfl, rfl⟩ := eo'
  rw [hc] at hc'
  simp only [Option.some.injEq, Value.int.injEq, true_and] at hc'
  simp only [List.getD, List.getElem?_eq_getElem hi, List.getElem?_eq_getElem hi2, Option.getD_some] at hc'
  omega
theorem IsN.eq {w : World} {v : Value} {m n : Nat} (hm : IsN w v m) (hn : IsN w v n) : m = n := by
  obtain ⟨xs, r1, _, e1, _⟩ := hm
  obtain ⟨ys, r2, _, e2, _⟩ := hn
  rw [← e1, ← e2, r1.eq r2]
open Classical in
/-- The number that a slice is, if it is one. -/
noncomputable def numOf (w : World) (v : Value) : Nat := if h : ∃ n, IsN w v n then h.choose else 0
theorem IsN.num {w : World} {v : Value} {n : Nat} (h : IsN w v n) : numOf w v = n := by
  have h' : ∃ n, IsN w v n := ⟨n, h⟩
  unfold numOf
  rw [dif_pos h']
  exact h'.choose_spec.eq h

set_option maxRecDepth 100000 in
set_option maxHeartbeats 8000000 in
/-- NGcd -/
theorem ngcd_any (va vb : Value) (a b : Nat) (w : World) (ha : IsN w va a) (hb : IsN w vb b) (la : a < MID) (lb : b < MID) : Calls Tryz.prog 61 #[va, vb] w (SomeN w (Nat.gcd a b)) := by
  have HA := Lib.hid (And.intro ha (And.intro hb (And.intro la lb)))
  clear ha hb la lb
  go_enter Tryz.func61, Tryz.ntmps61
  go_wp2
  go_loopw [0, 1] (fun s0 s1 wr => ∃ x y : Nat, Hid (IsN wr s0 x) ∧ Hid (IsN wr s1 y) ∧ Hid (x < MID ∧ y < MID ∧ Nat.gcd x y = Nat.gcd a b) ∧ Below w.heap.size w wr) (fun _ s1 wr => numOf wr s1)
  case atStart => exact ⟨a, b, HA.out.1, HA.out.2.1, ⟨HA.out.2.2.1, HA.out.2.2.2, rfl⟩, Below.refl _ _⟩
  case round =>
    obtain ⟨x, y, HX, HY, HV, hB⟩ := hrel
    have hBs := hB.size
    obtain ⟨o, l, c, rfl, hl⟩ := HY.out.form
    by_cases h0 : l = 0
    · have hy := Lib.hid (hl.1 h0)
      subst h0
      clear hl
      go_wp2
      go_ret
      refine ⟨_, rfl, ?_, hB⟩
      have h := HV.out.2.2
      rw [hy.out, Nat.gcd_zero_right] at h
      rw [← h]; exact HX.out
    · have hy : y ≠ 0 := fun e => h0 (hl.2 e)
      have HN := Lib.hid hy
      have lp : (0 : Int) < (l : Int) := by omega
      clear hl h0 hy
      go_wp2_with (go_at_call 62; (with_reducible refine (ndivide_any _ _ x y _ (HX.out.below (by repeat (first | exact Below.refl _ _ | assumption | apply Below.drew | refine Below.setCell ?_ (by first | omega | (simp; done) | (simp; omega)) _ | refine Below.alloc ?_ (by first | omega | (simp; done) | (simp; omega)) _))) (HY.out.below (by repeat (first | exact Below.refl _ _ | assumption | apply Below.drew | refine Below.setCell ?_ (by first | omega | (simp; done) | (simp; omega)) _ | refine Below.alloc ?_ (by first | omega | (simp; done) | (simp; omega)) _))) HV.out.1 HV.out.2.1 HN.out).mono ?_); rintro e w2 ⟨u, v, rfl, hu, hv, hb2⟩)
      have ml := Nat.mod_lt x (Nat.pos_of_ne_zero HN.out)
      refine ⟨⟨y, x % y, HY.out.below (by repeat (first | exact Below.refl _ _ | assumption | apply Below.drew | refine Below.setCell ?_ (by first | omega | (simp; done) | (simp; omega)) _ | refine Below.alloc ?_ (by first | omega | (simp; done) | (simp; omega)) _ | refine Below.trans ?_ (hb2.mono (by first | omega | (simp; done) | (simp; omega))))), hv, ⟨HV.out.2.1, Nat.lt_trans ml HV.out.2.1, ?_⟩, by repeat (first | exact Below.refl _ _ | assumption | apply Below.drew | refine Below.setCell ?_ (by first | omega | (simp; done) | (simp; omega)) _ | refine Below.alloc ?_ (by first | omega | (simp; done) | (simp; omega)) _ | refine Below.trans ?_ (hb2.mono (by first | omega | (simp; done) | (simp; omega))))⟩, ?_⟩
      · rw [Nat.gcd_comm, ← Nat.gcd_rec, Nat.gcd_comm]; exact HV.out.2.2
      · rw [hv.num, HY.out.num]; exact ml
end Go.Proofs.YtldchepfcgbpiaaGreat
namespace Go.Proofs.YtldchepfcgbpiaaGreat
open Go.RowKit

/-- Is the quotient of the sizes raised by 1? -/
def up (n d : Int) : Bool := decide (0 < sg (2 * (ab n % ab d)) (ab d)) || (decide (sg (2 * (ab n % ab d)) (ab d) = 0) && (ab n / ab d % 2 == 1))
/-- The nearest whole number to n / d, halves to even. -/
def rd (n d : Int) : Int := sd (ng n != ng d) (if up n d = true then ab n / ab d + 1 else ab n / ab d)
/-- n / d rounded down. -/
def dn (n d : Int) : Int := sd (ng n != ng d) (if ((ng n != ng d) && !(ab n % ab d == 0)) = true then ab n / ab d + 1 else ab n / ab d)

theorem ab_bd {a : Int} (h : R a) : 0 ≤ ab a ∧ ab a ≤ 170141183460469231731687303715884105728 := by rw [R_iff] at h; unfold ab; omega
end Go.Proofs.YtldchepfcgbpiaaGreat
namespace Go.Proofs.YtldchepfcgbpiaaGreat
open Go.RowKit

/-- The lowest limb of a number that has one. -/
theorem IsN.low {w : World} {o : Option Addr} {l c n : Nat} (h : IsN w (.slice o l c) n) (hl : l ≠ 0) :
    ∃ b off x, o = some ⟨b, off, none⟩ ∧ w.cell? ⟨b, off, none⟩ = some (.int .u64 (x : Nat)) ∧ x < 18446744073709551616 ∧ x = n % 18446744073709551616 ∧ (l = 1 → x = n) ∧ (1 < l → 18446744073709551616 ≤ n) := by
  obtain ⟨ls, r, h1, h2, h3⟩ := h
  obtain ⟨o', c', e, hc⟩ := r.form
  simp only [Value.slice.injEq] at e
  obtain ⟨rfl, rfl, rfl⟩ := e
  obtain ⟨b, off, rfl, _, hcell⟩ := hc 0 (by omega)
  have gx := getD_lt (by decide) h1 0
  have lm := limb_at h1 0
  rw [Nat.pow_zero, Nat.div_one, h2] at lm
  refine ⟨b, off, ls.getD 0 0, rfl, hcell, gx, lm.symm, fun e => ?_, fun e => ?_⟩
  · match ls, e with
    | [x], _ => rw [← h2]; simp [lval]
  · have := lval_ge 18446744073709551616 ls h3 (by intro e'; rw [e'] at e; simp at e)
    rw [h2] at this
    have p := Nat.pow_le_pow_right (show 0 < 18446744073709551616 by decide) (show 1 ≤ ls.length - 1 by omega)
    rw [Nat.pow_one] at p
    omega
theorem isS_f {z : Int} (h : z < -9223372036854775808 ∨ 9223372036854775807 < z) : isS z = false ∧ sm z = 0 := by
  have : isS z = false := by unfold isS; simp only [decide_eq_false_iff_not]; omega
  exact ⟨this, if_neg (by simp [this])⟩
theorem isS_t {z : Int} (h : -9223372036854775808 ≤ z ∧ z ≤ 9223372036854775807) : isS z = true ∧ sm z = z := ⟨isS_mk h, if_pos (isS_mk h)⟩

set_option maxRecDepth 100000 in
set_option maxHeartbeats 4000000 in
/-- Small -/
theorem ismall_any (x : Value) (z : Int) (w : World) (h : IsI w x z) : Calls Tryz.prog 55 #[x] w fun e w' => e = .returned (.tuple #[.int .i64 (sm z), .bool (isS z)]) ∧ Below w.heap.size w w' := by
  obtain ⟨ba, oa, la, ca, rfl, Ha⟩ := h.open
  by_cases h0 : la = 0
  · have hz := Ha.out.2.2.1 h0
    have H := Lib.hid (isS_t (z := z) (by omega))
    have HZ := Lib.hid hz
    subst h0
    clear hz h
    go_enter Tryz.func55, Tryz.ntmps55
    go_wp2
    go_ret2
    exact ⟨by rw [H.out.1, H.out.2, HZ.out] <;> rfl, by repeat (first | exact Below.refl _ _ | assumption | apply Below.drew | refine Below.setCell ?_ (by first | omega | (simp; done) | (simp; omega)) _ | refine Below.alloc ?_ (by first | omega | (simp; done) | (simp; omega)) _)⟩
  · obtain ⟨b, off, m, rfl, hc, mb, -, m1, m2⟩ := Ha.out.2.1.low h0
    have hbl : b < w.heap.size := World.block_lt_of_cell? _ _ hc
    by_cases h1 : la = 1
    · have em := m1 h1
      subst h1
      have hneg := Ha.out.1
      clear m1 m2 h
      cases ba with
      | true =>
        have zn : z < 0 := by simpa using hneg.symm
        rcases Nat.lt_or_ge 9223372036854775808 m with hm | hm
        · have H := Lib.hid (isS_f (z := z) (by omega))
          have hm' : (9223372036854775808 : Int) < (m : Int) := by omega
          clear em zn hm hneg
          go_enter Tryz.func55, Tryz.ntmps55
          go_wp2
          go_ret2
          exact ⟨by rw [H.out.1, H.out.2] <;> rfl, by repeat (first | exact Below.refl _ _ | assumption | apply Below.drew | refine Below.setCell ?_ (by first | omega | (simp; done) | (simp; omega)) _ | refine Below.alloc ?_ (by first | omega | (simp; done) | (simp; omega)) _)⟩
        · have H := Lib.hid (isS_t (z := z) (by omega))
          have hm' : ¬ (9223372036854775808 : Int) < (m : Int) := by omega
          have e1 : wrap64 (IntKind.u64.wrap (-(m : Int))) = -(m : Int) := by rw [IntKind.wrap_u64]; unfold wrap64; omega
          have ez := Lib.hid (show z = -(m : Int) by omega)
          clear em zn hm hneg
          go_enter Tryz.func55, Tryz.ntmps55
          go_wp2
          go_ret2
          exact ⟨by rw [H.out.1, H.out.2, ez.out] <;> rfl, by repeat (first | exact Below.refl _ _ | assumption | apply Below.drew | refine Below.setCell ?_ (by first | omega | (simp; done) | (simp; omega)) _ | refine Below.alloc ?_ (by first | omega | (simp; done) | (simp; omega)) _)⟩
      | false =>
        have zp : 0 ≤ z := by simpa using hneg.symm
        rcases Nat.lt_or_ge m 9223372036854775808 with hm | hm
        · have H := Lib.hid (isS_t (z := z) (by omega))
          have hm' : ¬ (9223372036854775808 : Int) ≤ (m : Int) := by omega
          have e1 : wrap64 (m : Int) = (m : Int) := by unfold wrap64; omega
          have ez := Lib.hid (show z = (m : Int) by omega)
          clear em zp hm hneg
          go_enter Tryz.func55, Tryz.ntmps55
          go_wp2
          go_ret2
          exact ⟨by rw [H.out.1, H.out.2, ez.out] <;> rfl, by repeat (first | exact Below.refl _ _ | assumption | apply Below.drew | refine Below.setCell ?_ (by first | omega | (simp; done) | (simp; omega)) _ | refine Below.alloc ?_ (by first | omega | (simp; done) | (simp; omega)) _)⟩
        · have H := Lib.hid (isS_f (z := z) (by omega))
          have hm' : (9223372036854775808 : Int) ≤ (m : Int) := by omega
          clear em zp hm hneg
          go_enter Tryz.func55, Tryz.ntmps55
          go_wp2
          go_ret2
          exact ⟨by rw [H.out.1, H.out.2] <;> rfl, by repeat (first | exact Below.refl _ _ | assumption | apply Below.drew | refine Below.setCell ?_ (by first | omega | (simp; done) | (simp; omega)) _ | refine Below.alloc ?_ (by first | omega | (simp; done) | (simp; omega)) _)⟩
    · have hm := m2 (by omega)
      have H := Lib.hid (isS_f (z := z) (by omega))
      have l1 : (1 : Int) < (la : Int) := by omega
      clear m1 m2 hm h
      go_enter Tryz.func55, Tryz.ntmps55
      go_wp2
      go_ret2
      exact ⟨by rw [H.out.1, H.out.2] <;> rfl, by repeat (first | exact Below.refl _ _ | assumption | apply Below.drew | refine Below.setCell ?_ (by first | omega | (simp; done) | (simp; omega)) _ | refine Below.alloc ?_ (by first | omega | (simp; done) | (simp; omega)) _)⟩
end Go.Proofs.YtldchepfcgbpiaaGreat
