/-
  The references' whole numbers: over a power of two.
  The references' whole numbers: over a digit.
  The references' whole numbers: quotient and rest.
-/
import Derived.Test.YtchakmkoimgakaaM09
import Derived.Test.YtchakmkoimgakaaM15
namespace Go.Proofs.Ytchakmkoimgakaa
open Go.RowKit

/-- The limb at a place, of the number itself. -/
theorem limb_at {ls : List Nat} (hx : ∀ x ∈ ls, x < 18446744073709551616) (i : Nat) : lval 18446744073709551616 ls / 18446744073709551616 ^ i % 18446744073709551616 = ls.getD i 0 := by
  by_cases hi : i < ls.length
  · have e := lval_split 18446744073709551616 ls i (by omega)
    have lt := lval_lt 18446744073709551616 (by decide) (ls.take i) (fun x h => hx x (List.mem_of_mem_take h))
    rw [List.length_take, Nat.min_eq_left (by omega)] at lt
    have p : (0 : Nat) < 18446744073709551616 ^ i := Nat.pow_pos (by decide)
    rw [e, Nat.add_mul_div_left _ _ p, Nat.div_eq_of_lt lt, Nat.zero_add]
    have d : ls.drop i = ls[i] :: ls.drop (i + 1) := List.drop_eq_getElem_cons hi
    rw [d]
    simp only [lval, Nat.add_mul_mod_self_left]
    rw [Nat.mod_eq_of_lt (hx _ (List.getElem_mem hi))]
    simp [List.getD, List.getElem?_eq_getElem hi]
  · have lt := lval_lt 18446744073709551616 (by decide) ls hx
    have := Nat.pow_le_pow_right (show 0 < 18446744073709551616 by decide) (show ls.length ≤ i by omega)
    rw [Nat.div_eq_of_lt (by omega)]
    simp [List.getD, List.getElem?_eq_none (by omega : ls.length ≤ i)]
theorem two_part {s : Nat} (hs : s ≤ 64) : (2 : Nat) ^ s * 2 ^ (64 - s) = 18446744073709551616 := by rw [← Nat.pow_add, Nat.add_sub_cancel' hs]
/-- A limb of a number over 2^s, out of two limbs of the number. -/
theorem limb_shift (A s : Nat) (hs : s ≤ 64) : A / 2 ^ s % 18446744073709551616 = A % 18446744073709551616 / 2 ^ s + (A / 18446744073709551616 % 18446744073709551616 * 2 ^ (64 - s)) % 18446744073709551616 ∧ A % 18446744073709551616 / 2 ^ s < 2 ^ (64 - s) := by
  have hpq := two_part hs
  have hp : (0 : Nat) < 2 ^ s := Nat.two_pow_pos s
  have hq : (0 : Nat) < 2 ^ (64 - s) := Nat.two_pow_pos _
  have eA : A = A % 18446744073709551616 + 18446744073709551616 * (A / 18446744073709551616) := (Nat.mod_add_div A 18446744073709551616).symm
  have xl : A % 18446744073709551616 / 2 ^ s < 2 ^ (64 - s) := by rw [Nat.div_lt_iff_lt_mul hp, Nat.mul_comm, hpq]; exact Nat.mod_lt _ (by decide)
  refine ⟨?_, xl⟩
  have e1 : A / 2 ^ s = A % 18446744073709551616 / 2 ^ s + 2 ^ (64 - s) * (A / 18446744073709551616) := by
    have h : A = A % 18446744073709551616 + 2 ^ s * (2 ^ (64 - s) * (A / 18446744073709551616)) := by rw [← Nat.mul_assoc, hpq]; exact eA
    have h2 := Nat.add_mul_div_left (A % 18446744073709551616) (2 ^ (64 - s) * (A / 18446744073709551616)) hp
    rw [← h] at h2
    exact h2
  rw [e1]
  generalize A / 18446744073709551616 = Y
  generalize A % 18446744073709551616 / 2 ^ s = x at *
  have e2 : Y % 18446744073709551616 * 2 ^ (64 - s) % 18446744073709551616 = 2 ^ (64 - s) * (Y % 2 ^ s) := by
    have : Y % 18446744073709551616 * 2 ^ (64 - s) % 18446744073709551616 = 2 ^ (64 - s) * Y % 18446744073709551616 := by rw [Nat.mul_comm (2 ^ (64 - s)) Y, Nat.mod_mul_mod]
    rw [this]
    have h := Nat.mul_mod_mul_left (2 ^ (64 - s)) Y (2 ^ s)
    rw [Nat.mul_comm (2 ^ (64 - s)) (2 ^ s), hpq] at h
    exact h
  have e3 : (x + 2 ^ (64 - s) * Y) % 18446744073709551616 = x + 2 ^ (64 - s) * (Y % 2 ^ s) := by
    have m := Nat.mod_lt Y hp
    have m2 := Nat.mul_le_mul_left (2 ^ (64 - s)) (show Y % 2 ^ s + 1 ≤ 2 ^ s from m)
    rw [Nat.mul_add, Nat.mul_one, Nat.mul_comm (2 ^ (64 - s)) (2 ^ s), hpq] at m2
    have h : x + 2 ^ (64 - s) * Y = (x + 2 ^ (64 - s) * (Y % 2 ^ s)) + 18446744073709551616 * (Y / 2 ^ s) := by
      have := Nat.mod_add_div Y (2 ^ s)
      have e : 2 ^ (64 - s) * Y = 2 ^ (64 - s) * (Y % 2 ^ s) + 2 ^ (64 - s) * (2 ^ s * (Y / 2 ^ s)) := by rw [← Nat.mul_add, this]
      rw [e, ← Nat.mul_assoc (2 ^ (64 - s)) (2 ^ s), Nat.mul_comm (2 ^ (64 - s)) (2 ^ s), hpq, Nat.add_assoc]
    rw [h, Nat.add_mul_mod_self_left, Nat.mod_eq_of_lt (by omega)]
  rw [e2, e3]
theorem or_high (x y s : Nat) (hs : s ≤ 64) (hx : x < 2 ^ (64 - s)) : bits BinOp.or IntKind.u64 (x : Int) (IntKind.u64.wrap ((y : Int) * 2 ^ (64 - s))) = ((x + y * 2 ^ (64 - s) % 18446744073709551616 : Nat) : Int) := by
  have hpq := two_part hs
  have hq : (0 : Nat) < 2 ^ (64 - s) := Nat.two_pow_pos _
  have w : IntKind.u64.wrap ((y : Int) * 2 ^ (64 - s)) = ((y * 2 ^ (64 - s) % 18446744073709551616 : Nat) : Int) := by
    rw [IntKind.wrap_u64]; simp
  have e1 : y * 2 ^ (64 - s) % 18446744073709551616 = 2 ^ (64 - s) * (y % 2 ^ s) := by
    have h := Nat.mul_mod_mul_left (2 ^ (64 - s)) y (2 ^ s)
    rw [Nat.mul_comm (2 ^ (64 - s)) (2 ^ s), hpq, Nat.mul_comm (2 ^ (64 - s)) y] at h
    exact h
  have l1 : 2 ^ (64 - s) ≤ 18446744073709551616 := by
    have := Nat.mul_le_mul_right (2 ^ (64 - s)) (show 1 ≤ 2 ^ s from Nat.two_pow_pos s)
    omega
  rw [w, u64_or_nat _ _ (by omega) (Nat.mod_lt _ (by decide)), e1]
  congr 1
  rw [Nat.add_comm, Nat.two_pow_add_eq_or_of_lt hx, Nat.or_comm]
/-- What holds at each round: the limbs of the number over 2^n told so far. -/
def ShInv (m k : Nat) (es : List Nat) : Prop := es.length = k ∧ (∀ x ∈ es, x < 18446744073709551616) ∧ lval 18446744073709551616 es = m % 18446744073709551616 ^ k
theorem shinv_step {m k : Nat} {es : List Nat} (h : ShInv m k es) : ShInv m (k + 1) (es ++ [m / 18446744073709551616 ^ k % 18446744073709551616]) := by
  obtain ⟨h1, h2, h3⟩ := h
  refine ⟨by simp [h1], ?_, ?_⟩
  · intro x hxm
    rw [List.mem_append] at hxm
    rcases hxm with hm | hm
    · exact h2 x hm
    · simp at hm; rw [hm]; exact Nat.mod_lt _ (by decide)
  · rw [lval_append, h1, h3, Nat.mod_pow_succ]
    simp [lval]

end Go.Proofs.Ytchakmkoimgakaa
namespace Go.Proofs.Ytchakmkoimgakaa
open Go.RowKit

theorem drop_cons {ls : List Nat} {m : Nat} (h : m < ls.length) : ls.drop m = ls.getD m 0 :: ls.drop (m + 1) := by
  rw [List.drop_eq_getElem_cons h]
  simp [List.getD, List.getElem?_eq_getElem h]
/-- What holds at each round of a division by a digit: from the j-th digit on, and the rest. -/
def SInv (xs es : List Nat) (d j r : Nat) : Prop := es.length = xs.length ∧ (∀ m, es.getD m 0 < 4294967296) ∧ r < d ∧ lval 4294967296 (xs.drop j) = d * lval 4294967296 (es.drop j) + r
theorem sinv_start (xs : List Nat) {d : Nat} (hd : 0 < d) : SInv xs (List.replicate xs.length 0) d xs.length 0 := by
  refine ⟨by simp, fun m => ?_, hd, ?_⟩
  · simp only [List.getD_eq_getElem?_getD, List.getElem?_replicate]; split <;> simp
  · rw [List.drop_of_length_le (Nat.le_refl _), List.drop_of_length_le (by simp)]; simp [lval]
theorem sinv_step {xs es : List Nat} {d m r t : Nat} (h : SInv xs es d (m + 1) r) (hm : m < xs.length) (hd : d < 4294967296) (hx : xs.getD m 0 < 4294967296) (ht : t = r * 4294967296 + xs.getD m 0) :
    t / d < 4294967296 ∧ t < 18446744073709551616 ∧ SInv xs (es.set m (t / d)) d m (t % d) := by
  obtain ⟨h1, h2, h3, h4⟩ := h
  have hd0 : 0 < d := by omega
  have q : t / d < 4294967296 := by
    rw [Nat.div_lt_iff_lt_mul hd0]
    have := Nat.mul_le_mul_left 4294967296 (show r + 1 ≤ d from h3)
    omega
  refine ⟨q, by omega, by simp [h1], fun j => ?_, Nat.mod_lt _ hd0, ?_⟩
  · rw [getD_set _ _ _ _ (by omega)]
    split
    · exact q
    · exact h2 j
  · rw [drop_cons hm, drop_cons (show m < (es.set m (t / d)).length by simp; omega), List.drop_set_of_lt (by omega), getD_set _ _ _ _ (by omega), if_pos rfl]
    simp only [lval]
    rw [h4, Nat.mul_add 4294967296, Nat.mul_add d]
    have e := Nat.mod_add_div t d
    have e2 : 4294967296 * (d * lval 4294967296 (es.drop (m + 1))) = d * (4294967296 * lval 4294967296 (es.drop (m + 1))) := by rw [← Nat.mul_assoc, Nat.mul_comm 4294967296 d, Nat.mul_assoc]
    rw [e2]
    generalize d * (4294967296 * lval 4294967296 (es.drop (m + 1))) = A at *
    generalize d * (t / d) = C at *
    omega
theorem sinv_end {xs es : List Nat} {d r : Nat} (h : SInv xs es d 0 r) : lval 4294967296 es = lval 4294967296 xs / d ∧ r = lval 4294967296 xs % d ∧ ∀ x ∈ es, x < 4294967296 := by
  obtain ⟨h1, h2, h3, h4⟩ := h
  rw [List.drop_zero, List.drop_zero] at h4
  refine ⟨?_, ?_, ?_⟩
  · rw [h4, Nat.mul_add_div (by omega), Nat.div_eq_of_lt h3, Nat.add_zero]
  · rw [h4, Nat.mul_add_mod, Nat.mod_eq_of_lt h3]
  · intro x hx
    obtain ⟨j, hj, rfl⟩ := List.mem_iff_getElem.1 hx
    have := h2 j
    simpa [List.getD, hj] using this
theorem or_low (x r : Nat) (hx : x < 4294967296) (hr : r < 4294967296) : bits BinOp.or IntKind.u64 ((r : Int) * 4294967296) (x : Int) = ((r * 4294967296 + x : Nat) : Int) := by
  have w : (r : Int) * 4294967296 = ((r * 4294967296 : Nat) : Int) := by omega
  rw [w, u64_or_nat _ _ (by omega) (by omega)]
  congr 1
  have := Nat.two_pow_add_eq_or_of_lt (i := 32) (b := x) (by simpa using hx) r
  rw [show (2 : Nat) ^ 32 = 4294967296 by decide] at this
  rw [Nat.mul_comm r, ← this]

end Go.Proofs.Ytchakmkoimgakaa
namespace Go.Proofs.Ytchakmkoimgakaa
open Go.RowKit

/-- A row of limbs that the call has made: cells that may be written. -/
def Cells64 (W : World) (g : Nat) (es : List Nat) : Prop := g < W.heap.size ∧ ∀ j, j < es.length → W.cell? ⟨g, j, none⟩ = some (.int .u64 (es.getD j 0 : Nat)) ∧ W.frozen? ⟨g, j, none⟩ = false
theorem Cells64.set {W : World} {g : Nat} {es : List Nat} (h : Cells64 W g es) (j v : Nat) (hj : j < es.length) : Cells64 (W.setCell ⟨g, j, none⟩ (.int .u64 (v : Nat))) g (es.set j v) := by
  refine ⟨by simpa [World.setCell] using h.1, fun m hm => ?_⟩
  rw [List.length_set] at hm
  obtain ⟨h1, h2⟩ := h.2 m hm
  refine ⟨?_, by rw [World.frozen?_setCell]; exact h2⟩
  rw [getD_set _ _ _ _ hj]
  by_cases e : m = j
  · subst e; rw [if_pos rfl]; simp [go_sem, h1]
  · rw [if_neg e]
    have : ¬ j = m := fun h => e h.symm
    simp [go_sem, h1]
theorem Cells64.drew {W : World} {g : Nat} {es : List Nat} (h : Cells64 W g es) : Cells64 W.drew g es := h
theorem Cells64.below {W W' : World} {g : Nat} {es : List Nat} (h : Cells64 W g es) (hb : Below W.heap.size W W') : Cells64 W' g es := by
  refine ⟨Nat.lt_of_lt_of_le h.1 hb.size, fun m hm => ?_⟩
  obtain ⟨h1, h2⟩ := h.2 m hm
  exact ⟨(hb.cell (p := ⟨g, m, none⟩) h.1).trans h1, (hb.frozen (p := ⟨g, m, none⟩) h.1).trans h2⟩
theorem Cells64.rd {W : World} {g cap : Nat} {es : List Nat} (h : Cells64 W g es) (hc : es.length ≤ cap) : Rd .u64 W (.slice (some ⟨g, 0, none⟩) es.length cap) es :=
  .inr ⟨g, 0, cap, rfl, hc, h.1, fun i hi => by rw [Nat.zero_add]; exact (h.2 i hi).1⟩
theorem cells64_made (w : World) (n : Nat) : Cells64 (w.alloc (.cells (madeCells #[.int .u64 0] n) 84)) w.heap.size (List.replicate n 0) := by
  refine ⟨by simp, fun j hj => ?_⟩
  simp at hj
  have g : (List.replicate n 0).getD j 0 = 0 := by simp only [List.getD_eq_getElem?_getD, List.getElem?_replicate]; split <;> rfl
  rw [g]
  refine ⟨?_, by simp [go_sem]⟩
  rw [World.cell?_alloc_new]
  simp [madeCells, hj, Nat.mod_one]
/-- A write into a block that a number does not lie in. -/
theorem IsN.set_far {W : World} {v u : Value} {n g j : Nat} (h : IsN W v n) (hg : v.ownBlock ≠ some g) : IsN (W.setCell ⟨g, j, none⟩ u) v n := by
  obtain ⟨ls, r, h2⟩ := h
  refine ⟨ls, ?_, h2⟩
  rcases r with ⟨rfl, rfl⟩ | ⟨b, off, cap, rfl, hc, hl, hr⟩
  · exact .inl ⟨rfl, rfl⟩
  · have hne : b ≠ g := fun e => hg (by rw [e]; rfl)
    refine .inr ⟨b, off, cap, rfl, hc, by simpa [World.setCell] using hl, fun i hi => ?_⟩
    refine (World.cell?_setCell_other _ _ _ _ fun e => ?_).trans (hr i hi)
    simp only [Addr.mk.injEq] at e
    exact hne e.1.symm
theorem IsN.own_lt {W : World} {v : Value} {n b : Nat} (h : IsN W v n) (hv : v.ownBlock = some b) : b < W.heap.size := by
  obtain ⟨ls, r, _⟩ := h
  rcases r with ⟨rfl, rfl⟩ | ⟨b', off, cap, rfl, hc, hl, hr⟩
  · simp [Value.ownBlock] at hv
  · simp [Value.ownBlock] at hv; omega
theorem zeros_val (n : Nat) : lval 18446744073709551616 (List.replicate n 0) = 0 := by
  induction n with
  | zero => rfl
  | succ n ih => simp [List.replicate_succ, lval, ih]
/-- Beyond all numbers that are divided. -/
def MID : Nat := 2 ^ 65536
theorem mul_pow_lt {a b : Nat} (k m n : Nat) (ha : a ≤ 2 ^ k) (hb : b ≤ 2 ^ m) (h : k + m < n) : a * b < 2 ^ n := by
  have p := Nat.mul_le_mul ha hb
  rw [← Nat.pow_add] at p
  exact Nat.lt_of_le_of_lt p (Nat.pow_lt_pow_right (by decide) h)
theorem mid_of {n k : Nat} (h : n < 2 ^ k) (hk : k ≤ 65536) : n < MID := by
  unfold MID
  exact Nat.lt_of_lt_of_le h (pow2_mono k 65536 hk)
theorem mid_big {n : Nat} (h : n < MID) : n < BIG := by
  unfold MID at h
  exact big_of h (by decide)
theorem mid_bn {n : Nat} (h : n < MID) : bn n ≤ 65536 := by
  unfold MID at h
  exact bn_le h
/-- What holds at each round: the quotient so far, the rest, the divisor moved. -/
def QInv (a b q r d j : Nat) : Prop := a = q * b + r ∧ r < b * 2 ^ j ∧ q % 2 ^ j = 0 ∧ d = b * 2 ^ j / 2
theorem qinv_start {a b : Nat} (hb : b ≠ 0) {n : Nat} (hn : bn a = n + bn b) : QInv a b 0 a (b * 2 ^ n) (n + 1) := by
  have h1 := bn_lt a
  have h2 := bn_ge hb
  have hb1 : 1 ≤ bn b := by
    rcases Nat.eq_zero_or_pos (bn b) with h | h
    · have := bn_lt b; rw [h] at this; simp at this; omega
    · exact h
  refine ⟨by omega, ?_, by simp, ?_⟩
  · refine Nat.lt_of_lt_of_le h1 ?_
    have := Nat.mul_le_mul_right (2 ^ (n + 1)) h2
    rw [← Nat.pow_add, show bn b - 1 + (n + 1) = bn a by omega] at this
    exact this
  · rw [Nat.pow_succ, ← Nat.mul_assoc, Nat.mul_div_cancel _ (by decide)]
theorem qinv_more {a b q r d j : Nat} (h : QInv a b q r d (j + 1)) (hd : d ≤ r) : QInv a b (q + 2 ^ j) (r - d) (d / 2) j := by
  obtain ⟨h1, h2, h3, h4⟩ := h
  have e : d = b * 2 ^ j := by rw [h4, Nat.pow_succ, ← Nat.mul_assoc, Nat.mul_div_cancel _ (by decide)]
  rw [Nat.pow_succ, ← Nat.mul_assoc] at h2
  refine ⟨?_, by omega, ?_, by rw [e]⟩
  · rw [Nat.add_mul, Nat.mul_comm (2 ^ j), ← e]; omega
  · have hd : 2 ^ j ∣ q := Nat.dvd_trans (Nat.pow_dvd_pow 2 (Nat.le_succ j)) (Nat.dvd_of_mod_eq_zero h3)
    exact Nat.mod_eq_zero_of_dvd (Nat.dvd_add hd (Nat.dvd_refl _))
theorem qinv_less {a b q r d j : Nat} (h : QInv a b q r d (j + 1)) (hd : r < d) : QInv a b q r (d / 2) j := by
  obtain ⟨h1, h2, h3, h4⟩ := h
  have e : d = b * 2 ^ j := by rw [h4, Nat.pow_succ, ← Nat.mul_assoc, Nat.mul_div_cancel _ (by decide)]
  refine ⟨h1, by omega, ?_, by rw [e]⟩
  exact Nat.mod_eq_zero_of_dvd (Nat.dvd_trans (Nat.pow_dvd_pow 2 (Nat.le_succ j)) (Nat.dvd_of_mod_eq_zero h3))
theorem qinv_end {a b q r d : Nat} (h : QInv a b q r d 0) : q = a / b ∧ r = a % b := by
  obtain ⟨h1, h2, _, _⟩ := h
  rw [Nat.pow_zero, Nat.mul_one] at h2
  have hb : 0 < b := by omega
  rw [h1]
  refine ⟨?_, ?_⟩
  · rw [Nat.mul_comm q b, Nat.mul_add_div hb, Nat.div_eq_of_lt h2, Nat.add_zero]
  · rw [Nat.mul_comm q b, Nat.mul_add_mod, Nat.mod_eq_of_lt h2]
/-- The next bit of the quotient, put into its limb. -/
theorem bit_put {es : List Nat} {q j k s : Nat} (hx : ∀ x ∈ es, x < 18446744073709551616) (hv : lval 18446744073709551616 es = q) (hq : q % 2 ^ (j + 1) = 0) (hj : j = 64 * k + s) (hs : s < 64) (hk : k < es.length) :
    bits BinOp.or IntKind.u64 (es.getD k 0 : Nat) ((2 ^ s : Nat) : Int) = ((es.getD k 0 + 2 ^ s : Nat) : Int) ∧ es.getD k 0 + 2 ^ s < 18446744073709551616 ∧ lval 18446744073709551616 (es.set k (es.getD k 0 + 2 ^ s)) = q + 2 ^ j ∧ ∀ x ∈ es.set k (es.getD k 0 + 2 ^ s), x < 18446744073709551616 := by
  have hl := limb_at hx k
  rw [hv] at hl
  obtain ⟨M, hM⟩ := Nat.dvd_of_mod_eq_zero hq
  have pk : (18446744073709551616 : Nat) ^ k = 2 ^ (64 * k) := by rw [b64, ← Nat.pow_mul]
  have e1 : q / 18446744073709551616 ^ k = 2 ^ (s + 1) * M := by
    rw [hM, pk, hj, show 64 * k + s + 1 = 64 * k + (s + 1) by omega, Nat.pow_add, Nat.mul_assoc, Nat.mul_div_cancel_left _ (Nat.two_pow_pos _)]
  have e2 : (2 : Nat) ^ (s + 1) * 2 ^ (63 - s) = 18446744073709551616 := by rw [← Nat.pow_add, show s + 1 + (63 - s) = 64 by omega]
  have e3 : 2 ^ (s + 1) * M % 18446744073709551616 = 2 ^ (s + 1) * (M % 2 ^ (63 - s)) := by
    have h := Nat.mul_mod_mul_left (2 ^ (s + 1)) M (2 ^ (63 - s))
    rw [e2] at h
    exact h
  rw [e1, e3] at hl
  have m := Nat.mod_lt M (Nat.two_pow_pos (63 - s))
  have m2 := Nat.mul_le_mul_left (2 ^ (s + 1)) (show M % 2 ^ (63 - s) + 1 ≤ 2 ^ (63 - s) from m)
  rw [Nat.mul_add, Nat.mul_one, e2, hl] at m2
  have ps : (2 : Nat) ^ (s + 1) = 2 * 2 ^ s := by rw [Nat.pow_succ, Nat.mul_comm]
  have pp : (0 : Nat) < 2 ^ s := Nat.two_pow_pos s
  have lt : es.getD k 0 + 2 ^ s < 18446744073709551616 := by omega
  refine ⟨?_, lt, ?_, ?_⟩
  · rw [u64_or_nat _ _ (by omega) (by omega)]
    congr 1
    rw [← hl]
    exact (Nat.two_pow_add_eq_or_of_lt (i := s + 1) (b := 2 ^ s) (by omega) _).symm
  · have h := lval_set 18446744073709551616 es k (es.getD k 0 + 2 ^ s) hk
    rw [hv, Nat.mul_add] at h
    have e4 : 18446744073709551616 ^ k * 2 ^ s = 2 ^ j := by rw [pk, ← Nat.pow_add, hj]
    omega
  · intro x hxm
    rcases List.mem_or_eq_of_mem_set hxm with h | h
    · exact hx x h
    · rw [h]; exact lt

theorem bn_less {a b : Nat} (h : bn a < bn b) : a < b := by
  have h1 := bn_lt a
  have hb : b ≠ 0 := fun e => by rw [e] at h; simp [bn] at h
  have h2 := bn_ge hb
  have := Nat.pow_le_pow_right (show 0 < 2 by decide) (show bn a ≤ bn b - 1 by omega)
  omega
theorem dig_many {ls : List Nat} (h2 : ∀ x ∈ ls, x < 4294967296) (h : 4294967296 ≤ lval 4294967296 ls) : ((ls.length : Int) == 1) = false := by
  rw [beq_eq_false_iff_ne]
  intro e
  have e1 : ls.length = 1 := by omega
  match ls, e1 with
  | [y], _ =>
    have := h2 y (by simp)
    simp [lval] at h
    omega
theorem dig_one {ls : List Nat} (_h2 : ∀ x ∈ ls, x < 4294967296) (h3 : trimLen ls = ls.length) (h : lval 4294967296 ls < 4294967296) (h0 : lval 4294967296 ls ≠ 0) : ∃ y, ls = [y] ∧ y = lval 4294967296 ls := by
  match ls, h3, h, h0 with
  | [], _, _, h0 => exact absurd rfl h0
  | [y], _, _, _ => exact ⟨y, rfl, by simp [lval]⟩
  | x :: y :: zs, h3, h, _ =>
    have := lval_ge 4294967296 (x :: y :: zs) h3 (by simp)
    have p := Nat.pow_le_pow_right (show 0 < 4294967296 by decide) (show 1 ≤ (x :: y :: zs).length - 1 by simp)
    rw [Nat.pow_one] at p
    omega
theorem lval_one (B x : Nat) : lval B [x] = x := by simp [lval]
/-- whole, of digits that are a number -/
theorem whole_isd (v : Value) (n : Nat) (w : World) (h : IsD w v n) (hb : n < BIG) : Calls Try.prog 80 #[v] w (SomeN w n) := by
  obtain ⟨ls, r, h1, h2, h3⟩ := h
  have := len_d h3 (by rw [h2]; exact hb)
  rw [← h2]
  exact whole_num v ls w r h1 (by omega)
/-- What a division answers. -/
def SomeQR (w : World) (q r : Nat) (e : Ending) (w' : World) : Prop := ∃ u v, e = .returned (.tuple #[u, v]) ∧ IsN w' u q ∧ IsN w' v r ∧ Below w.heap.size w w'

end Go.Proofs.Ytchakmkoimgakaa
