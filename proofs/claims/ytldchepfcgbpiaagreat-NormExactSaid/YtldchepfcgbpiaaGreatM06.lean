/-
  The references' whole numbers: how many bits they have; halved.
  The references' whole numbers: over a power of two.
  The references' whole numbers: over a digit.
-/
import Derived.Test.YtldchepfcgbpiaaGreatM03
namespace Go.Proofs.YtldchepfcgbpiaaGreat
open Go.RowKit

/-- How many bits a number has. -/
def bn (n : Nat) : Nat := if n = 0 then 0 else n.log2 + 1
theorem bn_is {n k : Nat} (h : n < 2 ^ k) (h1 : k = 0 ∨ 2 ^ (k - 1) ≤ n) : bn n = k := by
  unfold bn
  by_cases hn : n = 0
  · rw [if_pos hn]
    rcases h1 with h1 | h1
    · exact h1.symm
    · have := Nat.two_pow_pos (k - 1); omega
  · rw [if_neg hn]
    have a := (Nat.log2_lt hn).2 h
    rcases h1 with h1 | h1
    · subst h1; simp at h; omega
    · have b := (Nat.le_log2 hn).2 h1
      omega
theorem bn_lt (n : Nat) : n < 2 ^ bn n := by
  unfold bn
  by_cases hn : n = 0
  · rw [if_pos hn]; omega
  · rw [if_neg hn]; exact Nat.lt_log2_self
theorem bn_ge {n : Nat} (hn : n ≠ 0) : 2 ^ (bn n - 1) ≤ n := by
  unfold bn
  rw [if_neg hn, Nat.add_sub_cancel]
  exact (Nat.le_log2 hn).1 (Nat.le_refl _)
theorem bn_le {n k : Nat} (h : n < 2 ^ k) : bn n ≤ k := by
  unfold bn
  by_cases hn : n = 0
  · rw [if_pos hn]; omega
  · rw [if_neg hn]; exact (Nat.log2_lt hn).2 h
theorem b64 : (18446744073709551616 : Nat) = 2 ^ 64 := by decide
/-- The bits of limbs: those of the top one, and 64 for each below. -/
theorem bn_limbs {ls : List Nat} {L j : Nat} (hl : ls.length = L + 1) (hx : ∀ x ∈ ls, x < 18446744073709551616) (h1 : ls.getD L 0 < 2 ^ j) (h2 : j = 0 ∨ 2 ^ (j - 1) ≤ ls.getD L 0) (h3 : ls.getD L 0 ≠ 0) : bn (lval 18446744073709551616 ls) = 64 * L + j := by
  have e := lval_take_succ 18446744073709551616 ls L
  rw [List.take_of_length_le (by omega)] at e
  have lt := lval_lt 18446744073709551616 (by decide) (ls.take L) (fun x h => hx x (List.mem_of_mem_take h))
  rw [List.length_take, Nat.min_eq_left (by omega)] at lt
  have pw : (18446744073709551616 : Nat) ^ L = 2 ^ (64 * L) := by rw [b64, ← Nat.pow_mul]
  rw [e]
  generalize ls.getD L 0 = t at *
  generalize lval 18446744073709551616 (ls.take L) = lw at *
  rw [pw] at lt ⊢
  apply bn_is
  · have := Nat.mul_le_mul_left (2 ^ (64 * L)) (show t + 1 ≤ 2 ^ j from h1)
    rw [← Nat.pow_add, Nat.mul_add, Nat.mul_one] at this
    omega
  · right
    rcases h2 with h2 | h2
    · subst h2; simp at h1; omega
    · have hj : 1 ≤ j := by
        rcases Nat.eq_zero_or_pos j with h | h
        · subst h; simp at h1; omega
        · exact h
      rw [show 64 * L + j - 1 = 64 * L + (j - 1) by omega, Nat.pow_add]
      have := Nat.mul_le_mul_left (2 ^ (64 * L)) h2
      omega

set_option maxRecDepth 100000 in
set_option maxHeartbeats 4000000 in
/-- NLen -/
theorem nlen_any (v : Value) (n : Nat) (w : World) (h : IsN w v n) (hb : n < BIG) : Calls Tryz.prog 91 #[v] w fun e w' => e = .returned (.int .i64 (bn n : Nat)) ∧ w = w' := by
  obtain ⟨xs, rx, x1, x2, x3⟩ := h
  have lx := len_n x3 (by rw [x2]; exact hb)
  obtain ⟨ox, cx, rfl, hcx⟩ := rx.form
  rcases Nat.eq_zero_or_pos xs.length with h0 | h0
  · have E : Hid (n = 0) := by
      have e : xs = [] := List.eq_nil_of_length_eq_zero h0
      unfold Hid; rw [← x2, e]; rfl
    rw [h0]
    clear h0 rx hcx x1 x2 x3 hb lx
    go_enter Tryz.func91, Tryz.ntmps91
    go_wp2
    go_ret
    exact ⟨by rw [E.out]; rfl, rfl⟩
  · obtain ⟨L, hL⟩ : ∃ L, xs.length = L + 1 := ⟨xs.length - 1, by omega⟩
    obtain ⟨bx, fx, rfl, hbx, hcell⟩ := hcx L (by omega)
    have top : xs.getD L 0 ≠ 0 := by
      rcases trim_last xs with h | h
      · omega
      · rw [x3, hL] at h; exact h
    have tl := getD_lt (by decide) x1 L
    have BL : Hid (∀ j, xs.getD L 0 < 2 ^ j → (j = 0 ∨ 2 ^ (j - 1) ≤ xs.getD L 0) → bn n = 64 * L + j) := fun j h1 h2 => by rw [← x2]; exact bn_limbs hL x1 h1 h2 top
    rw [hL] at lx ⊢
    obtain ⟨x, ex⟩ : ∃ x, x = xs.getD L 0 := ⟨_, rfl⟩
    rw [← ex] at BL hcell top tl
    clear h0 rx hcx x1 x2 x3 hb ex hL
    have hne : ¬ (((L : Int) + 1) = 0) := by omega
    go_enter Tryz.func91, Tryz.ntmps91
    go_wp2
    clear hne
    go_loop [3, 4] (fun s3 s4 => ∃ (j y : Nat), j ≤ 64 ∧ s3 = .int .i64 (64 * (L : Int) + j) ∧ s4 = .int .u64 (y : Nat) ∧ Hid (y = x / 2 ^ j) ∧ Hid (j = 0 ∨ 2 ^ (j - 1) ≤ x)) (fun _ s4 => (intOf s4).toNat)
    case atStart => exact ⟨0, x, by omega, by simp, rfl, by simp [Hid], .inl rfl⟩
    case round =>
      obtain ⟨j, y, hj, rfl, rfl, HY, HJ⟩ := hrel
      by_cases hy : y = 0
      · have E : Hid (bn n = 64 * L + j) := BL.out j (by
          have h := HY.out
          rw [hy] at h
          rcases Nat.lt_or_ge x (2 ^ j) with h1 | h1
          · exact h1
          · have := Nat.div_pos h1 (Nat.two_pow_pos j); omega) HJ.out
        subst hy
        simp only [Int.natCast_zero]
        go_wp2
        go_ret
        exact ⟨by rw [E.out]; rfl, rfl⟩
      · have hy' : ((y : Int) == 0) = false := by simpa using hy
        have ge : 2 ^ j ≤ x := by
          rcases Nat.lt_or_ge x (2 ^ j) with h1 | h1
          · have := Nat.div_eq_of_lt h1
            have := HY.out
            omega
          · exact h1
        have j63 : j < 64 := by
          rcases Nat.lt_or_ge j 64 with h | h
          · exact h
          · have := Nat.pow_le_pow_right (show 0 < 2 by decide) h
            rw [← b64] at this
            omega
        have GE := Lib.hid ge
        have YN := Lib.hid (Nat.pos_of_ne_zero hy)
        clear ge hy
        go_wp2
        have e2 : ((y : Int) / 2) = ((y / 2 : Nat) : Int) := by omega
        rw [e2]
        have yp := YN.out
        refine ⟨⟨j + 1, y / 2, by omega, by go_num, rfl, ?_, .inr (by rw [Nat.add_sub_cancel]; exact GE.out)⟩, by simp [intOf]; omega⟩
        unfold Hid
        rw [HY.out, Nat.div_div_eq_div_mul, Nat.pow_succ]
end Go.Proofs.YtldchepfcgbpiaaGreat
namespace Go.Proofs.YtldchepfcgbpiaaGreat
open Go.RowKit

/-- The limb at a place, of the number itself. -/
theorem limb_at {ls : List Nat} (hx : ∀ x ∈ ls, x < 18446744073709551616) (i : Nat) : lval 18446744073709551616 ls / 18446744073709551616 ^ i % 18446744073709551616 = ls.getD i 0 := by
  by_cases hi : i < ls.length
  · have e := lval_split 18446744073709551616 ls i (by omega)
    have lt := lval_lt 18446744073709551616 (by decide) (ls.take i) (fun x h => hx x (List.mem_of_mem_take h))
    rw [List.length_take, Nat.min_eq_left (by omega)] at lt
    have p : (0 : Nat) < 18446744073709551616 ^ i := Nat.pow_pos (by decide)
    rw [e, Nat.add_mul_div_left _ _ p, Nat.div_eq_of_lt lt, Nat.zero_add]
    have d : ls.drop i = ls[i] :: ls.drop (i + 1) := List.drop_eq_getElem_cons hi
    rw [d]
    simp only [lval, Nat.add_mul_mod_self_left]
    rw [Nat.mod_eq_of_lt (hx _ (List.getElem_mem hi))]
    simp [List.getD, List.getElem?_eq_getElem hi]
  · have lt := lval_lt 18446744073709551616 (by decide) ls hx
    have := Nat.pow_le_pow_right (show 0 < 18446744073709551616 by decide) (show ls.length ≤ i by omega)
    rw [Nat.div_eq_of_lt (by omega)]
    simp [List.getD, List.getElem?_eq_none (by omega : ls.length ≤ i)]
theorem two_part {s : Nat} (hs : s ≤ 64) : (2 : Nat) ^ s * 2 ^ (64 - s) = 18446744073709551616 := by rw [← Nat.pow_add, Nat.add_sub_cancel' hs]
/-- A limb of a number over 2^s, out of two limbs of the number. -/
theorem limb_shift (A s : Nat) (hs : s ≤ 64) : A / 2 ^ s % 18446744073709551616 = A % 18446744073709551616 / 2 ^ s + (A / 18446744073709551616 % 18446744073709551616 * 2 ^ (64 - s)) % 18446744073709551616 ∧ A % 18446744073709551616 / 2 ^ s < 2 ^ (64 - s) := by
  have hpq := two_part hs
  have hp : (0 : Nat) < 2 ^ s := Nat.two_pow_pos s
  have hq : (0 : Nat) < 2 ^ (64 - s) := Nat.two_pow_pos _
  have eA : A = A % 18446744073709551616 + 18446744073709551616 * (A / 18446744073709551616) := (Nat.mod_add_div A 18446744073709551616).symm
  have xl : A % 18446744073709551616 / 2 ^ s < 2 ^ (64 - s) := by rw [Nat.div_lt_iff_lt_mul hp, Nat.mul_comm, hpq]; exact Nat.mod_lt _ (by decide)
  refine ⟨?_, xl⟩
  have e1 : A / 2 ^ s = A % 18446744073709551616 / 2 ^ s + 2 ^ (64 - s) * (A / 18446744073709551616) := by
    have h : A = A % 18446744073709551616 + 2 ^ s * (2 ^ (64 - s) * (A / 18446744073709551616)) := by rw [← Nat.mul_assoc, hpq]; exact eA
    have h2 := Nat.add_mul_div_left (A % 18446744073709551616) (2 ^ (64 - s) * (A / 18446744073709551616)) hp
    rw [← h] at h2
    exact h2
  rw [e1]
  generalize A / 18446744073709551616 = Y
  generalize A % 18446744073709551616 / 2 ^ s = x at *
  have e2 : Y % 18446744073709551616 * 2 ^ (64 - s) % 18446744073709551616 = 2 ^ (64 - s) * (Y % 2 ^ s) := by
    have : Y % 18446744073709551616 * 2 ^ (64 - s) % 18446744073709551616 = 2 ^ (64 - s) * Y % 18446744073709551616 := by rw [Nat.mul_comm (2 ^ (64 - s)) Y, Nat.mod_mul_mod]
    rw [this]
    have h := Nat.mul_mod_mul_left (2 ^ (64 - s)) Y (2 ^ s)
    rw [Nat.mul_comm (2 ^ (64 - s)) (2 ^ s), hpq] at h
    exact h
  have e3 : (x + 2 ^ (64 - s) * Y) % 18446744073709551616 = x + 2 ^ (64 - s) * (Y % 2 ^ s) := by
    have m := Nat.mod_lt Y hp
    have m2 := Nat.mul_le_mul_left (2 ^ (64 - s)) (show Y % 2 ^ s + 1 ≤ 2 ^ s from m)
    rw [Nat.mul_add, Nat.mul_one, Nat.mul_comm (2 ^ (64 - s)) (2 ^ s), hpq] at m2
    have h : x + 2 ^ (64 - s) * Y = (x + 2 ^ (64 - s) * (Y % 2 ^ s)) + 18446744073709551616 * (Y / 2 ^ s) := by
      have := Nat.mod_add_div Y (2 ^ s)
      have e : 2 ^ (64 - s) * Y = 2 ^ (64 - s) * (Y % 2 ^ s) + 2 ^ (64 - s) * (2 ^ s * (Y / 2 ^ s)) := by rw [← Nat.mul_add, this]
      rw [e, ← Nat.mul_assoc (2 ^ (64 - s)) (2 ^ s), Nat.mul_comm (2 ^ (64 - s)) (2 ^ s), hpq, Nat.add_assoc]
    rw [h, Nat.add_mul_mod_self_left, Nat.mod_eq_of_lt (by omega)]
  rw [e2, e3]
theorem or_high (x y s : Nat) (hs : s ≤ 64) (hx : x < 2 ^ (64 - s)) : bits BinOp.or IntKind.u64 (x : Int) (IntKind.u64.wrap ((y : Int) * 2 ^ (64 - s))) = ((x + y * 2 ^ (64 - s) % 18446744073709551616 : Nat) : Int) := by
  have hpq := two_part hs
  have hq : (0 : Nat) < 2 ^ (64 - s) := Nat.two_pow_pos _
  have w : IntKind.u64.wrap ((y : Int) * 2 ^ (64 - s)) = ((y * 2 ^ (64 - s) % 18446744073709551616 : Nat) : Int) := by
    rw [IntKind.wrap_u64]; simp
  have e1 : y * 2 ^ (64 - s) % 18446744073709551616 = 2 ^ (64 - s) * (y % 2 ^ s) := by
    have h := Nat.mul_mod_mul_left (2 ^ (64 - s)) y (2 ^ s)
    rw [Nat.mul_comm (2 ^ (64 - s)) (2 ^ s), hpq, Nat.mul_comm (2 ^ (64 - s)) y] at h
    exact h
  have l1 : 2 ^ (64 - s) ≤ 18446744073709551616 := by
    have := Nat.mul_le_mul_right (2 ^ (64 - s)) (show 1 ≤ 2 ^ s from Nat.two_pow_pos s)
    omega
  rw [w, u64_or_nat _ _ (by omega) (Nat.mod_lt _ (by decide)), e1]
  congr 1
  rw [Nat.add_comm, Nat.two_pow_add_eq_or_of_lt hx, Nat.or_comm]
/-- What holds at each round: the limbs of the number over 2^n told so far. -/
def ShInv (m k : Nat) (es : List Nat) : Prop := es.length = k ∧ (∀ x ∈ es, x < 18446744073709551616) ∧ lval 18446744073709551616 es = m % 18446744073709551616 ^ k
theorem shinv_step {m k : Nat} {es : List Nat} (h : ShInv m k es) : ShInv m (k + 1) (es ++ [m / 18446744073709551616 ^ k % 18446744073709551616]) := by
  obtain ⟨h1, h2, h3⟩ := h
  refine ⟨by simp [h1], ?_, ?_⟩
  · intro x hxm
    rw [List.mem_append] at hxm
    rcases hxm with hm | hm
    · exact h2 x hm
    · simp at hm; rw [hm]; exact Nat.mod_lt _ (by decide)
  · rw [lval_append, h1, h3, Nat.mod_pow_succ]
    simp [lval]

set_option maxRecDepth 100000 in
set_option maxHeartbeats 8000000 in
/-- Down2 -/
theorem down2_far (va : Value) (a n : Nat) (w : World) (ha : IsN w va a) (la : a < BIG) (hn : n ≤ 4611686018427387904) : Calls Tryz.prog 92 #[va, .int .i64 n] w (SomeNF w (a / 2 ^ n)) := by
  obtain ⟨i0, hi0, hz0, hz1, hz2⟩ := info_parts info64
  have NL := Lib.hid (fun W h => nlen_any va a W h la)
  obtain ⟨xs, rx, x1, x2, x3⟩ := id ha
  have HA := Lib.hid ha
  have lx := len_n x3 (by rw [x2]; exact la)
  obtain ⟨ox, cx, rfl, hcx⟩ := rx.form
  by_cases g : bn a ≤ n
  · have E : Hid (a / 2 ^ n = 0) := by
      have h1 := bn_lt a
      have h2 := Nat.pow_le_pow_right (show 0 < 2 by decide) g
      exact Nat.div_eq_of_lt (by omega)
    have g' : (bn a : Int) ≤ n := by omega
    clear g rx hcx x1 x2 x3 la ha
    go_enter Tryz.func92, Tryz.ntmps92
    go_wp2_with (go_at_call 91; (with_reducible refine (NL.out _ HA.out).mono ?_); rintro e w' ⟨rfl, rfl⟩)
    go_ret
    exact ⟨_, rfl, ⟨[], .inl ⟨rfl, rfl⟩, by simp, by rw [E.out]; rfl, rfl⟩, Below.refl _ _, fun _ _ => by simp [Value.ownBlock]⟩
  · have g' : ¬ (bn a : Int) ≤ n := by omega
    have bl : bn a ≤ 64 * xs.length := by
      apply bn_le
      have := lval_lt 18446744073709551616 (by decide) xs x1
      rw [x2, b64, ← Nat.pow_mul] at this
      exact this
    obtain ⟨q, hq⟩ : ∃ q, q = n / 64 := ⟨_, rfl⟩
    obtain ⟨s, hs⟩ : ∃ s, s = n % 64 := ⟨_, rfl⟩
    have eq1 : (n : Int) / 64 = (q : Int) := by omega
    have es1 : (n : Int) % 64 = (s : Int) := by omega
    have en : n = 64 * q + s := by omega
    have hs64 : s < 64 := by omega
    have hq2 : q < xs.length := by omega
    have MK : Hid (∀ k, a / 2 ^ n / 18446744073709551616 ^ k = a / 18446744073709551616 ^ (q + k) / 2 ^ s) := fun k => by
      rw [Nat.div_div_eq_div_mul, Nat.div_div_eq_div_mul, en, b64, ← Nat.pow_mul, ← Nat.pow_mul, ← Nat.pow_add, ← Nat.pow_add]
      congr 2; omega
    have ME : Hid (a / 2 ^ n < 18446744073709551616 ^ (xs.length - q)) := by
      have h := lval_lt 18446744073709551616 (by decide) xs x1
      rw [x2] at h
      have p : (0 : Nat) < 2 ^ n := Nat.two_pow_pos n
      unfold Hid
      rw [Nat.div_lt_iff_lt_mul p]
      refine Nat.lt_of_lt_of_le h ?_
      rw [b64, ← Nat.pow_mul, ← Nat.pow_mul, ← Nat.pow_add]
      exact Nat.pow_le_pow_right (by decide) (by omega)
    have LA : Hid (∀ i, a / 18446744073709551616 ^ i % 18446744073709551616 = xs.getD i 0) := fun i => by rw [← x2]; exact limb_at x1 i
    have HX := Lib.hid (And.intro hcx x1)
    clear g rx hcx x1 x2 x3 la ha hq hs bl en
    go_enter Tryz.func92, Tryz.ntmps92
    go_wp2_with (go_at_call 91; (with_reducible refine (NL.out _ HA.out).mono ?_); rintro e w' ⟨rfl, rfl⟩)
    have gD : decide (bn a ≤ n) = false := by rw [decide_eq_false_iff_not]; omega
    simp only [gD]
    clear g' eq1 es1 gD
    obtain ⟨nx, hnx⟩ : ∃ n, n = xs.length := ⟨_, rfl⟩
    rw [← hnx] at lx hq2 ME
    rw [← hnx]
    have NX := Lib.hid hnx
    clear hnx
    go_loopw [6, 7] (fun s6 s7 wr => ∃ (k : Nat) (es : List Nat), q + k ≤ nx ∧ s7 = .int .i64 ((q + k : Nat) : Int) ∧ Hid (ShInv (a / 2 ^ n) k es) ∧ Hid (wr.ownsRow w.heap.size 57 1 s6 es.length (es.map fun x => Value.int .u64 (x : Nat))) ∧ Below w.heap.size w wr) (fun _ s7 _ => nx - (intOf s7).toNat)
    case atStart => exact ⟨0, [], by omega, rfl, ⟨rfl, by simp, by simp [lval, Nat.mod_one]⟩, World.ownsRow_nil _ _ _ _, Below.refl _ _⟩
    case round =>
      obtain ⟨k, es, hk, rfl, HI, hown, hB⟩ := hrel
      have hBs := hB.size
      obtain ⟨i, hi⟩ : ∃ i, i = q + k := ⟨_, rfl⟩
      have esl : es.length ≤ nx := by have := HI.out.1; omega
      rw [← hi] at hk
      rw [← hi]
      by_cases hlt : i < nx
      · obtain ⟨bx, fx, rfl, hbx, hcellx⟩ := HX.out.1 i (by rw [← NX.out]; exact hlt)
        have hcx : wr.cell? ⟨bx, fx + i, none⟩ = some (.int .u64 (xs.getD i 0 : Nat)) := (hB.cell (p := ⟨bx, fx + i, none⟩) hbx).trans hcellx
        obtain ⟨b1, b2⟩ := limb_shift (a / 18446744073709551616 ^ i) s (by omega)
        have st := shinv_step HI.out
        rw [MK.out k, ← hi, b1, Nat.div_div_eq_div_mul _ (18446744073709551616 ^ i), ← Nat.pow_succ, LA.out, LA.out] at st
        rw [LA.out] at b2
        have gx := getD_lt (by decide) HX.out.2 i
        have gy := getD_lt (by decide) HX.out.2 (i + 1)
        obtain ⟨x, ex⟩ : ∃ x, x = xs.getD i 0 := ⟨_, rfl⟩
        obtain ⟨y, ey⟩ : ∃ y, y = xs.getD (i + 1) 0 := ⟨_, rfl⟩
        rw [← ex] at hcx st b2 gx
        rw [← ey] at st gy
        have OR := or_high (x / 2 ^ s) y s (by omega) b2
        obtain ⟨x1, hx1⟩ : ∃ x1, x1 = x / 2 ^ s := ⟨_, rfl⟩
        rw [← hx1] at st b2 OR
        obtain ⟨d, hd⟩ : ∃ d, d = x1 + y * 2 ^ (64 - s) % 18446744073709551616 := ⟨_, rfl⟩
        rw [← hd] at st OR
        have hxI : (x : Int) / 2 ^ s = (x1 : Int) := by rw [hx1]; simp
        have ST := Lib.hid st
        have HO := hown
        have HIQ := Lib.hid hi
        clear hown st b1 hcellx hi
        by_cases hs0 : s = 0
        · have e0 : d = x := by
            rw [hd, hx1, hs0, show 64 - 0 = 64 by rfl, ← b64, Nat.mul_mod_left]; simp
          rw [e0] at ST
          have ex1 : x1 = x := by rw [hx1, hs0]; simp
          rw [ex1] at hxI
          have hs1 : ¬ (0 : Int) < (s : Int) := by omega
          clear hd hx1 OR b2 e0 ex1 ex ey hs0
          go_wp2_with (at_builtin; refine wpList_append_own _ rfl _ _ 69 rfl w.heap.size 57 i0 (.int .u64 0) 1 8 Tryz.underlying69 hi0 hz0 hz1 hz2 rfl (by decide) _ es.length (es.map fun x => Value.int .u64 (x : Nat)) rfl (HO.out.alloc _) ⟨wr.heap.size, 0, none⟩ 1 1 [.int .u64 (x : Nat)] rfl rfl ?c1 ?c2 ?c3 ?c4 ?c5 ?_)
          any_goals (first | exact cell_one_new _ _ _ | (show _ ≤ _; first | (unfold maxLen; omega) | omega | (simp; omega)) | (show Value.oneCell' _ = true; rfl) | (show ∀ u ∈ _, Value.oneCell' u = true; simp [Value.oneCell']))
          intro v' w9 hown1 hgrow _
          have hB9 : Below w.heap.size w w9 := (hB.alloc hBs _).grown hgrow (by simp; omega) (fun k hk => (HO.out.lt k hk).1)
          have h1 : Hid (w9.ownsRow w.heap.size 57 1 v' (es ++ [x]).length ((es ++ [x]).map fun x => Value.int .u64 (x : Nat))) := by
            have h1 := hown1
            simpa [Hid] using h1
          clear hown1 hgrow
          go_wp2
          exact ⟨⟨k + 1, es ++ [x], by have := HIQ.out; omega, by have := HIQ.out; congr 1; omega, ST.out, h1, hB9⟩, by simp [intOf]; omega⟩
        · by_cases hy : i + 1 < nx
          · obtain ⟨_, _, he, _, hcelly⟩ := HX.out.1 (i + 1) (by rw [← NX.out]; exact hy)
            simp only [Option.some.injEq, Addr.mk.injEq, and_true] at he
            obtain ⟨rfl, rfl⟩ := he
            have hcy : wr.cell? ⟨bx, fx + (i + 1), none⟩ = some (.int .u64 (y : Nat)) := by
              have h := (hB.cell (p := ⟨bx, fx + (i + 1), none⟩) hbx).trans hcelly
              rw [← ey] at h
              exact h
            clear hd hx1 hcelly ex ey
            go_wp2_with (at_builtin; refine wpList_append_own _ rfl _ _ 69 rfl w.heap.size 57 i0 (.int .u64 0) 1 8 Tryz.underlying69 hi0 hz0 hz1 hz2 rfl (by decide) _ es.length (es.map fun x => Value.int .u64 (x : Nat)) rfl (HO.out.alloc _) ⟨wr.heap.size, 0, none⟩ 1 1 [.int .u64 (d : Nat)] rfl rfl ?d1 ?d2 ?d3 ?d4 ?d5 ?_)
            any_goals (first | exact cell_one_new _ _ _ | (show _ ≤ _; first | (unfold maxLen; omega) | omega | (simp; omega)) | (show Value.oneCell' _ = true; rfl) | (show ∀ u ∈ _, Value.oneCell' u = true; simp [Value.oneCell']))
            intro v' w9 hown1 hgrow _
            have hB9 : Below w.heap.size w w9 := (hB.alloc hBs _).grown hgrow (by simp; omega) (fun k hk => (HO.out.lt k hk).1)
            have h1 : Hid (w9.ownsRow w.heap.size 57 1 v' (es ++ [d]).length ((es ++ [d]).map fun x => Value.int .u64 (x : Nat))) := by
              have h1 := hown1
              simpa [Hid] using h1
            clear hown1 hgrow
            go_wp2
            exact ⟨⟨k + 1, es ++ [d], by have := HIQ.out; omega, by have := HIQ.out; congr 1; omega, ST.out, h1, hB9⟩, by simp [intOf]; omega⟩
          · have hy0 : y = 0 := by rw [ey]; simp [List.getD, List.getElem?_eq_none (by rw [← NX.out]; omega : xs.length ≤ i + 1)]
            have e0 : d = x1 := by rw [hd, hy0]; simp
            rw [e0] at ST
            clear hd hx1 OR e0 ex ey hy0
            go_wp2_with (at_builtin; refine wpList_append_own _ rfl _ _ 69 rfl w.heap.size 57 i0 (.int .u64 0) 1 8 Tryz.underlying69 hi0 hz0 hz1 hz2 rfl (by decide) _ es.length (es.map fun x => Value.int .u64 (x : Nat)) rfl (HO.out.alloc _) ⟨wr.heap.size, 0, none⟩ 1 1 [.int .u64 (x1 : Nat)] rfl rfl ?e1 ?e2 ?e3 ?e4 ?e5 ?_)
            any_goals (first | exact cell_one_new _ _ _ | (show _ ≤ _; first | (unfold maxLen; omega) | omega | (simp; omega)) | (show Value.oneCell' _ = true; rfl) | (show ∀ u ∈ _, Value.oneCell' u = true; simp [Value.oneCell']))
            intro v' w9 hown1 hgrow _
            have hB9 : Below w.heap.size w w9 := (hB.alloc hBs _).grown hgrow (by simp; omega) (fun k hk => (HO.out.lt k hk).1)
            have h1 : Hid (w9.ownsRow w.heap.size 57 1 v' (es ++ [x1]).length ((es ++ [x1]).map fun x => Value.int .u64 (x : Nat))) := by
              have h1 := hown1
              simpa [Hid] using h1
            clear hown1 hgrow
            go_wp2
            exact ⟨⟨k + 1, es ++ [x1], by have := HIQ.out; omega, by have := HIQ.out; congr 1; omega, ST.out, h1, hB9⟩, by simp [intOf]; omega⟩
      · have hie : i = nx := by omega
        have hkk : Hid (lval 18446744073709551616 es = a / 2 ^ n ∧ ∀ x ∈ es, x < 18446744073709551616) := by
          obtain ⟨h1, h2, h3⟩ := HI.out
          refine ⟨?_, h2⟩
          rw [h3, Nat.mod_eq_of_lt]
          have := ME.out
          rwa [show nx - q = k by omega] at this
        have RD : Hid (Rd .u64 wr u6 es) := own_rd (base := w.heap.size) (e := 57) hown.out
        have HN : Hid (IsN wr (cutv u6 (trimLen es)) (a / 2 ^ n)) := by
          have h := isN_trim RD.out hkk.out.2
          rw [hkk.out.1] at h
          exact h
        have TR := Lib.hid (fun h => trim_any u6 es wr h RD.out)
        have FR := Lib.hid (fun b' (hb' : b' < w.heap.size) => own_far hown.out hb')
        clear hi hie hown HI
        go_wp2_with (first | (go_at_call 64; (with_reducible refine (TR.out (by omega)).mono ?_); rintro e w' ⟨rfl, rfl⟩) | fail)
        go_ret
        exact ⟨_, rfl, HN.out, hB, fun b' hb' => cutv_far (FR.out b' hb')⟩
theorem down2_any (va : Value) (a n : Nat) (w : World) (ha : IsN w va a) (la : a < BIG) (hn : n ≤ 4611686018427387904) : Calls Tryz.prog 92 #[va, .int .i64 n] w (SomeN w (a / 2 ^ n)) :=
  (down2_far va a n w ha la hn).mono fun _ _ h => h.some
end Go.Proofs.YtldchepfcgbpiaaGreat
namespace Go.Proofs.YtldchepfcgbpiaaGreat
open Go.RowKit

theorem drop_cons {ls : List Nat} {m : Nat} (h : m < ls.length) : ls.drop m = ls.getD m 0 :: ls.drop (m + 1) := by
  rw [List.drop_eq_getElem_cons h]
  simp [List.getD, List.getElem?_eq_getElem h]
/-- What holds at each round of a division by a digit: from the j-th digit on, and the rest. -/
def SInv (xs es : List Nat) (d j r : Nat) : Prop := es.length = xs.length ∧ (∀ m, es.getD m 0 < 4294967296) ∧ r < d ∧ lval 4294967296 (xs.drop j) = d * lval 4294967296 (es.drop j) + r
theorem sinv_start (xs : List Nat) {d : Nat} (hd : 0 < d) : SInv xs (List.replicate xs.length 0) d xs.length 0 := by
  refine ⟨by simp, fun m => ?_, hd, ?_⟩
  · simp only [List.getD_eq_getElem?_getD, List.getElem?_replicate]; split <;> simp
  · rw [List.drop_of_length_le (Nat.le_refl _), List.drop_of_length_le (by simp)]; simp [lval]
theorem sinv_step {xs es : List Nat} {d m r t : Nat} (h : SInv xs es d (m + 1) r) (hm : m < xs.length) (hd : d < 4294967296) (hx : xs.getD m 0 < 4294967296) (ht : t = r * 4294967296 + xs.getD m 0) :
    t / d < 4294967296 ∧ t < 18446744073709551616 ∧ SInv xs (es.set m (t / d)) d m (t % d) := by
  obtain ⟨h1, h2, h3, h4⟩ := h
  have hd0 : 0 < d := by omega
  have q : t / d < 4294967296 := by
    rw [Nat.div_lt_iff_lt_mul hd0]
    have := Nat.mul_le_mul_left 4294967296 (show r + 1 ≤ d from h3)
    omega
  refine ⟨q, by omega, by simp [h1], fun j => ?_, Nat.mod_lt _ hd0, ?_⟩
  · rw [getD_set _ _ _ _ (by omega)]
    split
    · exact q
    · exact h2 j
  · rw [drop_cons hm, drop_cons (show m < (es.set m (t / d)).length by simp; omega), List.drop_set_of_lt (by omega), getD_set _ _ _ _ (by omega), if_pos rfl]
    simp only [lval]
    rw [h4, Nat.mul_add 4294967296, Nat.mul_add d]
    have e := Nat.mod_add_div t d
    have e2 : 4294967296 * (d * lval 4294967296 (es.drop (m + 1))) = d * (4294967296 * lval 4294967296 (es.drop (m + 1))) := by rw [← Nat.mul_assoc, Nat.mul_comm 4294967296 d, Nat.mul_assoc]
    rw [e2]
    generalize d * (4294967296 * lval 4294967296 (es.drop (m + 1))) = A at *
    generalize d * (t / d) = C at *
    omega
theorem sinv_end {xs es : List Nat} {d r : Nat} (h : SInv xs es d 0 r) : lval 4294967296 es = lval 4294967296 xs / d ∧ r = lval 4294967296 xs % d ∧ ∀ x ∈ es, x < 4294967296 := by
  obtain ⟨h1, h2, h3, h4⟩ := h
  rw [List.drop_zero, List.drop_zero] at h4
  refine ⟨?_, ?_, ?_⟩
  · rw [h4, Nat.mul_add_div (by omega), Nat.div_eq_of_lt h3, Nat.add_zero]
  · rw [h4, Nat.mul_add_mod, Nat.mod_eq_of_lt h3]
  · intro x hx
    obtain ⟨j, hj, rfl⟩ := List.mem_iff_getElem.1 hx
    have := h2 j
    simpa [List.getD, hj] using this
theorem or_low (x r : Nat) (hx : x < 4294967296) (hr : r < 4294967296) : bits BinOp.or IntKind.u64 ((r : Int) * 4294967296) (x : Int) = ((r * 4294967296 + x : Nat) : Int) := by
  have w : (r : Int) * 4294967296 = ((r * 4294967296 : Nat) : Int) := by omega
  rw [w, u64_or_nat _ _ (by omega) (by omega)]
  congr 1
  have := Nat.two_pow_add_eq_or_of_lt (i := 32) (b := x) (by simpa using hx) r
  rw [show (2 : Nat) ^ 32 = 4294967296 by decide] at this
  rw [Nat.mul_comm r, ← this]

set_option maxRecDepth 100000 in
set_option maxHeartbeats 8000000 in
/-- short -/
theorem short_far (v : Value) (n d : Nat) (w : World) (h : IsD w v n) (hb : n < BIG) (d0 : 0 < d) (d1 : d < 4294967296) : Calls Tryz.prog 89 #[v, .int .u32 d] w fun e w' => ∃ q, e = .returned (.tuple #[q, .int .u32 (n % d : Nat)]) ∧ IsD w' q (n / d) ∧ Below w.heap.size w w' ∧ (q = .slice none 0 0 ∨ ∃ l c, q = .slice (some ⟨w.heap.size, 0, none⟩) l c) := by
  obtain ⟨i0, hi0, hz0, hz1, hz2⟩ := info_parts info32
  obtain ⟨xs, rx, x1, x2, x3⟩ := h
  have lx := len_d x3 (by rw [x2]; exact hb)
  obtain ⟨ox, cx, rfl, hcx⟩ := rx.form
  have hmk : (Instr.makeSlice 127 (.int .i64 (xs.length : Int)) (.int .i64 (xs.length : Int))).run Tryz.prog w = .ok (.slice (some ⟨w.heap.size, 0, none⟩) xs.length xs.length) (w.alloc (.cells (madeCells #[.int .u32 0] xs.length) 129)) := by
    have := run_make (w := w) 127 129 i0 (.int .u32 0) Tryz.underlying127 hi0 hz0 .i64 .i64 xs.length xs.length (by omega) (by omega) (by rw [hz2]; omega) (by omega)
    rw [this, hz1]; simp [Value.cells]
  obtain ⟨nx, hnx⟩ : ∃ n, n = xs.length := ⟨_, rfl⟩
  have hC0 : Hid (CellsAt (w.alloc (.cells (madeCells #[.int .u32 0] nx) 129)) w.heap.size (List.replicate nx 0)) := cells_made _ _
  have hO0 : Hid (SInv xs (List.replicate nx 0) d nx 0) := by rw [hnx]; exact sinv_start xs d0
  rw [← hnx] at hmk lx
  rw [← hnx]
  have HX := Lib.hid (And.intro hcx (And.intro x1 (And.intro x2 hnx)))
  clear rx hcx x1 x2 x3 hb hnx
  go_enter Tryz.func89, Tryz.ntmps89
  go_wp2
  clear hmk
  go_loopw [7, 8] (fun s7 s8 wr => ∃ (j r : Nat) (es : List Nat), j ≤ nx ∧ s7 = .int .u64 r ∧ s8 = .int .i64 ((j : Int) - 1) ∧ Hid (SInv xs es d j r) ∧ Hid (CellsAt wr w.heap.size es) ∧ Below w.heap.size w wr) (fun _ s8 _ => (intOf s8 + 1).toNat)
  case atStart => exact ⟨nx, 0, _, Nat.le_refl _, rfl, rfl, hO0, hC0, (Below.refl _ _).alloc (Nat.le_refl _) _⟩
  case round =>
    obtain ⟨j, r, es, hj, rfl, rfl, HS, HC, hB⟩ := hrel
    have hBs := hB.size
    by_cases h0 : j = 0
    · subst h0
      obtain ⟨p1, p2, p3⟩ := sinv_end HS.out
      rw [HX.out.2.2.1] at p1 p2
      have dl : es.length = nx := by rw [HS.out.1, ← HX.out.2.2.2]
      have RD : Hid (Rd .u32 wr (.slice (some ⟨w.heap.size, 0, none⟩) nx nx) es) := by rw [← dl]; exact HC.out.rd (Nat.le_refl _)
      have CT := Lib.hid (fun h => cutd_any _ es wr h RD.out)
      have ID : Hid (IsD wr (cutv (.slice (some ⟨w.heap.size, 0, none⟩) nx nx) (trimLen es)) (n / d)) :=
        ⟨es.take (trimLen es), RD.out.cut _ (trimLen_le _), fun x hx => p3 x (List.mem_of_mem_take hx), by rw [lval_trim, p1], trim_take _⟩
      have FM : Hid (cutv (.slice (some ⟨w.heap.size, 0, none⟩) nx nx) (trimLen es) = .slice none 0 0 ∨ ∃ l c, cutv (.slice (some ⟨w.heap.size, 0, none⟩) nx nx) (trimLen es) = .slice (some ⟨w.heap.size, 0, none⟩) l c) := .inr ⟨_, _, rfl⟩
      have rl : r < d := HS.out.2.2.1
      have er : IntKind.u32.wrap (r : Int) = (r : Int) := by rw [IntKind.wrap_u32]; omega
      have P2 := Lib.hid p2
      have lt2 : es.length ≤ 4611686018427387904 := by omega
      clear p1 p2 p3 dl
      simp only [Int.natCast_zero]
      go_wp2_with (first | (go_at_call 98; (with_reducible refine (CT.out lt2).mono ?_); rintro e w' ⟨rfl, rfl⟩) | fail)
      go_ret2
      exact ⟨_, by rw [← P2.out]; rfl, ID.out, hB, FM.out⟩
    · obtain ⟨m, rfl⟩ : ∃ m, j = m + 1 := ⟨j - 1, by omega⟩
      have em : ((m + 1 : Nat) : Int) - 1 = (m : Int) := by omega
      rw [em]
      have hmx : m < xs.length := by rw [← HX.out.2.2.2]; omega
      obtain ⟨bx, fx, rfl, hbx, hcellx⟩ := HX.out.1 m hmx
      have hcx : wr.cell? ⟨bx, fx + m, none⟩ = some (.int .u32 (xs.getD m 0 : Nat)) := (hB.cell (p := ⟨bx, fx + m, none⟩) hbx).trans hcellx
      have hlen : m < es.length := by have := HS.out.1; omega
      obtain ⟨hce, hfe⟩ := HC.out.2 m hlen
      have gx := getD_lt (by decide) HX.out.2.1 m
      have rl : r < 4294967296 := by have := HS.out.2.2.1; omega
      obtain ⟨t, ht⟩ : ∃ t, t = r * 4294967296 + xs.getD m 0 := ⟨_, rfl⟩
      obtain ⟨q1, q2, st⟩ := sinv_step HS.out hmx d1 gx ht
      have hS := HC.out.set m (t / d) hlen
      obtain ⟨x, ex⟩ : ∃ x, x = xs.getD m 0 := ⟨_, rfl⟩
      rw [← ex] at hcx ht gx
      have OR := or_low x r gx rl
      rw [← ht] at OR
      obtain ⟨qd, hqd⟩ : ∃ qd, qd = t / d := ⟨_, rfl⟩
      obtain ⟨r2, hr2⟩ : ∃ r2, r2 = t % d := ⟨_, rfl⟩
      rw [← hqd] at q1 st hS
      rw [← hr2] at st
      have dI : ¬ (d : Int) = 0 := by omega
      have eq2 : (t : Int).tdiv (d : Int) = (qd : Int) := by rw [Int.tdiv_eq_ediv_of_nonneg (by omega), hqd]; simp
      have er2 : (t : Int).tmod (d : Int) = (r2 : Int) := by rw [Int.tmod_eq_emod_of_nonneg (by omega), hr2]; simp
      have v1 : IntKind.u32.wrap (qd : Int) = (qd : Int) := by rw [IntKind.wrap_u32]; omega
      have ST := Lib.hid (And.intro st hS)
      have r2l : r2 < d := st.2.2.1
      clear st hS hqd hr2 ht ex hcellx em
      go_wp2
      have w1 : IntKind.u64.wrap (qd : Int) = (qd : Int) := by rw [IntKind.wrap_u64]; omega
      have w2 : (qd : Int) % 4294967296 = (qd : Int) := by omega
      (try simp only [OR, eq2, er2, w1, w2])
      refine ⟨⟨m, r2, es.set m qd, by omega, rfl, rfl, ST.out.1, ST.out.2, ?_⟩, by simp [intOf]⟩
      repeat (first | assumption | exact hB | apply Below.drew | refine Below.setCell ?_ (by first | omega | (simp; done) | (simp; omega)) _)
theorem short_any (v : Value) (n d : Nat) (w : World) (h : IsD w v n) (hb : n < BIG) (d0 : 0 < d) (d1 : d < 4294967296) : Calls Tryz.prog 89 #[v, .int .u32 d] w fun e w' => ∃ q, e = .returned (.tuple #[q, .int .u32 (n % d : Nat)]) ∧ IsD w' q (n / d) ∧ Below w.heap.size w w' := (short_far v n d w h hb d0 d1).mono fun _ _ ⟨q, a, b, c, _⟩ => ⟨q, a, b, c⟩
end Go.Proofs.YtldchepfcgbpiaaGreat
