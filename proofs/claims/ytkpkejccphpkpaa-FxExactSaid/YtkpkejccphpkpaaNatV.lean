/-
  The references' whole numbers: how many bits they have; halved.
-/
import Derived.Test.YtkpkejccphpkpaaNatU
namespace Go.Proofs.Ytkpkejccphpkpaa
open Go.RowKit

/-- How many bits a number has. -/
def bn (n : Nat) : Nat := if n = 0 then 0 else n.log2 + 1
theorem bn_is {n k : Nat} (h : n < 2 ^ k) (h1 : k = 0 ∨ 2 ^ (k - 1) ≤ n) : bn n = k := by
  unfold bn
  by_cases hn : n = 0
  · rw [if_pos hn]
    rcases h1 with h1 | h1
    · exact h1.symm
    · have := Nat.two_pow_pos (k - 1); omega
  · rw [if_neg hn]
    have a := (Nat.log2_lt hn).2 h
    rcases h1 with h1 | h1
    · subst h1; simp at h; omega
    · have b := (Nat.le_log2 hn).2 h1
      omega
theorem bn_lt (n : Nat) : n < 2 ^ bn n := by
  unfold bn
  by_cases hn : n = 0
  · rw [if_pos hn]; omega
  · rw [if_neg hn]; exact Nat.lt_log2_self
theorem bn_ge {n : Nat} (hn : n ≠ 0) : 2 ^ (bn n - 1) ≤ n := by
  unfold bn
  rw [if_neg hn, Nat.add_sub_cancel]
  exact (Nat.le_log2 hn).1 (Nat.le_refl _)
theorem bn_le {n k : Nat} (h : n < 2 ^ k) : bn n ≤ k := by
  unfold bn
  by_cases hn : n = 0
  · rw [if_pos hn]; omega
  · rw [if_neg hn]; exact (Nat.log2_lt hn).2 h
theorem bn_zero : bn 0 = 0 := rfl
theorem b64 : (18446744073709551616 : Nat) = 2 ^ 64 := by decide
/-- The bits of limbs: those of the top one, and 64 for each below. -/
theorem bn_limbs {ls : List Nat} {L j : Nat} (hl : ls.length = L + 1) (hx : ∀ x ∈ ls, x < 18446744073709551616) (h1 : ls.getD L 0 < 2 ^ j) (h2 : j = 0 ∨ 2 ^ (j - 1) ≤ ls.getD L 0) (h3 : ls.getD L 0 ≠ 0) : bn (lval 18446744073709551616 ls) = 64 * L + j := by
  have e := lval_take_succ 18446744073709551616 ls L
  rw [List.take_of_length_le (by omega)] at e
  have lt := lval_lt 18446744073709551616 (by decide) (ls.take L) (fun x h => hx x (List.mem_of_mem_take h))
  rw [List.length_take, Nat.min_eq_left (by omega)] at lt
  have pw : (18446744073709551616 : Nat) ^ L = 2 ^ (64 * L) := by rw [b64, ← Nat.pow_mul]
  rw [e]
  generalize ls.getD L 0 = t at *
  generalize lval 18446744073709551616 (ls.take L) = lw at *
  rw [pw] at lt ⊢
  apply bn_is
  · have := Nat.mul_le_mul_left (2 ^ (64 * L)) (show t + 1 ≤ 2 ^ j from h1)
    rw [← Nat.pow_add, Nat.mul_add, Nat.mul_one] at this
    omega
  · right
    rcases h2 with h2 | h2
    · subst h2; simp at h1; omega
    · have hj : 1 ≤ j := by
        rcases Nat.eq_zero_or_pos j with h | h
        · subst h; simp at h1; omega
        · exact h
      rw [show 64 * L + j - 1 = 64 * L + (j - 1) by omega, Nat.pow_add]
      have := Nat.mul_le_mul_left (2 ^ (64 * L)) h2
      omega

set_option maxRecDepth 100000 in
set_option maxHeartbeats 4000000 in
/-- NLen -/
theorem nlen_any (v : Value) (n : Nat) (w : World) (h : IsN w v n) (hb : n < BIG) : Calls Try.prog 119 #[v] w fun e w' => e = .returned (.int .i64 (bn n : Nat)) ∧ w = w' := by
  obtain ⟨xs, rx, x1, x2, x3⟩ := h
  have lx := len_n x3 (by rw [x2]; exact hb)
  obtain ⟨ox, cx, rfl, hcx⟩ := rx.form
  rcases Nat.eq_zero_or_pos xs.length with h0 | h0
  · have E : Hid (n = 0) := by
      have e : xs = [] := List.eq_nil_of_length_eq_zero h0
      unfold Hid; rw [← x2, e]; rfl
    rw [h0]
    clear h0 rx hcx x1 x2 x3 hb lx
    go_enter Try.func119, Try.ntmps119
    go_wp2
    go_ret
    exact ⟨by rw [E.out]; rfl, rfl⟩
  · obtain ⟨L, hL⟩ : ∃ L, xs.length = L + 1 := ⟨xs.length - 1, by omega⟩
    obtain ⟨bx, fx, rfl, hbx, hcell⟩ := hcx L (by omega)
    have top : xs.getD L 0 ≠ 0 := by
      rcases trim_last xs with h | h
      · omega
      · rw [x3, hL] at h; exact h
    have tl := getD_lt (by decide) x1 L
    have BL : Hid (∀ j, xs.getD L 0 < 2 ^ j → (j = 0 ∨ 2 ^ (j - 1) ≤ xs.getD L 0) → bn n = 64 * L + j) := fun j h1 h2 => by rw [← x2]; exact bn_limbs hL x1 h1 h2 top
    rw [hL] at lx ⊢
    obtain ⟨x, ex⟩ : ∃ x, x = xs.getD L 0 := ⟨_, rfl⟩
    rw [← ex] at BL hcell top tl
    clear h0 rx hcx x1 x2 x3 hb ex hL
    have hne : ¬ (((L : Int) + 1) = 0) := by omega
    go_enter Try.func119, Try.ntmps119
    go_wp2
    clear hne
    go_loop [3, 4] (fun s3 s4 => ∃ (j y : Nat), j ≤ 64 ∧ s3 = .int .i64 (64 * (L : Int) + j) ∧ s4 = .int .u64 (y : Nat) ∧ Hid (y = x / 2 ^ j) ∧ Hid (j = 0 ∨ 2 ^ (j - 1) ≤ x)) (fun _ s4 => (intOf s4).toNat)
    case atStart => exact ⟨0, x, by omega, by simp, rfl, by simp [Hid], .inl rfl⟩
    case round =>
      obtain ⟨j, y, hj, rfl, rfl, HY, HJ⟩ := hrel
      by_cases hy : y = 0
      · have E : Hid (bn n = 64 * L + j) := BL.out j (by
          have h := HY.out
          rw [hy] at h
          rcases Nat.lt_or_ge x (2 ^ j) with h1 | h1
          · exact h1
          · have := Nat.div_pos h1 (Nat.two_pow_pos j); omega) HJ.out
        subst hy
        simp only [Int.natCast_zero]
        go_wp2
        go_ret
        exact ⟨by rw [E.out]; rfl, rfl⟩
      · have hy' : ((y : Int) == 0) = false := by simpa using hy
        have ge : 2 ^ j ≤ x := by
          rcases Nat.lt_or_ge x (2 ^ j) with h1 | h1
          · have := Nat.div_eq_of_lt h1
            have := HY.out
            omega
          · exact h1
        have j63 : j < 64 := by
          rcases Nat.lt_or_ge j 64 with h | h
          · exact h
          · have := Nat.pow_le_pow_right (show 0 < 2 by decide) h
            rw [← b64] at this
            omega
        have GE := Lib.hid ge
        have YN := Lib.hid (Nat.pos_of_ne_zero hy)
        clear ge hy
        go_wp2
        have e2 : ((y : Int) / 2) = ((y / 2 : Nat) : Int) := by omega
        rw [e2]
        have yp := YN.out
        refine ⟨⟨j + 1, y / 2, by omega, by go_num, rfl, ?_, .inr (by rw [Nat.add_sub_cancel]; exact GE.out)⟩, by simp [intOf]; omega⟩
        unfold Hid
        rw [HY.out, Nat.div_div_eq_div_mul, Nat.pow_succ]
end Go.Proofs.Ytkpkejccphpkpaa
