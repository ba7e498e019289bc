/-
  What the calls on sizes (whole numbers of 128 bits without a sign) do.
  Sizes: a bit set, a sign laid on, a whole number's size.
  What the calls on sizes do, the second half: a bit set, a sign laid on, a whole number's size.
  The long division of sizes, bit by bit: what holds at each round's head.
  The long division of sizes.
  Rounded quotients, said of whole numbers.
-/
import Derived.Test.YtnlfljekbknaaaaShelf
import Derived.WalkMore
import Derived.Deep.LoopGhost
import Derived.LoopTactic
import Derived.Deep.DeepCutAuto
import Derived.Deep.CutBlock
import Derived.Test.YtnlfljekbknaaaaM02
namespace Go.Proofs.Ytnlfljekbknaaaa
open Go.RowKit

abbrev Sv (s : Int) : Value := .agg #[.int .u64 (hi s), .int .u64 (lo s)]
theorem sv0 : Sv 0 = .agg #[.int .u64 0, .int .u64 0] := rfl

/-- odd -/
theorem odd_any (s : Int) (w : World) : Calls Try.prog 129 #[Sv s] w fun e w' => e = .returned (.bool (s % 2 == 1)) ∧ Below w.heap.size w w' := by
  obtain ⟨a0, a1⟩ := lo_bd s
  have e1 := Lib.hid (show lo s % 2 = s % 2 by unfold lo; omega)
  go_enter Try.func129, Try.ntmps129
  go_wp2
  go_ret
  exact ⟨by rw [← e1.out]; rfl, (Below.refl _ _).alloc (Nat.le_refl _) _⟩

theorem next_lo (s : Int) : (lo s + 1) % 18446744073709551616 = lo (s + 1) := by unfold lo; omega
theorem next_hi {s : Int} (h : U (s + 1)) : IntKind.u64.wrap (hi s + (lo s + 1) / 18446744073709551616) = hi (s + 1) := by
  rw [U_iff] at h; rw [IntKind.wrap_u64]; unfold hi lo; omega
/-- next -/
theorem next_any (s : Int) (w : World) (h : U (s + 1)) : Calls Try.prog 130 #[Sv s] w fun e w' => e = .returned (Sv (s + 1)) ∧ Below w.heap.size w w' := by
  obtain ⟨a0, a1⟩ := lo_bd s
  have e1 := next_lo s
  have e2 := next_hi h
  generalize s + 1 = t at *
  clear h
  go_enter Try.func130, Try.ntmps130
  go_wp2_with (simp only [add64_0 (lo s) 1 a0 (by decide)])
  refine bodyPost_ret (v := Sv t) (by simp [results, Try.results130, go_sem]) rfl ⟨rfl, ?_⟩
  exact ((Below.refl _ _).alloc (Nat.le_refl _) _).alloc (by simp) _

theorem less_lo (s o : Int) : (lo s - lo o) % 18446744073709551616 = lo (ws (s - o)) := by rw [ws_lo]; unfold lo; omega
theorem less_hi (s o : Int) : (hi s - hi o - bor (lo s) (lo o)) % 18446744073709551616 = hi (ws (s - o)) := by
  rw [ws_hi]; unfold hi lo bor; split <;> omega
/-- less -/
theorem less_any (s o : Int) (w : World) (h : U s) (k : U o) : Calls Try.prog 147 #[Sv s, Sv o] w fun e w' => e = .returned (Sv (ws (s - o))) ∧ Below w.heap.size w w' := by
  obtain ⟨a0, a1⟩ := lo_bd s
  obtain ⟨b0, b1⟩ := lo_bd o
  have b2 : lo o < 18446744073709551616 := by omega
  obtain ⟨c0, c1⟩ := h
  obtain ⟨d0, d1⟩ := k
  have d2 : hi o < 18446744073709551616 := by omega
  obtain ⟨k0, k1⟩ := bor_bd (lo s) (lo o)
  have e1 := less_lo s o
  have e2 := less_hi s o
  generalize ws (s - o) = t at *
  go_enter Try.func147, Try.ntmps147
  go_wp2_with (first | simp only [sub64_0 (lo s) (lo o) a0 b0 b2] | simp only [sub64_b _ _ _ c0 d0 d2 k0 k1])
  refine bodyPost_ret (v := Sv t) (by simp [results, Try.results147, go_sem]) rfl ⟨rfl, ?_⟩
  exact (((Below.refl _ _).alloc (Nat.le_refl _) _).alloc (by simp) _).alloc (by simp; omega) _

/-- left -/
theorem left_any (s : Int) (n : Nat) (w : World) (h : U s) (h1 : n ≤ 127) : Calls Try.prog 127 #[Sv s, .int .i64 n] w fun e w' => e = .returned (Sv (ws (s * 2 ^ n))) ∧ Below w.heap.size w w' := by
  obtain ⟨a0, a1⟩ := lo_bd s
  by_cases g : 64 ≤ n
  · have e1 := left64_hi s n g
    have e2 := left64_lo s n g
    have e3 : (((n : Int) - 64).toNat) = n - 64 := by omega
    have H := Lib.hid (And.intro e1 (And.intro e2.symm e3))
    clear e1 e2 e3
    generalize ws (s * 2 ^ n) = t at *
    go_enter Try.func127, Try.ntmps127
    go_wp2
    refine bodyPost_ret (v := Sv t) (by simp [results, Try.results127, go_sem, H.out.1, H.out.2.1]) rfl ⟨rfl, ?_⟩
    exact ((Below.refl _ _).alloc (Nat.le_refl _) _).alloc (by simp) _
  · have g' : n < 64 := by omega
    have e1 := left_hi s n (by omega) h.1
    have e2 := left_lo s n
    have e3 : ((64 - (n : Int)).toNat) = 64 - n := by omega
    have H := Lib.hid (And.intro e1 (And.intro e2 e3))
    clear e1 e2 e3
    generalize ws (s * 2 ^ n) = t at *
    go_enter Try.func127, Try.ntmps127
    go_wp2
    go_region
    go_wp2
    refine bodyPost_ret (v := Sv t) (by simp [results, Try.results127, go_sem, H.out.1, H.out.2.1]) rfl ⟨rfl, ?_⟩
    exact (((Below.refl _ _).alloc (Nat.le_refl _) _).alloc (by simp) _).drew

/-- compare -/
theorem compare_any (a b : Int) (w : World) : Calls Try.prog 128 #[Sv a, Sv b] w fun e w' => e = .returned (.int .i64 (sg a b)) ∧ Below w.heap.size w w' := by
  by_cases h : hi a = hi b
  · have H := Lib.hid (sg_lo h)
    have g : (hi a != hi b) = false := by simp [h]
    have K := Lib.hid h
    clear h
    go_enter Try.func128, Try.ntmps128
    go_wp2_with (go_at_call 149; refine (compare_u64 _ _ _).mono ?_; rintro e w' ⟨rfl, rfl⟩)
    go_ret
    exact ⟨by rw [H.out]; rfl, ((Below.refl _ _).alloc (Nat.le_refl _) _).alloc (by simp) _⟩
  · have H := Lib.hid (sg_hi h)
    have g : (hi a != hi b) = true := by simp [h]
    clear h
    go_enter Try.func128, Try.ntmps128
    go_wp2_with (go_at_call 149; refine (compare_u64 _ _ _).mono ?_; rintro e w' ⟨rfl, rfl⟩)
    go_ret
    exact ⟨by rw [H.out]; rfl, ((Below.refl _ _).alloc (Nat.le_refl _) _).alloc (by simp) _⟩

/-- length -/
theorem length_any (s : Int) (w : World) (h : U s) : Calls Try.prog 137 #[Sv s] w fun e w' => e = .returned (.int .i64 (bl s)) ∧ w.alloc (.cells #[.int .u64 (hi s), .int .u64 (lo s)] 178) = w' := by
  obtain ⟨a0, a1⟩ := lo_bd s
  by_cases g : hi s = 0
  · have H := Lib.hid (bl_low g)
    have g' : (hi s != 0) = false := by simp [g]
    have K := Lib.hid g
    clear g h
    go_enter Try.func137, Try.ntmps137
    go_wp2_with (go_at_call 154; refine (Try.bits_Len64 (lo s) _ a0 a1).mono ?_; rintro e w' ⟨rfl, rfl⟩)
    go_ret
    exact ⟨by rw [← H.out]; rfl, rfl⟩
  · have H := Lib.hid (bl_high h g)
    have g' : (hi s != 0) = true := by simp [g]
    obtain ⟨c0, c1⟩ := h
    have l := bitLen_64 (hi s) c0 c1
    clear g
    go_enter Try.func137, Try.ntmps137
    go_wp2_with (go_at_call 154; refine (Try.bits_Len64 (hi s) _ c0 c1).mono ?_; rintro e w' ⟨rfl, rfl⟩)
    go_ret
    exact ⟨by rw [← H.out]; rfl, rfl⟩
end Go.Proofs.Ytnlfljekbknaaaa
namespace Go.Proofs.Ytnlfljekbknaaaa
open Go.RowKit

theorem or_add (P Q k : Int) (n : Nat) (hP : P = 2 ^ n) (hk : 0 ≤ k) (hq : Q = 2 * P * k) (hM : Q + P < 18446744073709551616) : bits BinOp.or IntKind.u64 Q P = Q + P := by
  obtain ⟨k, rfl⟩ := Int.eq_ofNat_of_zero_le hk
  have eP : P = ((2 ^ n : Nat) : Int) := by rw [hP]; simp
  have eQ : Q = ((2 ^ (n + 1) * k : Nat) : Int) := by
    rw [hq, eP, Nat.pow_succ, Int.natCast_mul, Int.natCast_mul]
    congr 1
    exact Int.mul_comm _ _
  have hM2 : ((2 ^ (n + 1) * k : Nat) : Int) + ((2 ^ n : Nat) : Int) < 18446744073709551616 := by rw [← eQ, ← eP]; exact hM
  rw [eP, eQ]
  clear eP eQ hM hP hq
  generalize hA : 2 ^ (n + 1) * k = A at *
  generalize hB : 2 ^ n = B at *
  rw [u64_or_nat A B (by omega) (by omega), ← Int.natCast_add]
  subst hA hB
  congr 1
  exact (Nat.two_pow_add_eq_or_of_lt (by rw [Nat.pow_succ]; have := Nat.two_pow_pos n; omega) k).symm
theorem or_zero (Q : Int) (h0 : 0 ≤ Q) (h1 : Q ≤ 18446744073709551615) : bits BinOp.or IntKind.u64 Q 0 = Q := by
  rw [u64_or _ _ h0 (by omega) (by decide) (by decide)]
  simp; omega

theorem bit_high (s : Int) (n : Nat) (h : U s) (g : 64 ≤ n) (h1 : n ≤ 127) (hd : s % 2 ^ (n + 1) = 0) :
    bits BinOp.or IntKind.u64 (hi s) (hi (ws (2 ^ n))) = hi (s + 2 ^ n) ∧ bits BinOp.or IntKind.u64 (lo s) (lo (ws (2 ^ n))) = lo (s + 2 ^ n) := by
  have e1 : (2 : Int) ^ n = 2 ^ (n - 64) * 18446744073709551616 := pow_split g
  have e2 : (2 : Int) ^ (n + 1) = 2 * 2 ^ (n - 64) * 18446744073709551616 := by rw [Int.pow_succ, e1]; omega
  have hp : (0 : Int) < 2 ^ (n - 64) := Int.pow_pos (by decide)
  have hp1 : (2 : Int) ^ (n - 64) ≤ 9223372036854775808 := by
    have : (2 : Int) ^ (n - 64) * 2 ^ (127 - n) = 9223372036854775808 := by rw [← Int.pow_add, show n - 64 + (127 - n) = 63 by omega]; rfl
    have q : (0 : Int) < 2 ^ (127 - n) := Int.pow_pos (by decide)
    calc (2 : Int) ^ (n - 64) = 2 ^ (n - 64) * 1 := by omega
      _ ≤ 2 ^ (n - 64) * 2 ^ (127 - n) := Int.mul_le_mul_of_nonneg_left (by omega) (by omega)
      _ = _ := this
  obtain ⟨k, hk⟩ := Int.dvd_of_emod_eq_zero hd
  rw [e2] at hk
  have hU := (U_iff s).1 h
  have eh : hi s = 2 * 2 ^ (n - 64) * k := by
    rw [hk, Int.mul_assoc _ 18446744073709551616 k, Int.mul_comm 18446744073709551616 k, ← Int.mul_assoc, hi_mul64]
  have el : lo s = 0 := by
    rw [hk, Int.mul_assoc _ 18446744073709551616 k, Int.mul_comm 18446744073709551616 k, ← Int.mul_assoc, lo_mul64]
  have k0 : 0 ≤ k := by
    rcases Int.lt_or_le k 0 with hneg | h0
    · have : 2 * 2 ^ (n - 64) * k < 0 := Int.mul_neg_of_pos_of_neg (by omega) hneg
      have := h.1
      omega
    · exact h0
  have w1 : hi (ws (2 ^ n)) = 2 ^ (n - 64) := by rw [ws_hi, e1, hi_mul64]; omega
  have w2 : lo (ws (2 ^ n)) = 0 := by rw [ws_lo, e1, lo_mul64]
  -- 2 P k + P stays below 2^64, as 2 P divides 2^64
  have hM : hi s + 2 ^ (n - 64) < 18446744073709551616 := by
    have hq : (2 : Int) * 2 ^ (n - 64) * 2 ^ (127 - n) = 18446744073709551616 := by
      have : (2 : Int) ^ (n - 64) * 2 ^ (127 - n) = 9223372036854775808 := by rw [← Int.pow_add, show n - 64 + (127 - n) = 63 by omega]; rfl
      rw [Int.mul_assoc, this]; rfl
    have hkq : k < 2 ^ (127 - n) := by
      rcases Int.lt_or_le k (2 ^ (127 - n)) with hl | hge
      · exact hl
      · have := Int.mul_le_mul_of_nonneg_left hge (show (0 : Int) ≤ 2 * 2 ^ (n - 64) by omega)
        rw [hq, ← eh] at this
        have := h.2
        omega
    have := Int.mul_le_mul_of_nonneg_left (show k + 1 ≤ 2 ^ (127 - n) by omega) (show (0 : Int) ≤ 2 * 2 ^ (n - 64) by omega)
    rw [hq, Int.mul_add, ← eh] at this
    omega
  rw [w1, w2, el]
  refine ⟨?_, ?_⟩
  · rw [or_add _ _ k (n - 64) rfl k0 eh hM, e1]; unfold hi; omega
  · rw [or_zero 0 (by decide) (by decide), e1]; unfold lo; unfold lo at el; omega

theorem bit_low (s : Int) (n : Nat) (g : n < 64) (hd : s % 2 ^ (n + 1) = 0) (h : U s) :
    bits BinOp.or IntKind.u64 (hi s) (hi (ws (2 ^ n))) = hi (s + 2 ^ n) ∧ bits BinOp.or IntKind.u64 (lo s) (lo (ws (2 ^ n))) = lo (s + 2 ^ n) := by
  have hp : (0 : Int) < 2 ^ n := Int.pow_pos (by decide)
  have hQ : (0 : Int) < 2 ^ (63 - n) := Int.pow_pos (by decide)
  have hpq : (2 : Int) * 2 ^ n * 2 ^ (63 - n) = 18446744073709551616 := by
    rw [Int.mul_assoc, ← Int.pow_add, show n + (63 - n) = 63 by omega]; rfl
  have hp1 : (2 : Int) ^ n ≤ 9223372036854775808 := by
    have := Int.mul_le_mul_of_nonneg_left (show (1 : Int) ≤ 2 ^ (63 - n) by omega) (show (0 : Int) ≤ 2 * 2 ^ n by omega)
    omega
  obtain ⟨k, hk⟩ := Int.dvd_of_emod_eq_zero hd
  have e2 : (2 : Int) ^ (n + 1) = 2 * 2 ^ n := by rw [Int.pow_succ]; omega
  rw [e2] at hk
  have el : lo s = 2 * 2 ^ n * (k % 2 ^ (63 - n)) := by
    unfold lo; rw [hk, ← hpq]; exact Int.mul_emod_mul_of_pos _ _ (by omega)
  have a0 := Int.emod_nonneg k (show (2 : Int) ^ (63 - n) ≠ 0 by omega)
  have a1 := Int.emod_lt_of_pos k hQ
  have hM : lo s + 2 ^ n < 18446744073709551616 := by
    have := Int.mul_le_mul_of_nonneg_left (show k % 2 ^ (63 - n) + 1 ≤ 2 ^ (63 - n) by omega) (show (0 : Int) ≤ 2 * 2 ^ n by omega)
    rw [hpq, Int.mul_add, ← el] at this
    omega
  have w1 : hi (ws (2 ^ n)) = 0 := by rw [ws_hi]; unfold hi; omega
  have w2 : lo (ws (2 ^ n)) = 2 ^ n := by rw [ws_lo]; unfold lo; omega
  rw [w1, w2]
  refine ⟨?_, ?_⟩
  · rw [or_zero _ h.1 h.2]; unfold hi; unfold lo at hM; omega
  · rw [or_add _ _ _ n rfl a0 el hM]; unfold lo; unfold lo at hM; omega

theorem bit_any (s : Int) (n : Nat) (h : U s) (h1 : n ≤ 127) (hd : s % 2 ^ (n + 1) = 0) :
    bits BinOp.or IntKind.u64 (hi s) (hi (ws (2 ^ n))) = hi (s + 2 ^ n) ∧ bits BinOp.or IntKind.u64 (lo s) (lo (ws (2 ^ n))) = lo (s + 2 ^ n) := by
  by_cases g : 64 ≤ n
  · exact bit_high s n h g h1 hd
  · exact bit_low s n (by omega) hd h

/-- A whole number's size. -/
def ab (a : Int) : Int := (a.natAbs : Int)
theorem U_ab {a : Int} (h : R a) : U (ab a) := by rw [R_iff] at h; rw [U_iff]; unfold ab; omega
theorem ab_of_neg {a : Int} (ha : R a) (h : ng a = true) : ws (-ws a) = ab a := by
  rw [R_iff] at ha; unfold ng at h; have := of_decide_eq_true h; unfold ws ab; omega
theorem ab_of_pos {a : Int} (ha : R a) (h : ng a = false) : ws a = ab a := by
  rw [R_iff] at ha; unfold ng at h; have := of_decide_eq_false h; unfold ws ab; omega
theorem u64_hi_ws (a : Int) : IntKind.u64.wrap (hi a) = hi (ws a) := by rw [ws_hi, IntKind.wrap_u64]
theorem lo_ws (a : Int) : lo a = lo (ws a) := (ws_lo a).symm

/-- A sign laid on a size. -/
def sd (neg : Bool) (s : Int) : Int := if neg then -s else s
theorem neg_high {s : Int} (h : (0 : Int) < sg s 170141183460469231731687303715884105728) : ¬ R (-s) := by
  rw [R_iff]; unfold sg at h; split at h
  · omega
  · split at h <;> omega
theorem neg_low {s : Int} (hU : U s) (h : ¬ (0 : Int) < sg s 170141183460469231731687303715884105728) : R (-s) ∧ wrap64 (hi (ws (-s))) = hi (-s) ∧ lo (ws (-s)) = lo (-s) := by
  rw [U_iff] at hU
  have hs : s ≤ 170141183460469231731687303715884105728 := by
    unfold sg at h; split at h
    · omega
    · split at h <;> omega
  refine ⟨by rw [R_iff]; omega, ?_, ?_⟩
  · rw [ws_hi]; unfold hi wrap64; omega
  · rw [ws_lo]
theorem pos_high {s : Int} (h : 9223372036854775808 ≤ hi s) : ¬ R s := by intro r; have := r.2; omega
theorem pos_low {s : Int} (hU : U s) (h : hi s < 9223372036854775808) : R s ∧ wrap64 (hi s) = hi s := by
  have := hU.1
  exact ⟨⟨by omega, by omega⟩, by unfold wrap64; omega⟩
end Go.Proofs.Ytnlfljekbknaaaa
namespace Go.Proofs.Ytnlfljekbknaaaa
open Go.RowKit

theorem svbit : Sv 1 = .agg #[.int .u64 0, .int .u64 1] := rfl
theorem svtop : Sv 170141183460469231731687303715884105728 = .agg #[.int .u64 9223372036854775808, .int .u64 0] := by
  have e1 : hi 170141183460469231731687303715884105728 = 9223372036854775808 := by decide
  have e2 : lo 170141183460469231731687303715884105728 = 0 := by decide
  show Value.agg #[.int .u64 (hi _), .int .u64 (lo _)] = _
  rw [e1, e2]

set_option maxHeartbeats 1000000 in
/-- withBit -/
theorem withBit_any (s : Int) (n : Nat) (w : World) (h : U s) (h1 : n ≤ 127) (hd : s % 2 ^ (n + 1) = 0) : Calls Try.prog 148 #[Sv s, .int .i64 n] w fun e w' => e = .returned (Sv (s + 2 ^ n)) ∧ Below w.heap.size w w' := by
  have C := fun W => left_any 1 n W (by decide) h1
  rw [svbit] at C
  simp only [Int.one_mul] at C
  have CH := Lib.hid C
  obtain ⟨e1, e2⟩ := bit_any s n h h1 hd
  have H := Lib.hid (And.intro e1 e2)
  clear e1 e2 hd h C
  generalize ws (2 ^ n) = b at *
  generalize s + 2 ^ n = t at *
  go_enter Try.func148, Try.ntmps148
  go_wp2_with (go_at_call 127; (with_reducible refine (CH.out _).mono ?_); rintro e w' ⟨rfl, hb⟩; obtain ⟨hc, hf⟩ := bcell hb; have hz0 : w.heap.size < w'.heap.size := bsz hb (by first | omega | (simp; done) | (simp; omega)); have hz1 : w.heap.size + 1 < w'.heap.size := bsz hb (by first | omega | (simp; done) | (simp; omega)))
  refine bodyPost_ret (v := Sv t) (by simp [results, Try.results148, go_sem, H.out.1, H.out.2, hc, hz1]) rfl ⟨rfl, ?_⟩
  repeat (first | exact Below.refl _ _ | apply Below.drew | refine Below.setCell ?_ (by first | (simp; done) | (simp; omega) | omega) _ | refine Below.alloc ?_ (by first | (simp; done) | (simp; omega) | omega) _ | refine Below.trans ?_ (hb.mono (by first | (simp; done) | (simp; omega) | omega)))

set_option maxHeartbeats 1000000 in
/-- negated -/
theorem negated_any (s : Int) (w : World) (h : U s) : Calls Try.prog 150 #[Sv s] w fun e w' => e = .returned (.tuple #[Wv (told (-s)), .int .i64 (over (-s))]) ∧ Below w.heap.size w w' := by
  have CH := Lib.hid (fun W => svtop ▸ compare_any s 170141183460469231731687303715884105728 W)
  have DH := Lib.hid (fun W => Int.zero_sub s ▸ sv0 ▸ less_any 0 s W (by decide) h)
  by_cases g : (0 : Int) < sg s 170141183460469231731687303715884105728
  · have r := Lib.hid (And.intro (told_out (neg_high g)) (over_out (neg_high g)))
    generalize sg s 170141183460469231731687303715884105728 = c at *
    clear h
    go_enter Try.func150, Try.ntmps150
    go_wp2_with (go_at_call 128; (with_reducible refine (CH.out _).mono ?_); rintro e w' ⟨rfl, hb⟩; obtain ⟨hc, hf⟩ := bcell hb; have hz0 : w.heap.size < w'.heap.size := bsz hb (by first | omega | (simp; done) | (simp; omega)); have hz1 : w.heap.size + 1 < w'.heap.size := bsz hb (by first | omega | (simp; done) | (simp; omega)))
    refine bodyPost_ret (v := .tuple #[.agg #[.int .i64 0, .int .u64 0], .int .i64 3]) (by simp [results, Try.results150, go_sem, hc]) rfl ⟨by rw [r.out.1, r.out.2] <;> rfl, ?_⟩
    repeat (first | exact Below.refl _ _ | apply Below.drew | refine Below.setCell ?_ (by first | (simp; done) | (simp; omega) | omega) _ | refine Below.alloc ?_ (by first | (simp; done) | (simp; omega) | omega) _ | refine Below.trans ?_ (hb.mono (by first | (simp; done) | (simp; omega) | omega)))
  · obtain ⟨r1, r2, r3⟩ := neg_low h g
    have r := Lib.hid (And.intro (told_in r1) (over_in r1))
    have H := Lib.hid (And.intro r2 r3)
    clear h r1 r2 r3
    generalize sg s 170141183460469231731687303715884105728 = c at *
    go_enter Try.func150, Try.ntmps150
    go_wp2_with (first | (go_at_call 128; (with_reducible refine (CH.out _).mono ?_); rintro e w' ⟨rfl, hb⟩; obtain ⟨hc, hf⟩ := bcell hb; have hz0 : w.heap.size < w'.heap.size := bsz hb (by first | omega | (simp; done) | (simp; omega)); have hz1 : w.heap.size + 1 < w'.heap.size := bsz hb (by first | omega | (simp; done) | (simp; omega))) | (go_at_call 147; (with_reducible refine (DH.out _).mono ?_); rintro e w2 ⟨rfl, hb2⟩; obtain ⟨hc2, hf2⟩ := bcell hb2; have hz2 : w.heap.size < w2.heap.size := bsz hb2 (by first | omega | (simp; done) | (simp; omega)); have hz3 : w.heap.size + 1 < w2.heap.size := bsz hb2 (by first | omega | (simp; done) | (simp; omega))))
    refine bodyPost_ret (v := .tuple #[Wv (-s), .int .i64 0]) (by simp [results, Try.results150, go_sem, hc, hz1, hc2, hz3, H.out.1, H.out.2]) rfl ⟨by rw [r.out.1, r.out.2] <;> rfl, ?_⟩
    repeat (first | exact Below.refl _ _ | apply Below.drew | refine Below.setCell ?_ (by first | (simp; done) | (simp; omega) | omega) _ | refine Below.alloc ?_ (by first | (simp; done) | (simp; omega) | omega) _ | refine Below.trans ?_ (hb2.mono (by first | (simp; done) | (simp; omega) | omega)) | refine Below.trans ?_ (hb.mono (by first | (simp; done) | (simp; omega) | omega)))

set_option maxHeartbeats 1000000 in
/-- signed -/
theorem signed_any (s : Int) (neg : Bool) (w : World) (h : U s) : Calls Try.prog 131 #[Sv s, .bool neg] w fun e w' => e = .returned (.tuple #[Wv (told (sd neg s)), .int .i64 (over (sd neg s))]) ∧ Below w.heap.size w w' := by
  cases neg with
  | true =>
    have CH := Lib.hid (fun W => negated_any s W h)
    have e0 := Lib.hid (show sd true s = -s from rfl)
    clear h
    generalize sd true s = t at *
    go_enter Try.func131, Try.ntmps131
    go_wp2_with (go_at_call 150; (with_reducible refine (CH.out _).mono ?_); rintro e w' ⟨rfl, hb⟩; obtain ⟨hc, hf⟩ := bcell hb; have hz0 : w.heap.size < w'.heap.size := bsz hb (by first | omega | (simp; done) | (simp; omega)); have hz1 : w.heap.size + 1 < w'.heap.size := bsz hb (by first | omega | (simp; done) | (simp; omega)))
    refine bodyPost_ret (v := .tuple #[Wv (told (-s)), .int .i64 (over (-s))]) (by simp [results, Try.results131, go_sem, hc]) rfl ⟨by rw [e0.out], ?_⟩
    repeat (first | exact Below.refl _ _ | apply Below.drew | refine Below.setCell ?_ (by first | (simp; done) | (simp; omega) | omega) _ | refine Below.alloc ?_ (by first | (simp; done) | (simp; omega) | omega) _ | refine Below.trans ?_ (hb.mono (by first | (simp; done) | (simp; omega) | omega)))
  | false =>
    have e0 := Lib.hid (show sd false s = s from rfl)
    by_cases g : 9223372036854775808 ≤ hi s
    · have r := Lib.hid (And.intro (told_out (pos_high g)) (over_out (pos_high g)))
      clear h
      generalize sd false s = t at *
      go_enter Try.func131, Try.ntmps131
      go_wp2
      refine bodyPost_ret (v := .tuple #[.agg #[.int .i64 0, .int .u64 0], .int .i64 3]) (by simp [results, Try.results131, go_sem]) rfl ⟨by rw [e0.out, r.out.1, r.out.2] <;> rfl, ?_⟩
      repeat (first | exact Below.refl _ _ | apply Below.drew | refine Below.setCell ?_ (by first | (simp; done) | (simp; omega) | omega) _ | refine Below.alloc ?_ (by first | (simp; done) | (simp; omega) | omega) _)
    · have g' : hi s < 9223372036854775808 := by omega
      obtain ⟨r1, r2⟩ := pos_low h g'
      have r := Lib.hid (And.intro (told_in r1) (And.intro (over_in r1) r2))
      have g0 := h.1
      clear h r1 r2 g
      generalize sd false s = t at *
      go_enter Try.func131, Try.ntmps131
      go_wp2
      refine bodyPost_ret (v := .tuple #[Wv s, .int .i64 0]) (by simp [results, Try.results131, go_sem]) rfl ⟨by rw [e0.out, r.out.1, r.out.2.1] <;> rfl, ?_⟩
      repeat (first | exact Below.refl _ _ | apply Below.drew | refine Below.setCell ?_ (by first | (simp; done) | (simp; omega) | omega) _ | refine Below.alloc ?_ (by first | (simp; done) | (simp; omega) | omega) _)

set_option maxHeartbeats 1000000 in
/-- sizeOf -/
theorem sizeOf_any (a : Int) (w : World) (ha : R a) : Calls Try.prog 125 #[Wv a] w fun e w' => e = .returned (Sv (ab a)) ∧ Below w.heap.size w w' := by
  have DH := Lib.hid (fun W => Int.zero_sub (ws a) ▸ sv0 ▸ less_any 0 (ws a) W (by decide) (U_ws a))
  have l1 := lo_ws a
  have l2 := u64_hi_ws a
  cases g : ng a with
  | true =>
    have E := Lib.hid (ab_of_neg ha g)
    have LH := Lib.hid (And.intro l1 l2)
    clear ha l1 l2
    generalize ws a = u at *
    go_enter Try.func125, Try.ntmps125
    go_wp2_with (first | (go_at_call 132; (with_reducible refine (below_any a _).mono ?_); rintro e w' ⟨rfl, rfl⟩) | (rw [LH.out.1, LH.out.2]; go_at_call 147; (with_reducible refine (DH.out _).mono ?_); rintro e w2 ⟨rfl, hb⟩; obtain ⟨hc, hf⟩ := bcell hb; have hz0 : w.heap.size < w2.heap.size := bsz hb (by first | omega | (simp; done) | (simp; omega)); have hz1 : w.heap.size + 1 < w2.heap.size := bsz hb (by first | omega | (simp; done) | (simp; omega))))
    refine bodyPost_ret (v := Sv (ws (-u))) (by simp [results, Try.results125, go_sem, hc]) rfl ⟨by rw [E.out] <;> rfl, ?_⟩
    repeat (first | exact Below.refl _ _ | apply Below.drew | refine Below.setCell ?_ (by first | (simp; done) | (simp; omega) | omega) _ | refine Below.alloc ?_ (by first | (simp; done) | (simp; omega) | omega) _ | refine Below.trans ?_ (hb.mono (by first | (simp; done) | (simp; omega) | omega)))
  | false =>
    have E := Lib.hid (ab_of_pos ha g)
    have LH := Lib.hid (And.intro l1 l2)
    clear ha l1 l2
    generalize ws a = u at *
    go_enter Try.func125, Try.ntmps125
    go_wp2_with (first | (go_at_call 132; (with_reducible refine (below_any a _).mono ?_); rintro e w' ⟨rfl, rfl⟩))
    refine bodyPost_ret (v := Sv u) (by simp [results, Try.results125, go_sem, LH.out.1, LH.out.2]) rfl ⟨by rw [E.out] <;> rfl, ?_⟩
    repeat (first | exact Below.refl _ _ | apply Below.drew | refine Below.setCell ?_ (by first | (simp; done) | (simp; omega) | omega) _ | refine Below.alloc ?_ (by first | (simp; done) | (simp; omega) | omega) _)
end Go.Proofs.Ytnlfljekbknaaaa
namespace Go.Proofs.Ytnlfljekbknaaaa

def DInv (n d a q r : Int) : Prop :=
  -200 ≤ a ∧ a ≤ 127 ∧ 0 ≤ q ∧ 0 ≤ r ∧ n = q * d + r ∧ r < d * 2 ^ (a + 1).toNat ∧ q % 2 ^ (a + 1).toNat = 0 ∧ (0 ≤ a → d * 2 ^ a.toNat ≤ 340282366920938463463374607431768211455)

theorem pow128 : (2 : Int) ^ 128 = 340282366920938463463374607431768211456 := by decide
theorem pow_mono {m n : Nat} (h : m ≤ n) : (2 : Int) ^ m ≤ 2 ^ n := by
  obtain ⟨k, rfl⟩ := Nat.exists_eq_add_of_le h
  rw [Int.pow_add]
  have h1 : (0 : Int) < 2 ^ m := Int.pow_pos (by decide)
  have h2 : (0 : Int) < 2 ^ k := Int.pow_pos (by decide)
  have := Int.mul_le_mul_of_nonneg_left (show (1 : Int) ≤ 2 ^ k by omega) (show (0 : Int) ≤ 2 ^ m by omega)
  omega
theorem dinv_start {n d : Int} (h : U n) (k : U d) (h0 : d ≠ 0) : DInv n d (bl n - bl d) 0 n := by
  have hn := (U_iff n).1 h
  have hd := (U_iff d).1 k
  have ln := bl_le h
  have ld := bl_le k
  obtain ⟨d1, d2, d3⟩ := bl_bd k h0
  by_cases z : n = 0
  · subst z
    rw [bl_zero]
    have e : (((0 : Nat) : Int) - bl d + 1).toNat = 0 := by omega
    refine ⟨by omega, by omega, by decide, by decide, by omega, ?_, ?_, fun h => by omega⟩
    · rw [e]; simp; omega
    · rw [e]; simp
  · obtain ⟨n1, n2, n3⟩ := bl_bd h z
    refine ⟨by omega, by omega, by decide, by omega, by omega, ?_, by simp, ?_⟩
    · have m := pow_mono (show bl n ≤ (bl d - 1) + ((bl n : Int) - bl d + 1).toNat by omega)
      rw [Int.pow_add] at m
      have := Int.mul_le_mul_of_nonneg_right d2 (show (0 : Int) ≤ 2 ^ ((bl n : Int) - bl d + 1).toNat from Int.le_of_lt (Int.pow_pos (by decide)))
      omega
    · intro hge
      have m := pow_mono (show bl d + ((bl n : Int) - bl d).toNat ≤ 128 by omega)
      rw [Int.pow_add, pow128] at m
      have hp : (0 : Int) < 2 ^ ((bl n : Int) - bl d).toNat := Int.pow_pos (by decide)
      have := Int.mul_le_mul_of_nonneg_right (show d + 1 ≤ 2 ^ bl d by omega) (Int.le_of_lt hp)
      rw [Int.add_mul] at this
      omega
theorem dinv_sizes {n d a q r : Int} (h : DInv n d a q r) (hn : U n) (h0 : 0 < d) : U q ∧ U r := by
  obtain ⟨_, _, q0, r0, e, _, _, _⟩ := h
  simp only [U_iff] at *
  have : q * 1 ≤ q * d := Int.mul_le_mul_of_nonneg_left (by omega) q0
  omega
theorem dinv_step {n d q r : Int} {k : Nat} (h : DInv n d k q r) (h0 : 0 < d) : k ≤ 127 ∧ ws (d * 2 ^ k) = d * 2 ^ k ∧ q % 2 ^ (k + 1) = 0 := by
  obtain ⟨_, k1, _, _, _, _, m, s⟩ := h
  have s' := s (by omega)
  rw [Int.toNat_natCast] at s'
  rw [show ((k : Int) + 1).toNat = k + 1 by omega] at m
  have : (0 : Int) < d * 2 ^ k := Int.mul_pos h0 (Int.pow_pos (by decide))
  exact ⟨by omega, ws_in ((U_iff _).2 ⟨by omega, s'⟩), m⟩
theorem dinv_end {n d a q r : Int} (h : DInv n d a q r) (ha : a < 0) (h0 : 0 < d) : q = n / d ∧ r = n % d := by
  obtain ⟨_, _, q0, r0, e, l, _, _⟩ := h
  rw [show (a + 1).toNat = 0 by omega, Int.pow_zero, Int.mul_one] at l
  have := (Int.ediv_emod_unique h0 (a := n) (r := r) (q := q)).2 ⟨by rw [e, Int.mul_comm d q]; omega, r0, l⟩
  exact ⟨this.1.symm, this.2.symm⟩
theorem dinv_hit {n d q r : Int} {k : Nat} (h : DInv n d k q r) (he : r = d * 2 ^ k) (h0 : 0 < d) : q + 2 ^ k = n / d ∧ 0 = n % d := by
  obtain ⟨_, _, q0, r0, e, l, _, _⟩ := h
  have := (Int.ediv_emod_unique h0 (a := n) (r := 0) (q := q + 2 ^ k)).2 ⟨by rw [e, he, Int.mul_comm q d, ← Int.mul_add]; omega, by omega, h0⟩
  exact ⟨this.1.symm, this.2.symm⟩
theorem dinv_up {n d q r : Int} {k : Nat} (h : DInv n d k q r) (hg : d * 2 ^ k < r) (hn : U n) (h0 : 0 < d) : ws (r - d * 2 ^ k) = r - d * 2 ^ k ∧ DInv n d (k - 1) (q + 2 ^ k) (r - d * 2 ^ k) := by
  have hU := (dinv_sizes h hn h0).2
  obtain ⟨a0, a1, q0, r0, e, l, m, s⟩ := h
  have hp : (0 : Int) < 2 ^ k := Int.pow_pos (by decide)
  have hdp : (0 : Int) < d * 2 ^ k := Int.mul_pos h0 hp
  rw [show ((k : Int) + 1).toNat = k + 1 by omega] at l m
  rw [Int.pow_succ] at l m
  refine ⟨ws_in (by rw [U_iff] at *; omega), by omega, by omega, by omega, by omega, ?_, ?_, ?_, ?_⟩
  · rw [Int.add_mul, Int.mul_comm (2 ^ k) d, e]; omega
  · rw [show ((k : Int) - 1 + 1).toNat = k by omega]
    rw [← Int.mul_assoc] at l; omega
  · rw [show ((k : Int) - 1 + 1).toNat = k by omega]
    have : q % 2 ^ k = 0 := Int.emod_eq_zero_of_dvd (Int.dvd_trans (Int.dvd_mul_right _ _) (Int.dvd_of_emod_eq_zero m))
    rw [Int.add_emod, this, Int.emod_self]; simp
  · intro hk
    have s' := s (by omega)
    rw [Int.toNat_natCast] at s'
    obtain ⟨j, rfl⟩ : ∃ j, k = j + 1 := ⟨k - 1, by omega⟩
    rw [show (((j + 1 : Nat) : Int) - 1).toNat = j by omega]
    rw [Int.pow_succ, ← Int.mul_assoc] at s'
    have : (0 : Int) < d * 2 ^ j := Int.mul_pos h0 (Int.pow_pos (by decide))
    omega
theorem dinv_down {n d q r : Int} {k : Nat} (h : DInv n d k q r) (hg : r < d * 2 ^ k) (h0 : 0 < d) : DInv n d (k - 1) q r := by
  obtain ⟨a0, a1, q0, r0, e, l, m, s⟩ := h
  have hp : (0 : Int) < 2 ^ k := Int.pow_pos (by decide)
  rw [show ((k : Int) + 1).toNat = k + 1 by omega] at l m
  rw [Int.pow_succ] at l m
  refine ⟨by omega, by omega, q0, r0, e, ?_, ?_, ?_⟩
  · rw [show ((k : Int) - 1 + 1).toNat = k by omega]; exact hg
  · rw [show ((k : Int) - 1 + 1).toNat = k by omega]
    exact Int.emod_eq_zero_of_dvd (Int.dvd_trans (Int.dvd_mul_right _ _) (Int.dvd_of_emod_eq_zero m))
  · intro hk
    have s' := s (by omega)
    rw [Int.toNat_natCast] at s'
    obtain ⟨j, rfl⟩ : ∃ j, k = j + 1 := ⟨k - 1, by omega⟩
    rw [show (((j + 1 : Nat) : Int) - 1).toNat = j by omega]
    rw [Int.pow_succ, ← Int.mul_assoc] at s'
    have : (0 : Int) < d * 2 ^ j := Int.mul_pos h0 (Int.pow_pos (by decide))
    omega
end Go.Proofs.Ytnlfljekbknaaaa
namespace Go.Proofs.Ytnlfljekbknaaaa
open Go.RowKit
/-- The four variables of divide. -/
def DivAt (w0 : World) (n d q r : Int) (w : World) : Prop :=
  w.cell? ⟨w0.heap.size, 0, none⟩ = some (.int .u64 (hi n)) ∧ w.cell? ⟨w0.heap.size, 1, none⟩ = some (.int .u64 (lo n)) ∧
  w.cell? ⟨w0.heap.size + 1, 0, none⟩ = some (.int .u64 (hi d)) ∧ w.cell? ⟨w0.heap.size + 1, 1, none⟩ = some (.int .u64 (lo d)) ∧
  w.cell? ⟨w0.heap.size + 1 + 1, 0, none⟩ = some (.int .u64 (hi q)) ∧ w.cell? ⟨w0.heap.size + 1 + 1, 1, none⟩ = some (.int .u64 (lo q)) ∧
  w.cell? ⟨w0.heap.size + 1 + 1 + 1, 0, none⟩ = some (.int .u64 (hi r)) ∧ w.cell? ⟨w0.heap.size + 1 + 1 + 1, 1, none⟩ = some (.int .u64 (lo r)) ∧
  w.frozen? ⟨w0.heap.size + 1 + 1, 0, none⟩ = false ∧ w.frozen? ⟨w0.heap.size + 1 + 1, 1, none⟩ = false ∧
  w.frozen? ⟨w0.heap.size + 1 + 1 + 1, 0, none⟩ = false ∧ w.frozen? ⟨w0.heap.size + 1 + 1 + 1, 1, none⟩ = false ∧
  Below w0.heap.size w0 w ∧ w0.heap.size + 1 + 1 + 1 < w.heap.size
theorem cell_on {W W' : World} (hb : Below W.heap.size W W') {p : Addr} {v : Value} (h : W.cell? p = some v) : W'.cell? p = some v := (hb.cell (World.block_lt_of_cell? W _ h)).trans h
theorem frozen_on {W W' : World} (hb : Below W.heap.size W W') {p : Addr} {v : Value} (h : W.cell? p = some v) {b : Bool} (hf : W.frozen? p = b) : W'.frozen? p = b := (hb.frozen (World.block_lt_of_cell? W _ h)).trans hf
theorem drew_on {W : World} {p : Addr} {v : Value} (h : W.cell? p = some v) : W.drew.cell? p = some v := h
theorem DivAt.below {w0 : World} {n d q r : Int} {W W' : World} (h : DivAt w0 n d q r W) (hb : Below W.heap.size W W') : DivAt w0 n d q r W' := by
  obtain ⟨c1, c2, c3, c4, c5, c6, c7, c8, f1, f2, f3, f4, b, z⟩ := h
  obtain ⟨hc, hf⟩ := bcell hb
  refine ⟨?_, ?_, ?_, ?_, ?_, ?_, ?_, ?_, ?_, ?_, ?_, ?_, b.trans (hb.mono (by omega)), bsz hb z⟩
  all_goals first | (rw [hc _ _ (by omega)]; assumption) | (rw [hf _ _ (by omega)]; assumption)
theorem DivAt.alloc {w0 : World} {n d q r : Int} {W : World} (h : DivAt w0 n d q r W) (o : Obj) : DivAt w0 n d q r (W.alloc o) :=
  h.below ((Below.refl _ _).alloc (Nat.le_refl _) o)
theorem DivAt.drew {w0 : World} {n d q r : Int} {W : World} (h : DivAt w0 n d q r W) : DivAt w0 n d q r W.drew := by
  obtain ⟨c1, c2, c3, c4, c5, c6, c7, c8, f1, f2, f3, f4, b, z⟩ := h
  exact ⟨c1, c2, c3, c4, c5, c6, c7, c8, f1, f2, f3, f4, b.drew, z⟩
theorem DivAt.put {w0 : World} {n d q r : Int} {W : World} (h : DivAt w0 n d q r W) (q' r' : Int) :
    DivAt w0 n d q' r' ((((W.setCell ⟨w0.heap.size + 1 + 1, 0, none⟩ (.int .u64 (hi q'))).setCell ⟨w0.heap.size + 1 + 1, 1, none⟩ (.int .u64 (lo q'))).setCell ⟨w0.heap.size + 1 + 1 + 1, 0, none⟩ (.int .u64 (hi r'))).setCell ⟨w0.heap.size + 1 + 1 + 1, 1, none⟩ (.int .u64 (lo r'))) := by
  obtain ⟨c1, c2, c3, c4, c5, c6, c7, c8, f1, f2, f3, f4, b, z⟩ := h
  refine ⟨by simp [go_sem, *], by simp [go_sem, *], by simp [go_sem, *], by simp [go_sem, *], by simp [go_sem, *], by simp [go_sem, *], by simp [go_sem, *], by simp [go_sem, *], by simp [go_sem, *], by simp [go_sem, *], by simp [go_sem, *], by simp [go_sem, *], ?_, by simp [go_sem, *]⟩
  exact (((b.setCell (by simp; omega) _).setCell (by simp; omega) _).setCell (by simp; omega) _).setCell (by simp; omega) _
set_option maxHeartbeats 4000000 in
theorem divide_any (n d : Int) (w : World) (h : U n) (k : U d) (h0 : d ≠ 0) : Calls Try.prog 126 #[Sv n, Sv d] w fun e w' => e = .returned (.tuple #[Sv (n / d), Sv (n % d)]) ∧ Below w.heap.size w w' := by
  have bn := bl_le h
  have bd := bl_le k
  have H := Lib.hid (And.intro h k)
  have S0 := Lib.hid (dinv_start h k h0)
  have d0 : 0 < d := by rw [U_iff] at k; omega
  have D0 := Lib.hid d0
  clear h k h0 d0
  go_enter Try.func126, Try.ntmps126
  go_wp2
  go_step3
  go_wp2
  go_step3
  go_wp2
  go_upto_region 2 with fail
  go_cut [6] (fun s6 wx => s6 = .int .i64 (bl n - bl d) ∧ DivAt w n d 0 n wx)
  case first =>
    go_region_held3 (fun w' => w'.cell? ⟨w.heap.size, 0, none⟩ = some (.int .u64 (hi n)) ∧ w'.cell? ⟨w.heap.size, 1, none⟩ = some (.int .u64 (lo n)) ∧ w'.cell? ⟨w.heap.size + 1, 0, none⟩ = some (.int .u64 (hi d)) ∧ w'.cell? ⟨w.heap.size + 1, 1, none⟩ = some (.int .u64 (lo d))) (simp [go_sem])
        (first
        | (go_at_call 137; (with_reducible refine (length_any n _ H.out.1).mono ?_); rintro e w' ⟨rfl, rfl⟩)
        | (go_at_call 137; (with_reducible refine (length_any d _ H.out.2).mono ?_); rintro e w' ⟨rfl, rfl⟩))
    all_goals
      go_wp2_with fail
      go_meet
      have e64 : IntKind.i64.wrap ((bl n : Int) - bl d) = (bl n : Int) - bl d := by have := IntWalk.i64_in ((bl n : Int) - bl d) ⟨by omega, by omega⟩; exact this
      refine ⟨by rw [e64], ?_⟩
      refine ⟨by simp [go_sem], by simp [go_sem], by simp [go_sem], by simp [go_sem], by simp [go_sem] <;> rfl, by simp [go_sem] <;> rfl, by simp [go_sem], by simp [go_sem], by simp [go_sem], by simp [go_sem], by simp [go_sem], by simp [go_sem], ?_, ?_⟩
      · repeat (first | exact Below.refl _ _ | apply Below.drew | refine Below.alloc ?_ (by first | (simp; done) | (simp; omega) | omega) _)
      · simp
  case rest =>
    obtain ⟨rfl, hD⟩ := hcut
    go_upto_block 0 with fail
    go_cut [] (fun wx => DivAt w n d (n / d) (n % d) wx)
    case rest =>
      clear hD
      obtain ⟨c1, c2, c3, c4, c5, c6, c7, c8, f1, f2, f3, f4, hbw, hz0⟩ := hcut
      go_wp2
      go_region
      go_wp2
      try rw [Exit.noGoto_ret]
      refine bodyPost_ret (v := .tuple #[Sv (n / d), Sv (n % d)]) (by simp [results, Try.results126, go_sem, c5, c6, c7, c8]) rfl ⟨rfl, ?_⟩
      repeat (first | exact Below.refl _ _ | assumption | apply Below.drew | refine Below.setCell ?_ (by first | (simp; done) | (simp; omega) | omega) _ | refine Below.alloc ?_ (by first | (simp; done) | (simp; omega) | omega) _)
    case first =>
    go_wp2_with fail
    go_loopw [6] (fun s6 wr => ∃ a q r : Int, s6 = .int .i64 a ∧ DInv n d a q r ∧ DivAt w n d q r wr) (fun s6 _ => (intOf s6 + 1).toNat)
    case atStart => exact ⟨_, 0, n, rfl, S0.out, hD⟩
    case round =>
      obtain ⟨a, q, r, rfl, hI, hD⟩ := hrel
      have hD0 := hD
      obtain ⟨c1, c2, c3, c4, c5, c6, c7, c8, f1, f2, f3, f4, hbw, hz0⟩ := hD
      have HD := Lib.hid hD0
      clear hD0
      have hy2 : w.heap.size + 1 + 1 < wr.heap.size := by omega
      have hy1 : w.heap.size + 1 < wr.heap.size := by omega
      have hy0 : w.heap.size < wr.heap.size := by omega
      have I := Lib.hid hI
      have a0 : -200 ≤ a := hI.1
      have a1 : a ≤ 127 := hI.2.1
      clear hI
      by_cases ha : a < 0
      · go_wp2
        go_meet
        rw [← (dinv_end I.out ha D0.out).1, ← (dinv_end I.out ha D0.out).2]
        exact HD.out
      · obtain ⟨k, rfl⟩ := Int.eq_ofNat_of_zero_le (show 0 ≤ a by omega)
        have st1 := dinv_step I.out D0.out
        obtain ⟨st, est⟩ : ∃ st, st = d * 2 ^ k := ⟨_, rfl⟩
        have ST := Lib.hid (And.intro st1 est)
        have LC := Lib.hid (fun W => (show ws (d * 2 ^ k) = st by rw [st1.2.1, est]) ▸ left_any d k W H.out.2 st1.1)
        have hq := dinv_sizes I.out H.out.1 D0.out
        have BC := Lib.hid (fun W => withBit_any q k W hq.1 st1.1 st1.2.2)
        have UR := Lib.hid hq.2
        clear st1 est hq ha
        rcases Int.lt_trichotomy r st with g | g | g
        · have e1 := sg_lt g
          have G := Lib.hid g
          clear g
          go_wp2_with (first | (go_at_call 127; (with_reducible refine (LC.out _).mono ?_); rintro e w1 ⟨rfl, hb1⟩; obtain ⟨hc1, hf1⟩ := bcell hb1; have hz1 : w.heap.size < w1.heap.size := bsz hb1 (by first | omega | (simp; done) | (simp; omega)); have hz1b : w.heap.size + 1 < w1.heap.size := bsz hb1 (by first | omega | (simp; done) | (simp; omega)); have hz1c : w.heap.size + 1 + 1 < w1.heap.size := bsz hb1 (by first | omega | (simp; done) | (simp; omega)); have hz1d : w.heap.size + 1 + 1 + 1 < w1.heap.size := bsz hb1 (by first | omega | (simp; done) | (simp; omega))) | (go_at_call 128; (with_reducible refine (compare_any r st _).mono ?_); rintro e w2 ⟨rfl, hb2⟩; obtain ⟨hc2, hf2⟩ := bcell hb2; have hz2 : w.heap.size < w2.heap.size := bsz hb2 (by first | omega | (simp; done) | (simp; omega)); have hz2b : w.heap.size + 1 < w2.heap.size := bsz hb2 (by first | omega | (simp; done) | (simp; omega)); have hz2c : w.heap.size + 1 + 1 < w2.heap.size := bsz hb2 (by first | omega | (simp; done) | (simp; omega)); have hz2d : w.heap.size + 1 + 1 + 1 < w2.heap.size := bsz hb2 (by first | omega | (simp; done) | (simp; omega))))
          refine ⟨⟨(k : Int) - 1, q, r, rfl, dinv_down I.out (by rw [← ST.out.2]; exact G.out) D0.out, ((HD.out.below hb1).alloc _).below hb2⟩, by simp [intOf]⟩
        · have e1 : sg r st = 0 := g ▸ sg_eq r
          have G := Lib.hid g
          clear g
          obtain ⟨t, et⟩ : ∃ t, t = q + 2 ^ k := ⟨_, rfl⟩
          rw [← et] at BC
          have ET := Lib.hid et
          clear et
          go_wp2_with (first | (go_at_call 127; (with_reducible refine (LC.out _).mono ?_); rintro e w1 ⟨rfl, hb1⟩; obtain ⟨hc1, hf1⟩ := bcell hb1; have hz1 : w.heap.size < w1.heap.size := bsz hb1 (by first | omega | (simp; done) | (simp; omega)); have hz1b : w.heap.size + 1 < w1.heap.size := bsz hb1 (by first | omega | (simp; done) | (simp; omega)); have hz1c : w.heap.size + 1 + 1 < w1.heap.size := bsz hb1 (by first | omega | (simp; done) | (simp; omega)); have hz1d : w.heap.size + 1 + 1 + 1 < w1.heap.size := bsz hb1 (by first | omega | (simp; done) | (simp; omega))) | (go_at_call 128; (with_reducible refine (compare_any r st _).mono ?_); rintro e w2 ⟨rfl, hb2⟩; obtain ⟨hc2, hf2⟩ := bcell hb2; have hz2 : w.heap.size < w2.heap.size := bsz hb2 (by first | omega | (simp; done) | (simp; omega)); have hz2b : w.heap.size + 1 < w2.heap.size := bsz hb2 (by first | omega | (simp; done) | (simp; omega)); have hz2c : w.heap.size + 1 + 1 < w2.heap.size := bsz hb2 (by first | omega | (simp; done) | (simp; omega)); have hz2d : w.heap.size + 1 + 1 + 1 < w2.heap.size := bsz hb2 (by first | omega | (simp; done) | (simp; omega))) | (go_at_call 148; (with_reducible refine (BC.out _).mono ?_); rintro e w3 ⟨rfl, hb3⟩; obtain ⟨hc3, hf3⟩ := bcell hb3; have hz3 : w.heap.size < w3.heap.size := bsz hb3 (by first | omega | (simp; done) | (simp; omega)); have hz3b : w.heap.size + 1 < w3.heap.size := bsz hb3 (by first | omega | (simp; done) | (simp; omega)); have hz3c : w.heap.size + 1 + 1 < w3.heap.size := bsz hb3 (by first | omega | (simp; done) | (simp; omega)); have hz3d : w.heap.size + 1 + 1 + 1 < w3.heap.size := bsz hb3 (by first | omega | (simp; done) | (simp; omega))))
          go_meet
          rw [← (dinv_hit I.out (G.out.trans ST.out.2) D0.out).1, ← (dinv_hit I.out (G.out.trans ST.out.2) D0.out).2, ← ET.out]
          exact ((((HD.out.below hb1).alloc _).below hb2).below hb3).put t 0
        · have e1 := sg_gt g
          have G := Lib.hid g
          clear g
          obtain ⟨t, et⟩ : ∃ t, t = q + 2 ^ k := ⟨_, rfl⟩
          rw [← et] at BC
          obtain ⟨v, ev⟩ : ∃ v, v = r - st := ⟨_, rfl⟩
          have up := dinv_up I.out (by rw [← ST.out.2]; exact G.out) H.out.1 D0.out
          rw [← ST.out.2, ← ev, ← et] at up
          have US : U st := by rw [ST.out.2, ← ST.out.1.2.1]; exact U_ws _
          have hv : ws (r - st) = v := by rw [ev]; exact ws_in (by have := UR.out; have g := G.out; simp only [U_iff] at *; omega)
          have SC := Lib.hid (fun W => hv ▸ less_any r st W UR.out US)
          have UP := Lib.hid up
          clear up et ev US hv
          go_wp2_with (first | (go_at_call 127; (with_reducible refine (LC.out _).mono ?_); rintro e w1 ⟨rfl, hb1⟩; obtain ⟨hc1, hf1⟩ := bcell hb1; have hz1 : w.heap.size < w1.heap.size := bsz hb1 (by first | omega | (simp; done) | (simp; omega)); have hz1b : w.heap.size + 1 < w1.heap.size := bsz hb1 (by first | omega | (simp; done) | (simp; omega)); have hz1c : w.heap.size + 1 + 1 < w1.heap.size := bsz hb1 (by first | omega | (simp; done) | (simp; omega)); have hz1d : w.heap.size + 1 + 1 + 1 < w1.heap.size := bsz hb1 (by first | omega | (simp; done) | (simp; omega))) | (go_at_call 128; (with_reducible refine (compare_any r st _).mono ?_); rintro e w2 ⟨rfl, hb2⟩; obtain ⟨hc2, hf2⟩ := bcell hb2; have hz2 : w.heap.size < w2.heap.size := bsz hb2 (by first | omega | (simp; done) | (simp; omega)); have hz2b : w.heap.size + 1 < w2.heap.size := bsz hb2 (by first | omega | (simp; done) | (simp; omega)); have hz2c : w.heap.size + 1 + 1 < w2.heap.size := bsz hb2 (by first | omega | (simp; done) | (simp; omega)); have hz2d : w.heap.size + 1 + 1 + 1 < w2.heap.size := bsz hb2 (by first | omega | (simp; done) | (simp; omega))))
          have HD2 := ((HD.out.below hb1).alloc (.cells #[.int .u64 (hi st), .int .u64 (lo st)] 178)).below hb2
          have s0 : w2.cell? ⟨w1.heap.size, 0, none⟩ = some (.int .u64 (hi st)) := cell_on hb2 (World.cell?_alloc_new _ _ _ _)
          have s1 : w2.cell? ⟨w1.heap.size, 1, none⟩ = some (.int .u64 (lo st)) := cell_on hb2 (World.cell?_alloc_new _ _ _ _)
          have HD3 := Lib.hid HD2
          obtain ⟨x1, x2, x3, x4, x5, x6, x7, x8, y1, y2, y3, y4, hbx, hx0⟩ := HD2
          clear c1 c2 c3 c4 c5 c6 c7 c8 f1 f2 f3 f4 hc1 hf1 hc2 hf2
          go_region_with (first | (go_at_call 148; (with_reducible refine (BC.out _).mono ?_); rintro e w3 ⟨rfl, hb3⟩; (first | have D3 := Lib.hid (HD3.out.drew.below hb3) | have D3 := Lib.hid (D4.out.below hb3)); (first | have t0 := cell_on hb3 (drew_on s0) | have t0 := cell_on hb3 r0); (first | have t1 := cell_on hb3 (drew_on s1) | have t1 := cell_on hb3 r1); obtain ⟨z1, z2, z3, z4, z5, z6, z7, z8, v1, v2, v3, v4, hbz, hz0⟩ := D3.out) | (go_at_call 147; (with_reducible refine (SC.out _).mono ?_); rintro e w4 ⟨rfl, hb4⟩; (first | have D4 := Lib.hid (HD3.out.drew.below hb4) | have D4 := Lib.hid (D3.out.below hb4)); (first | have r0 := cell_on hb4 (drew_on s0) | have r0 := cell_on hb4 t0); (first | have r1 := cell_on hb4 (drew_on s1) | have r1 := cell_on hb4 t1); obtain ⟨m1, m2, m3, m4, m5, m6, m7, m8, l1, l2, l3, l4, hbm, hm0⟩ := D4.out))
          all_goals
            go_wp2
            refine ⟨⟨(k : Int) - 1, t, v, rfl, UP.out.2, ?_⟩, by simp [intOf]⟩
            first | (with_reducible exact D3.out.put t v) | (with_reducible exact D4.out.put t v) | (with_reducible exact DivAt.drew (D3.out.put t v)) | (with_reducible exact DivAt.drew (D4.out.put t v))
end Go.Proofs.Ytnlfljekbknaaaa
namespace Go.Proofs.Ytnlfljekbknaaaa
open Go.RowKit

/-- Is the quotient of the sizes raised by 1? -/
def up (n d : Int) : Bool := decide (0 < sg (2 * (ab n % ab d)) (ab d)) || (decide (sg (2 * (ab n % ab d)) (ab d) = 0) && (ab n / ab d % 2 == 1))
/-- The nearest whole number to n / d, halves to even. -/
def rd (n d : Int) : Int := sd (ng n != ng d) (if up n d = true then ab n / ab d + 1 else ab n / ab d)
/-- n / d rounded down. -/
def dn (n d : Int) : Int := sd (ng n != ng d) (if ((ng n != ng d) && !(ab n % ab d == 0)) = true then ab n / ab d + 1 else ab n / ab d)

theorem ab_ne {d : Int} (h : d ≠ 0) : ab d ≠ 0 := by unfold ab; omega
theorem ab_bd {a : Int} (h : R a) : 0 ≤ ab a ∧ ab a ≤ 170141183460469231731687303715884105728 := by rw [R_iff] at h; unfold ab; omega
theorem quo_sizes {n d : Int} (hn : R n) (hd : R d) (h0 : d ≠ 0) : U (ab n / ab d) ∧ U (ab n / ab d + 1) ∧ U (ab n % ab d) ∧ U (2 * (ab n % ab d)) := by
  obtain ⟨n0, n1⟩ := ab_bd hn
  obtain ⟨d0, d1⟩ := ab_bd hd
  have dp : 0 < ab d := by have := ab_ne h0; omega
  have q0 : 0 ≤ ab n / ab d := Int.ediv_nonneg n0 d0
  have q1 : ab n / ab d ≤ ab n := Int.ediv_le_self _ n0
  have r0 := Int.emod_nonneg (ab n) (show ab d ≠ 0 by omega)
  have r1 := Int.emod_lt_of_pos (ab n) dp
  simp only [U_iff]
  omega
end Go.Proofs.Ytnlfljekbknaaaa
