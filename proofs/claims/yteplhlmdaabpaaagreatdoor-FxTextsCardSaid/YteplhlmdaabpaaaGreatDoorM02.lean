/-
  What the calls on sizes (whole numbers of 128 bits without a sign) do.
  Sizes: a bit set, a sign laid on, a whole number's size.
  What the calls on sizes do, the second half: a bit set, a sign laid on, a whole number's size.
  The long division of sizes, bit by bit: what holds at each round's head.
-/
import Derived.Test.YteplhlmdaabpaaaGreatDoorShelf
import Derived.Test.YteplhlmdaabpaaaGreatDoorM01
namespace Go.Proofs.YteplhlmdaabpaaaGreatDoor
open Go.RowKit

abbrev Sv (s : Int) : Value := .agg #[.int .u64 (hi s), .int .u64 (lo s)]
theorem sv0 : Sv 0 = .agg #[.int .u64 0, .int .u64 0] := rfl

/-- odd -/
theorem odd_any (s : Int) (w : World) : Calls Tryz.prog 133 #[Sv s] w fun e w' => e = .returned (.bool (s % 2 == 1)) ∧ Below w.heap.size w w' := by
  obtain ⟨a0, a1⟩ := lo_bd s
  have e1 := Lib.hid (show lo s % 2 = s % 2 by unfold lo; omega)
  go_enter Tryz.func133, Tryz.ntmps133
  go_wp2
  go_ret
  exact ⟨by rw [← e1.out]; rfl, (Below.refl _ _).alloc (Nat.le_refl _) _⟩

theorem next_lo (s : Int) : (lo s + 1) % 18446744073709551616 = lo (s + 1) := by unfold lo; omega
theorem next_hi {s : Int} (h : U (s + 1)) : IntKind.u64.wrap (hi s + (lo s + 1) / 18446744073709551616) = hi (s + 1) := by
  rw [U_iff] at h; rw [IntKind.wrap_u64]; unfold hi lo; omega
/-- next -/
theorem next_any (s : Int) (w : World) (h : U (s + 1)) : Calls Tryz.prog 134 #[Sv s] w fun e w' => e = .returned (Sv (s + 1)) ∧ Below w.heap.size w w' := by
  obtain ⟨a0, a1⟩ := lo_bd s
  have e1 := next_lo s
  have e2 := next_hi h
  generalize s + 1 = t at *
  clear h
  go_enter Tryz.func134, Tryz.ntmps134
  go_wp2_with (simp only [add64_0 (lo s) 1 a0 (by decide)])
  refine bodyPost_ret (v := Sv t) (by simp [results, Tryz.results134, go_sem]) rfl ⟨rfl, ?_⟩
  exact ((Below.refl _ _).alloc (Nat.le_refl _) _).alloc (by simp) _

theorem less_lo (s o : Int) : (lo s - lo o) % 18446744073709551616 = lo (ws (s - o)) := by rw [ws_lo]; unfold lo; omega
theorem less_hi (s o : Int) : (hi s - hi o - bor (lo s) (lo o)) % 18446744073709551616 = hi (ws (s - o)) := by
  rw [ws_hi]; unfold hi lo bor; split <;> omega
/-- less -/
theorem less_any (s o : Int) (w : World) (h : U s) (k : U o) : Calls Tryz.prog 128 #[Sv s, Sv o] w fun e w' => e = .returned (Sv (ws (s - o))) ∧ Below w.heap.size w w' := by
  obtain ⟨a0, a1⟩ := lo_bd s
  obtain ⟨b0, b1⟩ := lo_bd o
  have b2 : lo o < 18446744073709551616 := by omega
  obtain ⟨c0, c1⟩ := h
  obtain ⟨d0, d1⟩ := k
  have d2 : hi o < 18446744073709551616 := by omega
  obtain ⟨k0, k1⟩ := bor_bd (lo s) (lo o)
  have e1 := less_lo s o
  have e2 := less_hi s o
  generalize ws (s - o) = t at *
  go_enter Tryz.func128, Tryz.ntmps128
  go_wp2_with (first | simp only [sub64_0 (lo s) (lo o) a0 b0 b2] | simp only [sub64_b _ _ _ c0 d0 d2 k0 k1])
  refine bodyPost_ret (v := Sv t) (by simp [results, Tryz.results128, go_sem]) rfl ⟨rfl, ?_⟩
  exact (((Below.refl _ _).alloc (Nat.le_refl _) _).alloc (by simp) _).alloc (by simp; omega) _

/-- left -/
theorem left_any (s : Int) (n : Nat) (w : World) (h : U s) (h1 : n ≤ 127) : Calls Tryz.prog 124 #[Sv s, .int .i64 n] w fun e w' => e = .returned (Sv (ws (s * 2 ^ n))) ∧ Below w.heap.size w w' := by
  obtain ⟨a0, a1⟩ := lo_bd s
  by_cases g : 64 ≤ n
  · have e1 := left64_hi s n g
    have e2 := left64_lo s n g
    have e3 : (((n : Int) - 64).toNat) = n - 64 := by omega
    have H := Lib.hid (And.intro e1 (And.intro e2.symm e3))
    clear e1 e2 e3
    generalize ws (s * 2 ^ n) = t at *
    go_enter Tryz.func124, Tryz.ntmps124
    go_wp2
    refine bodyPost_ret (v := Sv t) (by simp [results, Tryz.results124, go_sem, H.out.1, H.out.2.1]) rfl ⟨rfl, ?_⟩
    exact ((Below.refl _ _).alloc (Nat.le_refl _) _).alloc (by simp) _
  · have g' : n < 64 := by omega
    have e1 := left_hi s n (by omega) h.1
    have e2 := left_lo s n
    have e3 : ((64 - (n : Int)).toNat) = 64 - n := by omega
    have H := Lib.hid (And.intro e1 (And.intro e2 e3))
    clear e1 e2 e3
    generalize ws (s * 2 ^ n) = t at *
    go_enter Tryz.func124, Tryz.ntmps124
    go_wp2
    go_region
    go_wp2
    refine bodyPost_ret (v := Sv t) (by simp [results, Tryz.results124, go_sem, H.out.1, H.out.2.1]) rfl ⟨rfl, ?_⟩
    exact (((Below.refl _ _).alloc (Nat.le_refl _) _).alloc (by simp) _).drew

/-- compare -/
theorem compare_any (a b : Int) (w : World) : Calls Tryz.prog 132 #[Sv a, Sv b] w fun e w' => e = .returned (.int .i64 (sg a b)) ∧ Below w.heap.size w w' := by
  by_cases h : hi a = hi b
  · have H := Lib.hid (sg_lo h)
    have g : (hi a != hi b) = false := by simp [h]
    have K := Lib.hid h
    clear h
    go_enter Tryz.func132, Tryz.ntmps132
    go_wp2_with (go_at_call 138; refine (compare_u64 _ _ _).mono ?_; rintro e w' ⟨rfl, rfl⟩)
    go_ret
    exact ⟨by rw [H.out]; rfl, ((Below.refl _ _).alloc (Nat.le_refl _) _).alloc (by simp) _⟩
  · have H := Lib.hid (sg_hi h)
    have g : (hi a != hi b) = true := by simp [h]
    clear h
    go_enter Tryz.func132, Tryz.ntmps132
    go_wp2_with (go_at_call 138; refine (compare_u64 _ _ _).mono ?_; rintro e w' ⟨rfl, rfl⟩)
    go_ret
    exact ⟨by rw [H.out]; rfl, ((Below.refl _ _).alloc (Nat.le_refl _) _).alloc (by simp) _⟩

/-- length -/
theorem length_any (s : Int) (w : World) (h : U s) : Calls Tryz.prog 122 #[Sv s] w fun e w' => e = .returned (.int .i64 (bl s)) ∧ w.alloc (.cells #[.int .u64 (hi s), .int .u64 (lo s)] 162) = w' := by
  obtain ⟨a0, a1⟩ := lo_bd s
  by_cases g : hi s = 0
  · have H := Lib.hid (bl_low g)
    have g' : (hi s != 0) = false := by simp [g]
    have K := Lib.hid g
    clear g h
    go_enter Tryz.func122, Tryz.ntmps122
    go_wp2_with (go_at_call 77; refine (Tryz.bits_Len64 (lo s) _ a0 a1).mono ?_; rintro e w' ⟨rfl, rfl⟩)
    go_ret
    exact ⟨by rw [← H.out]; rfl, rfl⟩
  · have H := Lib.hid (bl_high h g)
    have g' : (hi s != 0) = true := by simp [g]
    obtain ⟨c0, c1⟩ := h
    have l := bitLen_64 (hi s) c0 c1
    clear g
    go_enter Tryz.func122, Tryz.ntmps122
    go_wp2_with (go_at_call 77; refine (Tryz.bits_Len64 (hi s) _ c0 c1).mono ?_; rintro e w' ⟨rfl, rfl⟩)
    go_ret
    exact ⟨by rw [← H.out]; rfl, rfl⟩
end Go.Proofs.YteplhlmdaabpaaaGreatDoor
namespace Go.Proofs.YteplhlmdaabpaaaGreatDoor
open Go.RowKit

theorem or_add (P Q k : Int) (n : Nat) (hP : P = 2 ^ n) (hk : 0 ≤ k) (hq : Q = 2 * P * k) (hM : Q + P < 18446744073709551616) : bits BinOp.or IntKind.u64 Q P = Q + P := by
  obtain ⟨k, rfl⟩ := Int.eq_ofNat_of_zero_le hk
  have eP : P = ((2 ^ n : Nat) : Int) := by rw [hP]; simp
  have eQ : Q = ((2 ^ (n + 1) * k : Nat) : Int) := by
    rw [hq, eP, Nat.pow_succ, Int.natCast_mul, Int.natCast_mul]
    congr 1
    exact Int.mul_comm _ _
  have hM2 : ((2 ^ (n + 1) * k : Nat) : Int) + ((2 ^ n : Nat) : Int) < 18446744073709551616 := by rw [← eQ, ← eP]; exact hM
  rw [eP, eQ]
  clear eP eQ hM hP hq
  generalize hA : 2 ^ (n + 1) * k = A at *
  generalize hB : 2 ^ n = B at *
  rw [u64_or_nat A B (by omega) (by omega), ← Int.natCast_add]
  subst hA hB
  congr 1
  exact (Nat.two_pow_add_eq_or_of_lt (by rw [Nat.pow_succ]; have := Nat.two_pow_pos n; omega) k).symm
theorem or_zero (Q : Int) (h0 : 0 ≤ Q) (h1 : Q ≤ 18446744073709551615) : bits BinOp.or IntKind.u64 Q 0 = Q := by
  rw [u64_or _ _ h0 (by omega) (by decide) (by decide)]
  simp; omega

theorem bit_high (s : Int) (n : Nat) (h : U s) (g : 64 ≤ n) (h1 : n ≤ 127) (hd : s % 2 ^ (n + 1) = 0) :
    bits BinOp.or IntKind.u64 (hi s) (hi (ws (2 ^ n))) = hi (s + 2 ^ n) ∧ bits BinOp.or IntKind.u64 (lo s) (lo (ws (2 ^ n))) = lo (s + 2 ^ n) := by
  have e1 : (2 : Int) ^ n = 2 ^ (n - 64) * 18446744073709551616 := pow_split g
  have e2 : (2 : Int) ^ (n + 1) = 2 * 2 ^ (n - 64) * 18446744073709551616 := by rw [Int.pow_succ, e1]; omega
  have hp : (0 : Int) < 2 ^ (n - 64) := Int.pow_pos (by decide)
  have hp1 : (2 : Int) ^ (n - 64) ≤ 9223372036854775808 := by
    have : (2 : Int) ^ (n - 64) * 2 ^ (127 - n) = 9223372036854775808 := by rw [← Int.pow_add, show n - 64 + (127 - n) = 63 by omega]; rfl
    have q : (0 : Int) < 2 ^ (127 - n) := Int.pow_pos (by decide)
    calc (2 : Int) ^ (n - 64) = 2 ^ (n - 64) * 1 := by omega
      _ ≤ 2 ^ (n - 64) * 2 ^ (127 - n) := Int.mul_le_mul_of_nonneg_left (by omega) (by omega)
      _ = _ := this
  obtain ⟨k, hk⟩ := Int.dvd_of_emod_eq_zero hd
  rw [e2] at hk
  have hU := (U_iff s).1 h
  have eh : hi s = 2 * 2 ^ (n - 64) * k := by
    rw [hk, Int.mul_assoc _ 18446744073709551616 k, Int.mul_comm 18446744073709551616 k, ← Int.mul_assoc, hi_mul64]
  have el : lo s = 0 := by
    rw [hk, Int.mul_assoc _ 18446744073709551616 k, Int.mul_comm 18446744073709551616 k, ← Int.mul_assoc, lo_mul64]
  have k0 : 0 ≤ k := by
    rcases Int.lt_or_le k 0 with hneg | h0
    · have : 2 * 2 ^ (n - 64) * k < 0 := Int.mul_neg_of_pos_of_neg (by omega) hneg
      have := h.1
      omega
    · exact h0
  have w1 : hi (ws (2 ^ n)) = 2 ^ (n - 64) := by rw [ws_hi, e1, hi_mul64]; omega
  have w2 : lo (ws (2 ^ n)) = 0 := by rw [ws_lo, e1, lo_mul64]
  -- 2 P k + P stays below 2^64, as 2 P divides 2^64
  have hM : hi s + 2 ^ (n - 64) < 18446744073709551616 := by
    have hq : (2 : Int) * 2 ^ (n - 64) * 2 ^ (127 - n) = 18446744073709551616 := by
      have : (2 : Int) ^ (n - 64) * 2 ^ (127 - n) = 9223372036854775808 := by rw [← Int.pow_add, show n - 64 + (127 - n) = 63 by omega]; rfl
      rw [Int.mul_assoc, this]; rfl
    have hkq : k < 2 ^ (127 - n) := by
      rcases Int.lt_or_le k (2 ^ (127 - n)) with hl | hge
      · exact hl
      · have := Int.mul_le_mul_of_nonneg_left hge (show (0 : Int) ≤ 2 * 2 ^ (n - 64) by omega)
        rw [hq, ← eh] at this
        have := h.2
        omega
    have := Int.mul_le_mul_of_nonneg_left (show k + 1 ≤ 2 ^ (127 - n) by omega) (show (0 : Int) ≤ 2 * 2 ^ (n - 64) by omega)
    rw [hq, Int.mul_add, ← eh] at this
    omega
  rw [w1, w2, el]
  refine ⟨?_, ?_⟩
  · rw [or_add _ _ k (n - 64) rfl k0 eh hM, e1]; unfold hi; omega
  · rw [or_zero 0 (by decide) (by decide), e1]; unfold lo; unfold lo at el; omega

theorem bit_low (s : Int) (n : Nat) (g : n < 64) (hd : s % 2 ^ (n + 1) = 0) (h : U s) :
    bits BinOp.or IntKind.u64 (hi s) (hi (ws (2 ^ n))) = hi (s + 2 ^ n) ∧ bits BinOp.or IntKind.u64 (lo s) (lo (ws (2 ^ n))) = lo (s + 2 ^ n) := by
  have hp : (0 : Int) < 2 ^ n := Int.pow_pos (by decide)
  have hQ : (0 : Int) < 2 ^ (63 - n) := Int.pow_pos (by decide)
  have hpq : (2 : Int) * 2 ^ n * 2 ^ (63 - n) = 18446744073709551616 := by
    rw [Int.mul_assoc, ← Int.pow_add, show n + (63 - n) = 63 by omega]; rfl
  have hp1 : (2 : Int) ^ n ≤ 9223372036854775808 := by
    have := Int.mul_le_mul_of_nonneg_left (show (1 : Int) ≤ 2 ^ (63 - n) by omega) (show (0 : Int) ≤ 2 * 2 ^ n by omega)
    omega
  obtain ⟨k, hk⟩ := Int.dvd_of_emod_eq_zero hd
  have e2 : (2 : Int) ^ (n + 1) = 2 * 2 ^ n := by rw [Int.pow_succ]; omega
  rw [e2] at hk
  have el : lo s = 2 * 2 ^ n * (k % 2 ^ (63 - n)) := by
    unfold lo; rw [hk, ← hpq]; exact Int.mul_emod_mul_of_pos _ _ (by omega)
  have a0 := Int.emod_nonneg k (show (2 : Int) ^ (63 - n) ≠ 0 by omega)
  have a1 := Int.emod_lt_of_pos k hQ
  have hM : lo s + 2 ^ n < 18446744073709551616 := by
    have := Int.mul_le_mul_of_nonneg_left (show k % 2 ^ (63 - n) + 1 ≤ 2 ^ (63 - n) by omega) (show (0 : Int) ≤ 2 * 2 ^ n by omega)
    rw [hpq, Int.mul_add, ← el] at this
    omega
  have w1 : hi (ws (2 ^ n)) = 0 := by rw [ws_hi]; unfold hi; omega
  have w2 : lo (ws (2 ^ n)) = 2 ^ n := by rw [ws_lo]; unfold lo; omega
  rw [w1, w2]
  refine ⟨?_, ?_⟩
  · rw [or_zero _ h.1 h.2]; unfold hi; unfold lo at hM; omega
  · rw [or_add _ _ _ n rfl a0 el hM]; unfold lo; unfold lo at hM; omega

theorem bit_any (s : Int) (n : Nat) (h : U s) (h1 : n ≤ 127) (hd : s % 2 ^ (n + 1) = 0) :
    bits BinOp.or IntKind.u64 (hi s) (hi (ws (2 ^ n))) = hi (s + 2 ^ n) ∧ bits BinOp.or IntKind.u64 (lo s) (lo (ws (2 ^ n))) = lo (s + 2 ^ n) := by
  by_cases g : 64 ≤ n
  · exact bit_high s n h g h1 hd
  · exact bit_low s n (by omega) hd h

/-- A whole number's size. -/
def ab (a : Int) : Int := (a.natAbs : Int)
theorem U_ab {a : Int} (h : R a) : U (ab a) := by rw [R_iff] at h; rw [U_iff]; unfold ab; omega
theorem ab_of_neg {a : Int} (ha : R a) (h : ng a = true) : ws (-ws a) = ab a := by
  rw [R_iff] at ha; unfold ng at h; have := of_decide_eq_true h; unfold ws ab; omega
theorem ab_of_pos {a : Int} (ha : R a) (h : ng a = false) : ws a = ab a := by
  rw [R_iff] at ha; unfold ng at h; have := of_decide_eq_false h; unfold ws ab; omega
theorem u64_hi_ws (a : Int) : IntKind.u64.wrap (hi a) = hi (ws a) := by rw [ws_hi, IntKind.wrap_u64]
theorem lo_ws (a : Int) : lo a = lo (ws a) := (ws_lo a).symm

/-- A sign laid on a size. -/
def sd (neg : Bool) (s : Int) : Int := if neg then -s else s
theorem neg_high {s : Int} (h : (0 : Int) < sg s 170141183460469231731687303715884105728) : ¬ R (-s) := by
  rw [R_iff]; unfold sg at h; split at h
  · omega
  · split at h <;> omega
theorem neg_low {s : Int} (hU : U s) (h : ¬ (0 : Int) < sg s 170141183460469231731687303715884105728) : R (-s) ∧ wrap64 (hi (ws (-s))) = hi (-s) ∧ lo (ws (-s)) = lo (-s) := by
  rw [U_iff] at hU
  have hs : s ≤ 170141183460469231731687303715884105728 := by
    unfold sg at h; split at h
    · omega
    · split at h <;> omega
  refine ⟨by rw [R_iff]; omega, ?_, ?_⟩
  · rw [ws_hi]; unfold hi wrap64; omega
  · rw [ws_lo]
theorem pos_high {s : Int} (h : 9223372036854775808 ≤ hi s) : ¬ R s := by intro r; have := r.2; omega
theorem pos_low {s : Int} (hU : U s) (h : hi s < 9223372036854775808) : R s ∧ wrap64 (hi s) = hi s := by
  have := hU.1
  exact ⟨⟨by omega, by omega⟩, by unfold wrap64; omega⟩
end Go.Proofs.YteplhlmdaabpaaaGreatDoor
namespace Go.Proofs.YteplhlmdaabpaaaGreatDoor
open Go.RowKit

theorem svbit : Sv 1 = .agg #[.int .u64 0, .int .u64 1] := rfl
theorem svtop : Sv 170141183460469231731687303715884105728 = .agg #[.int .u64 9223372036854775808, .int .u64 0] := by
  have e1 : hi 170141183460469231731687303715884105728 = 9223372036854775808 := by decide
  have e2 : lo 170141183460469231731687303715884105728 = 0 := by decide
  show Value.agg #[.int .u64 (hi _), .int .u64 (lo _)] = _
  rw [e1, e2]

set_option maxHeartbeats 1000000 in
/-- withBit -/
theorem withBit_any (s : Int) (n : Nat) (w : World) (h : U s) (h1 : n ≤ 127) (hd : s % 2 ^ (n + 1) = 0) : Calls Tryz.prog 137 #[Sv s, .int .i64 n] w fun e w' => e = .returned (Sv (s + 2 ^ n)) ∧ Below w.heap.size w w' := by
  have C := fun W => left_any 1 n W (by decide) h1
  rw [svbit] at C
  simp only [Int.one_mul] at C
  have CH := Lib.hid C
  obtain ⟨e1, e2⟩ := bit_any s n h h1 hd
  have H := Lib.hid (And.intro e1 e2)
  clear e1 e2 hd h C
  generalize ws (2 ^ n) = b at *
  generalize s + 2 ^ n = t at *
  go_enter Tryz.func137, Tryz.ntmps137
  go_wp2_with (go_at_call 124; (with_reducible refine (CH.out _).mono ?_); rintro e w' ⟨rfl, hb⟩; obtain ⟨hc, hf⟩ := bcell hb; have hz0 : w.heap.size < w'.heap.size := bsz hb (by first | omega | (simp; done) | (simp; omega)); have hz1 : w.heap.size + 1 < w'.heap.size := bsz hb (by first | omega | (simp; done) | (simp; omega)))
  refine bodyPost_ret (v := Sv t) (by simp [results, Tryz.results137, go_sem, H.out.1, H.out.2, hc, hz1]) rfl ⟨rfl, ?_⟩
  repeat (first | exact Below.refl _ _ | apply Below.drew | refine Below.setCell ?_ (by first | (simp; done) | (simp; omega) | omega) _ | refine Below.alloc ?_ (by first | (simp; done) | (simp; omega) | omega) _ | refine Below.trans ?_ (hb.mono (by first | (simp; done) | (simp; omega) | omega)))

set_option maxHeartbeats 1000000 in
/-- negated -/
theorem negated_any (s : Int) (w : World) (h : U s) : Calls Tryz.prog 129 #[Sv s] w fun e w' => e = .returned (.tuple #[Wv (told (-s)), .int .i64 (over (-s))]) ∧ Below w.heap.size w w' := by
  have CH := Lib.hid (fun W => svtop ▸ compare_any s 170141183460469231731687303715884105728 W)
  have DH := Lib.hid (fun W => Int.zero_sub s ▸ sv0 ▸ less_any 0 s W (by decide) h)
  by_cases g : (0 : Int) < sg s 170141183460469231731687303715884105728
  · have r := Lib.hid (And.intro (told_out (neg_high g)) (over_out (neg_high g)))
    generalize sg s 170141183460469231731687303715884105728 = c at *
    clear h
    go_enter Tryz.func129, Tryz.ntmps129
    go_wp2_with (go_at_call 132; (with_reducible refine (CH.out _).mono ?_); rintro e w' ⟨rfl, hb⟩; obtain ⟨hc, hf⟩ := bcell hb; have hz0 : w.heap.size < w'.heap.size := bsz hb (by first | omega | (simp; done) | (simp; omega)); have hz1 : w.heap.size + 1 < w'.heap.size := bsz hb (by first | omega | (simp; done) | (simp; omega)))
    refine bodyPost_ret (v := .tuple #[.agg #[.int .i64 0, .int .u64 0], .int .i64 3]) (by simp [results, Tryz.results129, go_sem, hc]) rfl ⟨by rw [r.out.1, r.out.2] <;> rfl, ?_⟩
    repeat (first | exact Below.refl _ _ | apply Below.drew | refine Below.setCell ?_ (by first | (simp; done) | (simp; omega) | omega) _ | refine Below.alloc ?_ (by first | (simp; done) | (simp; omega) | omega) _ | refine Below.trans ?_ (hb.mono (by first | (simp; done) | (simp; omega) | omega)))
  · obtain ⟨r1, r2, r3⟩ := neg_low h g
    have r := Lib.hid (And.intro (told_in r1) (over_in r1))
    have H := Lib.hid (And.intro r2 r3)
    clear h r1 r2 r3
    generalize sg s 170141183460469231731687303715884105728 = c at *
    go_enter Tryz.func129, Tryz.ntmps129
    go_wp2_with (first | (go_at_call 132; (with_reducible refine (CH.out _).mono ?_); rintro e w' ⟨rfl, hb⟩; obtain ⟨hc, hf⟩ := bcell hb; have hz0 : w.heap.size < w'.heap.size := bsz hb (by first | omega | (simp; done) | (simp; omega)); have hz1 : w.heap.size + 1 < w'.heap.size := bsz hb (by first | omega | (simp; done) | (simp; omega))) | (go_at_call 128; (with_reducible refine (DH.out _).mono ?_); rintro e w2 ⟨rfl, hb2⟩; obtain ⟨hc2, hf2⟩ := bcell hb2; have hz2 : w.heap.size < w2.heap.size := bsz hb2 (by first | omega | (simp; done) | (simp; omega)); have hz3 : w.heap.size + 1 < w2.heap.size := bsz hb2 (by first | omega | (simp; done) | (simp; omega))))
    refine bodyPost_ret (v := .tuple #[Wv (-s), .int .i64 0]) (by simp [results, Tryz.results129, go_sem, hc, hz1, hc2, hz3, H.out.1, H.out.2]) rfl ⟨by rw [r.out.1, r.out.2] <;> rfl, ?_⟩
    repeat (first | exact Below.refl _ _ | apply Below.drew | refine Below.setCell ?_ (by first | (simp; done) | (simp; omega) | omega) _ | refine Below.alloc ?_ (by first | (simp; done) | (simp; omega) | omega) _ | refine Below.trans ?_ (hb2.mono (by first | (simp; done) | (simp; omega) | omega)) | refine Below.trans ?_ (hb.mono (by first | (simp; done) | (simp; omega) | omega)))

set_option maxHeartbeats 1000000 in
/-- signed -/
theorem signed_any (s : Int) (neg : Bool) (w : World) (h : U s) : Calls Tryz.prog 123 #[Sv s, .bool neg] w fun e w' => e = .returned (.tuple #[Wv (told (sd neg s)), .int .i64 (over (sd neg s))]) ∧ Below w.heap.size w w' := by
  cases neg with
  | true =>
    have CH := Lib.hid (fun W => negated_any s W h)
    have e0 := Lib.hid (show sd true s = -s from rfl)
    clear h
    generalize sd true s = t at *
    go_enter Tryz.func123, Tryz.ntmps123
    go_wp2_with (go_at_call 129; (with_reducible refine (CH.out _).mono ?_); rintro e w' ⟨rfl, hb⟩; obtain ⟨hc, hf⟩ := bcell hb; have hz0 : w.heap.size < w'.heap.size := bsz hb (by first | omega | (simp; done) | (simp; omega)); have hz1 : w.heap.size + 1 < w'.heap.size := bsz hb (by first | omega | (simp; done) | (simp; omega)))
    refine bodyPost_ret (v := .tuple #[Wv (told (-s)), .int .i64 (over (-s))]) (by simp [results, Tryz.results123, go_sem, hc]) rfl ⟨by rw [e0.out], ?_⟩
    repeat (first | exact Below.refl _ _ | apply Below.drew | refine Below.setCell ?_ (by first | (simp; done) | (simp; omega) | omega) _ | refine Below.alloc ?_ (by first | (simp; done) | (simp; omega) | omega) _ | refine Below.trans ?_ (hb.mono (by first | (simp; done) | (simp; omega) | omega)))
  | false =>
    have e0 := Lib.hid (show sd false s = s from rfl)
    by_cases g : 9223372036854775808 ≤ hi s
    · have r := Lib.hid (And.intro (told_out (pos_high g)) (over_out (pos_high g)))
      clear h
      generalize sd false s = t at *
      go_enter Tryz.func123, Tryz.ntmps123
      go_wp2
      refine bodyPost_ret (v := .tuple #[.agg #[.int .i64 0, .int .u64 0], .int .i64 3]) (by simp [results, Tryz.results123, go_sem]) rfl ⟨by rw [e0.out, r.out.1, r.out.2] <;> rfl, ?_⟩
      repeat (first | exact Below.refl _ _ | apply Below.drew | refine Below.setCell ?_ (by first | (simp; done) | (simp; omega) | omega) _ | refine Below.alloc ?_ (by first | (simp; done) | (simp; omega) | omega) _)
    · have g' : hi s < 9223372036854775808 := by omega
      obtain ⟨r1, r2⟩ := pos_low h g'
      have r := Lib.hid (And.intro (told_in r1) (And.intro (over_in r1) r2))
      have g0 := h.1
      clear h r1 r2 g
      generalize sd false s = t at *
      go_enter Tryz.func123, Tryz.ntmps123
      go_wp2
      refine bodyPost_ret (v := .tuple #[Wv s, .int .i64 0]) (by simp [results, Tryz.results123, go_sem]) rfl ⟨by rw [e0.out, r.out.1, r.out.2.1] <;> rfl, ?_⟩
      repeat (first | exact Below.refl _ _ | apply Below.drew | refine Below.setCell ?_ (by first | (simp; done) | (simp; omega) | omega) _ | refine Below.alloc ?_ (by first | (simp; done) | (simp; omega) | omega) _)

set_option maxHeartbeats 1000000 in
/-- sizeOf -/
theorem sizeOf_any (a : Int) (w : World) (ha : R a) : Calls Tryz.prog 121 #[Wv a] w fun e w' => e = .returned (Sv (ab a)) ∧ Below w.heap.size w w' := by
  have DH := Lib.hid (fun W => Int.zero_sub (ws a) ▸ sv0 ▸ less_any 0 (ws a) W (by decide) (U_ws a))
  have l1 := lo_ws a
  have l2 := u64_hi_ws a
  cases g : ng a with
  | true =>
    have E := Lib.hid (ab_of_neg ha g)
    have LH := Lib.hid (And.intro l1 l2)
    clear ha l1 l2
    generalize ws a = u at *
    go_enter Tryz.func121, Tryz.ntmps121
    go_wp2_with (first | (go_at_call 125; (with_reducible refine (below_any a _).mono ?_); rintro e w' ⟨rfl, rfl⟩) | (rw [LH.out.1, LH.out.2]; go_at_call 128; (with_reducible refine (DH.out _).mono ?_); rintro e w2 ⟨rfl, hb⟩; obtain ⟨hc, hf⟩ := bcell hb; have hz0 : w.heap.size < w2.heap.size := bsz hb (by first | omega | (simp; done) | (simp; omega)); have hz1 : w.heap.size + 1 < w2.heap.size := bsz hb (by first | omega | (simp; done) | (simp; omega))))
    refine bodyPost_ret (v := Sv (ws (-u))) (by simp [results, Tryz.results121, go_sem, hc]) rfl ⟨by rw [E.out] <;> rfl, ?_⟩
    repeat (first | exact Below.refl _ _ | apply Below.drew | refine Below.setCell ?_ (by first | (simp; done) | (simp; omega) | omega) _ | refine Below.alloc ?_ (by first | (simp; done) | (simp; omega) | omega) _ | refine Below.trans ?_ (hb.mono (by first | (simp; done) | (simp; omega) | omega)))
  | false =>
    have E := Lib.hid (ab_of_pos ha g)
    have LH := Lib.hid (And.intro l1 l2)
    clear ha l1 l2
    generalize ws a = u at *
    go_enter Tryz.func121, Tryz.ntmps121
    go_wp2_with (first | (go_at_call 125; (with_reducible refine (below_any a _).mono ?_); rintro e w' ⟨rfl, rfl⟩))
    refine bodyPost_ret (v := Sv u) (by simp [results, Tryz.results121, go_sem, LH.out.1, LH.out.2]) rfl ⟨by rw [E.out] <;> rfl, ?_⟩
    repeat (first | exact Below.refl _ _ | apply Below.drew | refine Below.setCell ?_ (by first | (simp; done) | (simp; omega) | omega) _ | refine Below.alloc ?_ (by first | (simp; done) | (simp; omega) | omega) _)
end Go.Proofs.YteplhlmdaabpaaaGreatDoor
namespace Go.Proofs.YteplhlmdaabpaaaGreatDoor

def DInv (n d a q r : Int) : Prop :=
  -200 ≤ a ∧ a ≤ 127 ∧ 0 ≤ q ∧ 0 ≤ r ∧ n = q * d + r ∧ r < d * 2 ^ (a + 1).toNat ∧ q % 2 ^ (a + 1).toNat = 0 ∧ (0 ≤ a → d * 2 ^ a.toNat ≤ 340282366920938463463374607431768211455)

theorem pow128 : (2 : Int) ^ 128 = 340282366920938463463374607431768211456 := by decide
theorem pow_mono {m n : Nat} (h : m ≤ n) : (2 : Int) ^ m ≤ 2 ^ n := by
  obtain ⟨k, rfl⟩ := Nat.exists_eq_add_of_le h
  rw [Int.pow_add]
  have h1 : (0 : Int) < 2 ^ m := Int.pow_pos (by decide)
  have h2 : (0 : Int) < 2 ^ k := Int.pow_pos (by decide)
  have := Int.mul_le_mul_of_nonneg_left (show (1 : Int) ≤ 2 ^ k by omega) (show (0 : Int) ≤ 2 ^ m by omega)
  omega
theorem dinv_start {n d : Int} (h : U n) (k : U d) (h0 : d ≠ 0) : DInv n d (bl n - bl d) 0 n := by
  have hn := (U_iff n).1 h
  have hd := (U_iff d).1 k
  have ln := bl_le h
  have ld := bl_le k
  obtain ⟨d1, d2, d3⟩ := bl_bd k h0
  by_cases z : n = 0
  · subst z
    rw [bl_zero]
    have e : (((0 : Nat) : Int) - bl d + 1).toNat = 0 := by omega
    refine ⟨by omega, by omega, by decide, by decide, by omega, ?_, ?_, fun h => by omega⟩
    · rw [e]; simp; omega
    · rw [e]; simp
  · obtain ⟨n1, n2, n3⟩ := bl_bd h z
    refine ⟨by omega, by omega, by decide, by omega, by omega, ?_, by simp, ?_⟩
    · have m := pow_mono (show bl n ≤ (bl d - 1) + ((bl n : Int) - bl d + 1).toNat by omega)
      rw [Int.pow_add] at m
      have := Int.mul_le_mul_of_nonneg_right d2 (show (0 : Int) ≤ 2 ^ ((bl n : Int) - bl d + 1).toNat from Int.le_of_lt (Int.pow_pos (by decide)))
      omega
    · intro hge
      have m := pow_mono (show bl d + ((bl n : Int) - bl d).toNat ≤ 128 by omega)
      rw [Int.pow_add, pow128] at m
      have hp : (0 : Int) < 2 ^ ((bl n : Int) - bl d).toNat := Int.pow_pos (by decide)
      have := Int.mul_le_mul_of_nonneg_right (show d + 1 ≤ 2 ^ bl d by omega) (Int.le_of_lt hp)
      rw [Int.add_mul] at this
      omega
theorem dinv_sizes {n d a q r : Int} (h : DInv n d a q r) (hn : U n) (h0 : 0 < d) : U q ∧ U r := by
  obtain ⟨_, _, q0, r0, e, _, _, _⟩ := h
  simp only [U_iff] at *
  have : q * 1 ≤ q * d := Int.mul_le_mul_of_nonneg_left (by omega) q0
  omega
theorem dinv_step {n d q r : Int} {k : Nat} (h : DInv n d k q r) (h0 : 0 < d) : k ≤ 127 ∧ ws (d * 2 ^ k) = d * 2 ^ k ∧ q % 2 ^ (k + 1) = 0 := by
  obtain ⟨_, k1, _, _, _, _, m, s⟩ := h
  have s' := s (by omega)
  rw [Int.toNat_natCast] at s'
  rw [show ((k : Int) + 1).toNat = k + 1 by omega] at m
  have : (0 : Int) < d * 2 ^ k := Int.mul_pos h0 (Int.pow_pos (by decide))
  exact ⟨by omega, ws_in ((U_iff _).2 ⟨by omega, s'⟩), m⟩
theorem dinv_end {n d a q r : Int} (h : DInv n d a q r) (ha : a < 0) (h0 : 0 < d) : q = n / d ∧ r = n % d := by
  obtain ⟨_, _, q0, r0, e, l, _, _⟩ := h
  rw [show (a + 1).toNat = 0 by omega, Int.pow_zero, Int.mul_one] at l
  have := (Int.ediv_emod_unique h0 (a := n) (r := r) (q := q)).2 ⟨by rw [e, Int.mul_comm d q]; omega, r0, l⟩
  exact ⟨this.1.symm, this.2.symm⟩
theorem dinv_hit {n d q r : Int} {k : Nat} (h : DInv n d k q r) (he : r = d * 2 ^ k) (h0 : 0 < d) : q + 2 ^ k = n / d ∧ 0 = n % d := by
  obtain ⟨_, _, q0, r0, e, l, _, _⟩ := h
  have := (Int.ediv_emod_unique h0 (a := n) (r := 0) (q := q + 2 ^ k)).2 ⟨by rw [e, he, Int.mul_comm q d, ← Int.mul_add]; omega, by omega, h0⟩
  exact ⟨this.1.symm, this.2.symm⟩
theorem dinv_up {n d q r : Int} {k : Nat} (h : DInv n d k q r) (hg : d * 2 ^ k < r) (hn : U n) (h0 : 0 < d) : ws (r - d * 2 ^ k) = r - d * 2 ^ k ∧ DInv n d (k - 1) (q + 2 ^ k) (r - d * 2 ^ k) := by
  have hU := (dinv_sizes h hn h0).2
  obtain ⟨a0, a1, q0, r0, e, l, m, s⟩ := h
  have hp : (0 : Int) < 2 ^ k := Int.pow_pos (by decide)
  have hdp : (0 : Int) < d * 2 ^ k := Int.mul_pos h0 hp
  rw [show ((k : Int) + 1).toNat = k + 1 by omega] at l m
  rw [Int.pow_succ] at l m
  refine ⟨ws_in (by rw [U_iff] at *; omega), by omega, by omega, by omega, by omega, ?_, ?_, ?_, ?_⟩
  · rw [Int.add_mul, Int.mul_comm (2 ^ k) d, e]; omega
  · rw [show ((k : Int) - 1 + 1).toNat = k by omega]
    rw [← Int.mul_assoc] at l; omega
  · rw [show ((k : Int) - 1 + 1).toNat = k by omega]
    have : q % 2 ^ k = 0 := Int.emod_eq_zero_of_dvd (Int.dvd_trans (Int.dvd_mul_right _ _) (Int.dvd_of_emod_eq_zero m))
    rw [Int.add_emod, this, Int.emod_self]; simp
  · intro hk
    have s' := s (by omega)
    rw [Int.toNat_natCast] at s'
    obtain ⟨j, rfl⟩ : ∃ j, k = j + 1 := ⟨k - 1, by omega⟩
    rw [show (((j + 1 : Nat) : Int) - 1).toNat = j by omega]
    rw [Int.pow_succ, ← Int.mul_assoc] at s'
    have : (0 : Int) < d * 2 ^ j := Int.mul_pos h0 (Int.pow_pos (by decide))
    omega
theorem dinv_down {n d q r : Int} {k : Nat} (h : DInv n d k q r) (hg : r < d * 2 ^ k) (h0 : 0 < d) : DInv n d (k - 1) q r := by
  obtain ⟨a0, a1, q0, r0, e, l, m, s⟩ := h
  have hp : (0 : Int) < 2 ^ k := Int.pow_pos (by decide)
  rw [show ((k : Int) + 1).toNat = k + 1 by omega] at l m
  rw [Int.pow_succ] at l m
  refine ⟨by omega, by omega, q0, r0, e, ?_, ?_, ?_⟩
  · rw [show ((k : Int) - 1 + 1).toNat = k by omega]; exact hg
  · rw [show ((k : Int) - 1 + 1).toNat = k by omega]
    exact Int.emod_eq_zero_of_dvd (Int.dvd_trans (Int.dvd_mul_right _ _) (Int.dvd_of_emod_eq_zero m))
  · intro hk
    have s' := s (by omega)
    rw [Int.toNat_natCast] at s'
    obtain ⟨j, rfl⟩ : ∃ j, k = j + 1 := ⟨k - 1, by omega⟩
    rw [show (((j + 1 : Nat) : Int) - 1).toNat = j by omega]
    rw [Int.pow_succ, ← Int.mul_assoc] at s'
    have : (0 : Int) < d * 2 ^ j := Int.mul_pos h0 (Int.pow_pos (by decide))
    omega
end Go.Proofs.YteplhlmdaabpaaaGreatDoor
