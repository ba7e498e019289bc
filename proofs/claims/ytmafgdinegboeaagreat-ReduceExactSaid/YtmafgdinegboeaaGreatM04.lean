/-
  What the calls on sizes (whole numbers of 128 bits without a sign) do.
  What the calls on sizes do, the second half: a bit set, a sign laid on, a whole number's size.
  The long division of sizes, bit by bit: what holds at each round's head.
  The long division of sizes.
-/
import Derived.Test.YtmafgdinegboeaaGreatShelf
import Derived.WalkMore
import Derived.Deep.LoopGhost
import Derived.LoopTactic
import Derived.Deep.DeepCutAuto
import Derived.Deep.CutBlock
import Derived.Test.YtmafgdinegboeaaGreatM02
import Derived.Test.YtmafgdinegboeaaGreatM03
namespace Go.Proofs.YtmafgdinegboeaaGreat
open Go.RowKit

abbrev Sv (s : Int) : Value := .agg #[.int .u64 (hi s), .int .u64 (lo s)]
theorem sv0 : Sv 0 = .agg #[.int .u64 0, .int .u64 0] := rfl

/-- odd -/
theorem odd_any (s : Int) (w : World) : Calls Tryz.prog 140 #[Sv s] w fun e w' => e = .returned (.bool (s % 2 == 1)) ∧ Below w.heap.size w w' := by
  obtain ⟨a0, a1⟩ := lo_bd s
  have e1 := Lib.hid (show lo s % 2 = s % 2 by unfold lo; omega)
  go_enter Tryz.func140, Tryz.ntmps140
  go_wp2
  go_ret
  exact ⟨by rw [← e1.out]; rfl, (Below.refl _ _).alloc (Nat.le_refl _) _⟩

theorem next_lo (s : Int) : (lo s + 1) % 18446744073709551616 = lo (s + 1) := by unfold lo; omega
theorem next_hi {s : Int} (h : U (s + 1)) : IntKind.u64.wrap (hi s + (lo s + 1) / 18446744073709551616) = hi (s + 1) := by
  rw [U_iff] at h; rw [IntKind.wrap_u64]; unfold hi lo; omega
/-- next -/
theorem next_any (s : Int) (w : World) (h : U (s + 1)) : Calls Tryz.prog 141 #[Sv s] w fun e w' => e = .returned (Sv (s + 1)) ∧ Below w.heap.size w w' := by
  obtain ⟨a0, a1⟩ := lo_bd s
  have e1 := next_lo s
  have e2 := next_hi h
  generalize s + 1 = t at *
  clear h
  go_enter Tryz.func141, Tryz.ntmps141
  go_wp2_with (simp only [add64_0 (lo s) 1 a0 (by decide)])
  refine bodyPost_ret (v := Sv t) (by simp [results, Tryz.results141, go_sem]) rfl ⟨rfl, ?_⟩
  exact ((Below.refl _ _).alloc (Nat.le_refl _) _).alloc (by simp) _

theorem less_lo (s o : Int) : (lo s - lo o) % 18446744073709551616 = lo (ws (s - o)) := by rw [ws_lo]; unfold lo; omega
theorem less_hi (s o : Int) : (hi s - hi o - bor (lo s) (lo o)) % 18446744073709551616 = hi (ws (s - o)) := by
  rw [ws_hi]; unfold hi lo bor; split <;> omega
/-- less -/
theorem less_any (s o : Int) (w : World) (h : U s) (k : U o) : Calls Tryz.prog 189 #[Sv s, Sv o] w fun e w' => e = .returned (Sv (ws (s - o))) ∧ Below w.heap.size w w' := by
  obtain ⟨a0, a1⟩ := lo_bd s
  obtain ⟨b0, b1⟩ := lo_bd o
  have b2 : lo o < 18446744073709551616 := by omega
  obtain ⟨c0, c1⟩ := h
  obtain ⟨d0, d1⟩ := k
  have d2 : hi o < 18446744073709551616 := by omega
  obtain ⟨k0, k1⟩ := bor_bd (lo s) (lo o)
  have e1 := less_lo s o
  have e2 := less_hi s o
  generalize ws (s - o) = t at *
  go_enter Tryz.func189, Tryz.ntmps189
  go_wp2_with (first | simp only [sub64_0 (lo s) (lo o) a0 b0 b2] | simp only [sub64_b _ _ _ c0 d0 d2 k0 k1])
  refine bodyPost_ret (v := Sv t) (by simp [results, Tryz.results189, go_sem]) rfl ⟨rfl, ?_⟩
  exact (((Below.refl _ _).alloc (Nat.le_refl _) _).alloc (by simp) _).alloc (by simp; omega) _

/-- left -/
theorem left_any (s : Int) (n : Nat) (w : World) (h : U s) (h1 : n ≤ 127) : Calls Tryz.prog 138 #[Sv s, .int .i64 n] w fun e w' => e = .returned (Sv (ws (s * 2 ^ n))) ∧ Below w.heap.size w w' := by
  obtain ⟨a0, a1⟩ := lo_bd s
  by_cases g : 64 ≤ n
  · have e1 := left64_hi s n g
    have e2 := left64_lo s n g
    have e3 : (((n : Int) - 64).toNat) = n - 64 := by omega
    have H := Lib.hid (And.intro e1 (And.intro e2.symm e3))
    clear e1 e2 e3
    generalize ws (s * 2 ^ n) = t at *
    go_enter Tryz.func138, Tryz.ntmps138
    go_wp2
    refine bodyPost_ret (v := Sv t) (by simp [results, Tryz.results138, go_sem, H.out.1, H.out.2.1]) rfl ⟨rfl, ?_⟩
    exact ((Below.refl _ _).alloc (Nat.le_refl _) _).alloc (by simp) _
  · have g' : n < 64 := by omega
    have e1 := left_hi s n (by omega) h.1
    have e2 := left_lo s n
    have e3 : ((64 - (n : Int)).toNat) = 64 - n := by omega
    have H := Lib.hid (And.intro e1 (And.intro e2 e3))
    clear e1 e2 e3
    generalize ws (s * 2 ^ n) = t at *
    go_enter Tryz.func138, Tryz.ntmps138
    go_wp2
    go_region
    go_wp2
    refine bodyPost_ret (v := Sv t) (by simp [results, Tryz.results138, go_sem, H.out.1, H.out.2.1]) rfl ⟨rfl, ?_⟩
    exact (((Below.refl _ _).alloc (Nat.le_refl _) _).alloc (by simp) _).drew

/-- compare -/
theorem compare_any (a b : Int) (w : World) : Calls Tryz.prog 139 #[Sv a, Sv b] w fun e w' => e = .returned (.int .i64 (sg a b)) ∧ Below w.heap.size w w' := by
  by_cases h : hi a = hi b
  · have H := Lib.hid (sg_lo h)
    have g : (hi a != hi b) = false := by simp [h]
    have K := Lib.hid h
    clear h
    go_enter Tryz.func139, Tryz.ntmps139
    go_wp2_with (go_at_call 192; refine (compare_u64 _ _ _).mono ?_; rintro e w' ⟨rfl, rfl⟩)
    go_ret
    exact ⟨by rw [H.out]; rfl, ((Below.refl _ _).alloc (Nat.le_refl _) _).alloc (by simp) _⟩
  · have H := Lib.hid (sg_hi h)
    have g : (hi a != hi b) = true := by simp [h]
    clear h
    go_enter Tryz.func139, Tryz.ntmps139
    go_wp2_with (go_at_call 192; refine (compare_u64 _ _ _).mono ?_; rintro e w' ⟨rfl, rfl⟩)
    go_ret
    exact ⟨by rw [H.out]; rfl, ((Below.refl _ _).alloc (Nat.le_refl _) _).alloc (by simp) _⟩

/-- length -/
theorem length_any (s : Int) (w : World) (h : U s) : Calls Tryz.prog 190 #[Sv s] w fun e w' => e = .returned (.int .i64 (bl s)) ∧ w.alloc (.cells #[.int .u64 (hi s), .int .u64 (lo s)] 208) = w' := by
  obtain ⟨a0, a1⟩ := lo_bd s
  by_cases g : hi s = 0
  · have H := Lib.hid (bl_low g)
    have g' : (hi s != 0) = false := by simp [g]
    have K := Lib.hid g
    clear g h
    go_enter Tryz.func190, Tryz.ntmps190
    go_wp2_with (go_at_call 213; refine (Tryz.bits_Len64 (lo s) _ a0 a1).mono ?_; rintro e w' ⟨rfl, rfl⟩)
    go_ret
    exact ⟨by rw [← H.out]; rfl, rfl⟩
  · have H := Lib.hid (bl_high h g)
    have g' : (hi s != 0) = true := by simp [g]
    obtain ⟨c0, c1⟩ := h
    have l := bitLen_64 (hi s) c0 c1
    clear g
    go_enter Tryz.func190, Tryz.ntmps190
    go_wp2_with (go_at_call 213; refine (Tryz.bits_Len64 (hi s) _ c0 c1).mono ?_; rintro e w' ⟨rfl, rfl⟩)
    go_ret
    exact ⟨by rw [← H.out]; rfl, rfl⟩
end Go.Proofs.YtmafgdinegboeaaGreat
namespace Go.Proofs.YtmafgdinegboeaaGreat
open Go.RowKit

theorem svbit : Sv 1 = .agg #[.int .u64 0, .int .u64 1] := rfl
theorem svtop : Sv 170141183460469231731687303715884105728 = .agg #[.int .u64 9223372036854775808, .int .u64 0] := by
  have e1 : hi 170141183460469231731687303715884105728 = 9223372036854775808 := by decide
  have e2 : lo 170141183460469231731687303715884105728 = 0 := by decide
  show Value.agg #[.int .u64 (hi _), .int .u64 (lo _)] = _
  rw [e1, e2]

set_option maxHeartbeats 1000000 in
/-- withBit -/
theorem withBit_any (s : Int) (n : Nat) (w : World) (h : U s) (h1 : n ≤ 127) (hd : s % 2 ^ (n + 1) = 0) : Calls Tryz.prog 191 #[Sv s, .int .i64 n] w fun e w' => e = .returned (Sv (s + 2 ^ n)) ∧ Below w.heap.size w w' := by
  have C := fun W => left_any 1 n W (by decide) h1
  rw [svbit] at C
  simp only [Int.one_mul] at C
  have CH := Lib.hid C
  obtain ⟨e1, e2⟩ := bit_any s n h h1 hd
  have H := Lib.hid (And.intro e1 e2)
  clear e1 e2 hd h C
  generalize ws (2 ^ n) = b at *
  generalize s + 2 ^ n = t at *
  go_enter Tryz.func191, Tryz.ntmps191
  go_wp2_with (go_at_call 138; (with_reducible refine (CH.out _).mono ?_); rintro e w' ⟨rfl, hb⟩; obtain ⟨hc, hf⟩ := bcell hb; have hz0 : w.heap.size < w'.heap.size := bsz hb (by first | omega | (simp; done) | (simp; omega)); have hz1 : w.heap.size + 1 < w'.heap.size := bsz hb (by first | omega | (simp; done) | (simp; omega)))
  refine bodyPost_ret (v := Sv t) (by simp [results, Tryz.results191, go_sem, H.out.1, H.out.2, hc, hz1]) rfl ⟨rfl, ?_⟩
  repeat (first | exact Below.refl _ _ | apply Below.drew | refine Below.setCell ?_ (by first | (simp; done) | (simp; omega) | omega) _ | refine Below.alloc ?_ (by first | (simp; done) | (simp; omega) | omega) _ | refine Below.trans ?_ (hb.mono (by first | (simp; done) | (simp; omega) | omega)))

set_option maxHeartbeats 1000000 in
/-- negated -/
theorem negated_any (s : Int) (w : World) (h : U s) : Calls Tryz.prog 194 #[Sv s] w fun e w' => e = .returned (.tuple #[Wv (told (-s)), .int .i64 (over (-s))]) ∧ Below w.heap.size w w' := by
  have CH := Lib.hid (fun W => svtop ▸ compare_any s 170141183460469231731687303715884105728 W)
  have DH := Lib.hid (fun W => Int.zero_sub s ▸ sv0 ▸ less_any 0 s W (by decide) h)
  by_cases g : (0 : Int) < sg s 170141183460469231731687303715884105728
  · have r := Lib.hid (And.intro (told_out (neg_high g)) (over_out (neg_high g)))
    generalize sg s 170141183460469231731687303715884105728 = c at *
    clear h
    go_enter Tryz.func194, Tryz.ntmps194
    go_wp2_with (go_at_call 139; (with_reducible refine (CH.out _).mono ?_); rintro e w' ⟨rfl, hb⟩; obtain ⟨hc, hf⟩ := bcell hb; have hz0 : w.heap.size < w'.heap.size := bsz hb (by first | omega | (simp; done) | (simp; omega)); have hz1 : w.heap.size + 1 < w'.heap.size := bsz hb (by first | omega | (simp; done) | (simp; omega)))
    refine bodyPost_ret (v := .tuple #[.agg #[.int .i64 0, .int .u64 0], .int .i64 3]) (by simp [results, Tryz.results194, go_sem, hc]) rfl ⟨by rw [r.out.1, r.out.2] <;> rfl, ?_⟩
    repeat (first | exact Below.refl _ _ | apply Below.drew | refine Below.setCell ?_ (by first | (simp; done) | (simp; omega) | omega) _ | refine Below.alloc ?_ (by first | (simp; done) | (simp; omega) | omega) _ | refine Below.trans ?_ (hb.mono (by first | (simp; done) | (simp; omega) | omega)))
  · obtain ⟨r1, r2, r3⟩ := neg_low h g
    have r := Lib.hid (And.intro (told_in r1) (over_in r1))
    have H := Lib.hid (And.intro r2 r3)
    clear h r1 r2 r3
    generalize sg s 170141183460469231731687303715884105728 = c at *
    go_enter Tryz.func194, Tryz.ntmps194
    go_wp2_with (first | (go_at_call 139; (with_reducible refine (CH.out _).mono ?_); rintro e w' ⟨rfl, hb⟩; obtain ⟨hc, hf⟩ := bcell hb; have hz0 : w.heap.size < w'.heap.size := bsz hb (by first | omega | (simp; done) | (simp; omega)); have hz1 : w.heap.size + 1 < w'.heap.size := bsz hb (by first | omega | (simp; done) | (simp; omega))) | (go_at_call 189; (with_reducible refine (DH.out _).mono ?_); rintro e w2 ⟨rfl, hb2⟩; obtain ⟨hc2, hf2⟩ := bcell hb2; have hz2 : w.heap.size < w2.heap.size := bsz hb2 (by first | omega | (simp; done) | (simp; omega)); have hz3 : w.heap.size + 1 < w2.heap.size := bsz hb2 (by first | omega | (simp; done) | (simp; omega))))
    refine bodyPost_ret (v := .tuple #[Wv (-s), .int .i64 0]) (by simp [results, Tryz.results194, go_sem, hc, hz1, hc2, hz3, H.out.1, H.out.2]) rfl ⟨by rw [r.out.1, r.out.2] <;> rfl, ?_⟩
    repeat (first | exact Below.refl _ _ | apply Below.drew | refine Below.setCell ?_ (by first | (simp; done) | (simp; omega) | omega) _ | refine Below.alloc ?_ (by first | (simp; done) | (simp; omega) | omega) _ | refine Below.trans ?_ (hb2.mono (by first | (simp; done) | (simp; omega) | omega)) | refine Below.trans ?_ (hb.mono (by first | (simp; done) | (simp; omega) | omega)))

set_option maxHeartbeats 1000000 in
/-- signed -/
theorem signed_any (s : Int) (neg : Bool) (w : World) (h : U s) : Calls Tryz.prog 142 #[Sv s, .bool neg] w fun e w' => e = .returned (.tuple #[Wv (told (sd neg s)), .int .i64 (over (sd neg s))]) ∧ Below w.heap.size w w' := by
  cases neg with
  | true =>
    have CH := Lib.hid (fun W => negated_any s W h)
    have e0 := Lib.hid (show sd true s = -s from rfl)
    clear h
    generalize sd true s = t at *
    go_enter Tryz.func142, Tryz.ntmps142
    go_wp2_with (go_at_call 194; (with_reducible refine (CH.out _).mono ?_); rintro e w' ⟨rfl, hb⟩; obtain ⟨hc, hf⟩ := bcell hb; have hz0 : w.heap.size < w'.heap.size := bsz hb (by first | omega | (simp; done) | (simp; omega)); have hz1 : w.heap.size + 1 < w'.heap.size := bsz hb (by first | omega | (simp; done) | (simp; omega)))
    refine bodyPost_ret (v := .tuple #[Wv (told (-s)), .int .i64 (over (-s))]) (by simp [results, Tryz.results142, go_sem, hc]) rfl ⟨by rw [e0.out], ?_⟩
    repeat (first | exact Below.refl _ _ | apply Below.drew | refine Below.setCell ?_ (by first | (simp; done) | (simp; omega) | omega) _ | refine Below.alloc ?_ (by first | (simp; done) | (simp; omega) | omega) _ | refine Below.trans ?_ (hb.mono (by first | (simp; done) | (simp; omega) | omega)))
  | false =>
    have e0 := Lib.hid (show sd false s = s from rfl)
    by_cases g : 9223372036854775808 ≤ hi s
    · have r := Lib.hid (And.intro (told_out (pos_high g)) (over_out (pos_high g)))
      clear h
      generalize sd false s = t at *
      go_enter Tryz.func142, Tryz.ntmps142
      go_wp2
      refine bodyPost_ret (v := .tuple #[.agg #[.int .i64 0, .int .u64 0], .int .i64 3]) (by simp [results, Tryz.results142, go_sem]) rfl ⟨by rw [e0.out, r.out.1, r.out.2] <;> rfl, ?_⟩
      repeat (first | exact Below.refl _ _ | apply Below.drew | refine Below.setCell ?_ (by first | (simp; done) | (simp; omega) | omega) _ | refine Below.alloc ?_ (by first | (simp; done) | (simp; omega) | omega) _)
    · have g' : hi s < 9223372036854775808 := by omega
      obtain ⟨r1, r2⟩ := pos_low h g'
      have r := Lib.hid (And.intro (told_in r1) (And.intro (over_in r1) r2))
      have g0 := h.1
      clear h r1 r2 g
      generalize sd false s = t at *
      go_enter Tryz.func142, Tryz.ntmps142
      go_wp2
      refine bodyPost_ret (v := .tuple #[Wv s, .int .i64 0]) (by simp [results, Tryz.results142, go_sem]) rfl ⟨by rw [e0.out, r.out.1, r.out.2.1] <;> rfl, ?_⟩
      repeat (first | exact Below.refl _ _ | apply Below.drew | refine Below.setCell ?_ (by first | (simp; done) | (simp; omega) | omega) _ | refine Below.alloc ?_ (by first | (simp; done) | (simp; omega) | omega) _)

set_option maxHeartbeats 1000000 in
/-- sizeOf -/
theorem sizeOf_any (a : Int) (w : World) (ha : R a) : Calls Tryz.prog 136 #[Wv a] w fun e w' => e = .returned (Sv (ab a)) ∧ Below w.heap.size w w' := by
  have DH := Lib.hid (fun W => Int.zero_sub (ws a) ▸ sv0 ▸ less_any 0 (ws a) W (by decide) (U_ws a))
  have l1 := lo_ws a
  have l2 := u64_hi_ws a
  cases g : ng a with
  | true =>
    have E := Lib.hid (ab_of_neg ha g)
    have LH := Lib.hid (And.intro l1 l2)
    clear ha l1 l2
    generalize ws a = u at *
    go_enter Tryz.func136, Tryz.ntmps136
    go_wp2_with (first | (go_at_call 143; (with_reducible refine (below_any a _).mono ?_); rintro e w' ⟨rfl, rfl⟩) | (rw [LH.out.1, LH.out.2]; go_at_call 189; (with_reducible refine (DH.out _).mono ?_); rintro e w2 ⟨rfl, hb⟩; obtain ⟨hc, hf⟩ := bcell hb; have hz0 : w.heap.size < w2.heap.size := bsz hb (by first | omega | (simp; done) | (simp; omega)); have hz1 : w.heap.size + 1 < w2.heap.size := bsz hb (by first | omega | (simp; done) | (simp; omega))))
    refine bodyPost_ret (v := Sv (ws (-u))) (by simp [results, Tryz.results136, go_sem, hc]) rfl ⟨by rw [E.out] <;> rfl, ?_⟩
    repeat (first | exact Below.refl _ _ | apply Below.drew | refine Below.setCell ?_ (by first | (simp; done) | (simp; omega) | omega) _ | refine Below.alloc ?_ (by first | (simp; done) | (simp; omega) | omega) _ | refine Below.trans ?_ (hb.mono (by first | (simp; done) | (simp; omega) | omega)))
  | false =>
    have E := Lib.hid (ab_of_pos ha g)
    have LH := Lib.hid (And.intro l1 l2)
    clear ha l1 l2
    generalize ws a = u at *
    go_enter Tryz.func136, Tryz.ntmps136
    go_wp2_with (first | (go_at_call 143; (with_reducible refine (below_any a _).mono ?_); rintro e w' ⟨rfl, rfl⟩))
    refine bodyPost_ret (v := Sv u) (by simp [results, Tryz.results136, go_sem, LH.out.1, LH.out.2]) rfl ⟨by rw [E.out] <;> rfl, ?_⟩
    repeat (first | exact Below.refl _ _ | apply Below.drew | refine Below.setCell ?_ (by first | (simp; done) | (simp; omega) | omega) _ | refine Below.alloc ?_ (by first | (simp; done) | (simp; omega) | omega) _)
end Go.Proofs.YtmafgdinegboeaaGreat
namespace Go.Proofs.YtmafgdinegboeaaGreat

def DInv (n d a q r : Int) : Prop :=
  -200 ≤ a ∧ a ≤ 127 ∧ 0 ≤ q ∧ 0 ≤ r ∧ n = q * d + r ∧ r < d * 2 ^ (a + 1).toNat ∧ q % 2 ^ (a + 1).toNat = 0 ∧ (0 ≤ a → d * 2 ^ a.toNat ≤ 340282366920938463463374607431768211455)

theorem pow128 : (2 : Int) ^ 128 = 340282366920938463463374607431768211456 := by decide
theorem pow_mono {m n : Nat} (h : m ≤ n) : (2 : Int) ^ m ≤ 2 ^ n := by
  obtain ⟨k, rfl⟩ := Nat.exists_eq_add_of_le h
  rw [Int.pow_add]
  have h1 : (0 : Int) < 2 ^ m := Int.pow_pos (by decide)
  have h2 : (0 : Int) < 2 ^ k := Int.pow_pos (by decide)
  have := Int.mul_le_mul_of_nonneg_left (show (1 : Int) ≤ 2 ^ k by omega) (show (0 : Int) ≤ 2 ^ m by omega)
  omega
theorem dinv_start {n d : Int} (h : U n) (k : U d) (h0 : d ≠ 0) : DInv n d (bl n - bl d) 0 n := by
  have hn := (U_iff n).1 h
  have hd := (U_iff d).1 k
  have ln := bl_le h
  have ld := bl_le k
  obtain ⟨d1, d2, d3⟩ := bl_bd k h0
  by_cases z : n = 0
  · subst z
    rw [bl_zero]
    have e : (((0 : Nat) : Int) - bl d + 1).toNat = 0 := by omega
    refine ⟨by omega, by omega, by decide, by decide, by omega, ?_, ?_, fun h => by omega⟩
    · rw [e]; simp; omega
    · rw [e]; simp
  · obtain ⟨n1, n2, n3⟩ := bl_bd h z
    refine ⟨by omega, by omega, by decide, by omega, by omega, ?_, by simp, ?_⟩
    · have m := pow_mono (show bl n ≤ (bl d - 1) + ((bl n : Int) - bl d + 1).toNat by omega)
      rw [Int.pow_add] at m
      have := Int.mul_le_mul_of_nonneg_right d2 (show (0 : Int) ≤ 2 ^ ((bl n : Int) - bl d + 1).toNat from Int.le_of_lt (Int.pow_pos (by decide)))
      omega
    · intro hge
      have m := pow_mono (show bl d + ((bl n : Int) - bl d).toNat ≤ 128 by omega)
      rw [Int.pow_add, pow128] at m
      have hp : (0 : Int) < 2 ^ ((bl n : Int) - bl d).toNat := Int.pow_pos (by decide)
      have := Int.mul_le_mul_of_nonneg_right (show d + 1 ≤ 2 ^ bl d by omega) (Int.le_of_lt hp)
      rw [Int.add_mul] at this
      omega
theorem dinv_sizes {n d a q r : Int} (h : DInv n d a q r) (hn : U n) (h0 : 0 < d) : U q ∧ U r := by
  obtain ⟨_, _, q0, r0, e, _, _, _⟩ := h
  simp only [U_iff] at *
  have : q * 1 ≤ q * d := Int.mul_le_mul_of_nonneg_left (by omega) q0
  omega
theorem dinv_step {n d q r : Int} {k : Nat} (h : DInv n d k q r) (h0 : 0 < d) : k ≤ 127 ∧ ws (d * 2 ^ k) = d * 2 ^ k ∧ q % 2 ^ (k + 1) = 0 := by
  obtain ⟨_, k1, _, _, _, _, m, s⟩ := h
  have s' := s (by omega)
  rw [Int.toNat_natCast] at s'
  rw [show ((k : Int) + 1).toNat = k + 1 by omega] at m
  have : (0 : Int) < d * 2 ^ k := Int.mul_pos h0 (Int.pow_pos (by decide))
  exact ⟨by omega, ws_in ((U_iff _).2 ⟨by omega, s'⟩), m⟩
theorem dinv_end {n d a q r : Int} (h : DInv n d a q r) (ha : a < 0) (h0 : 0 < d) : q = n / d ∧ r = n % d := by
  obtain ⟨_, _, q0, r0, e, l, _, _⟩ := h
  rw [show (a + 1).toNat = 0 by omega, Int.pow_zero, Int.mul_one] at l
  have := (Int.ediv_emod_unique h0 (a := n) (r := r) (q := q)).2 ⟨by rw [e, Int.mul_comm d q]; omega, r0, l⟩
  exact ⟨this.1.symm, this.2.symm⟩
theorem dinv_hit {n d q r : Int} {k : Nat} (h : DInv n d k q r) (he : r = d * 2 ^ k) (h0 : 0 < d) : q + 2 ^ k = n / d ∧ 0 = n % d := by
  obtain ⟨_, _, q0, r0, e, l, _, _⟩ := h
  have := (Int.ediv_emod_unique h0 (a := n) (r := 0) (q := q + 2 ^ k)).2 ⟨by rw [e, he, Int.mul_comm q d, ← Int.mul_add]; omega, by omega, h0⟩
  exact ⟨this.1.symm, this.2.symm⟩
theorem dinv_up {n d q r : Int} {k : Nat} (h : DInv n d k q r) (hg : d * 2 ^ k < r) (hn : U n) (h0 : 0 < d) : ws (r - d * 2 ^ k) = r - d * 2 ^ k ∧ DInv n d (k - 1) (q + 2 ^ k) (r - d * 2 ^ k) := by
  have hU := (dinv_sizes h hn h0).2
  obtain ⟨a0, a1, q0, r0, e, l, m, s⟩ := h
  have hp : (0 : Int) < 2 ^ k := Int.pow_pos (by decide)
  have hdp : (0 : Int) < d * 2 ^ k := Int.mul_pos h0 hp
  rw [show ((k : Int) + 1).toNat = k + 1 by omega] at l m
  rw [Int.pow_succ] at l m
  refine ⟨ws_in (by rw [U_iff] at *; omega), by omega, by omega, by omega, by omega, ?_, ?_, ?_, ?_⟩
  · rw [Int.add_mul, Int.mul_comm (2 ^ k) d, e]; omega
  · rw [show ((k : Int) - 1 + 1).toNat = k by omega]
    rw [← Int.mul_assoc] at l; omega
  · rw [show ((k : Int) - 1 + 1).toNat = k by omega]
    have : q % 2 ^ k = 0 := Int.emod_eq_zero_of_dvd (Int.dvd_trans (Int.dvd_mul_right _ _) (Int.dvd_of_emod_eq_zero m))
    rw [Int.add_emod, this, Int.emod_self]; simp
  · intro hk
    have s' := s (by omega)
    rw [Int.toNat_natCast] at s'
    obtain ⟨j, rfl⟩ : ∃ j, k = j + 1 := ⟨k - 1, by omega⟩
    rw [show (((j + 1 : Nat) : Int) - 1).toNat = j by omega]
    rw [Int.pow_succ, ← Int.mul_assoc] at s'
    have : (0 : Int) < d * 2 ^ j := Int.mul_pos h0 (Int.pow_pos (by decide))
    omega
theorem dinv_down {n d q r : Int} {k : Nat} (h : DInv n d k q r) (hg : r < d * 2 ^ k) (h0 : 0 < d) : DInv n d (k - 1) q r := by
  obtain ⟨a0, a1, q0, r0, e, l, m, s⟩ := h
  have hp : (0 : Int) < 2 ^ k := Int.pow_pos (by decide)
  rw [show ((k : Int) + 1).toNat = k + 1 by omega] at l m
  rw [Int.pow_succ] at l m
  refine ⟨by omega, by omega, q0, r0, e, ?_, ?_, ?_⟩
  · rw [show ((k : Int) - 1 + 1).toNat = k by omega]; exact hg
  · rw [show ((k : Int) - 1 + 1).toNat = k by omega]
    exact Int.emod_eq_zero_of_dvd (Int.dvd_trans (Int.dvd_mul_right _ _) (Int.dvd_of_emod_eq_zero m))
  · intro hk
    have s' := s (by omega)
    rw [Int.toNat_natCast] at s'
    obtain ⟨j, rfl⟩ : ∃ j, k = j + 1 := ⟨k - 1, by omega⟩
    rw [show (((j + 1 : Nat) : Int) - 1).toNat = j by omega]
    rw [Int.pow_succ, ← Int.mul_assoc] at s'
    have : (0 : Int) < d * 2 ^ j := Int.mul_pos h0 (Int.pow_pos (by decide))
    omega
end Go.Proofs.YtmafgdinegboeaaGreat
namespace Go.Proofs.YtmafgdinegboeaaGreat
open Go.RowKit
/-- The four variables of divide. -/
def DivAt (w0 : World) (n d q r : Int) (w : World) : Prop :=
  w.cell? ⟨w0.heap.size, 0, none⟩ = some (.int .u64 (hi n)) ∧ w.cell? ⟨w0.heap.size, 1, none⟩ = some (.int .u64 (lo n)) ∧
  w.cell? ⟨w0.heap.size + 1, 0, none⟩ = some (.int .u64 (hi d)) ∧ w.cell? ⟨w0.heap.size + 1, 1, none⟩ = some (.int .u64 (lo d)) ∧
  w.cell? ⟨w0.heap.size + 1 + 1, 0, none⟩ = some (.int .u64 (hi q)) ∧ w.cell? ⟨w0.heap.size + 1 + 1, 1, none⟩ = some (.int .u64 (lo q)) ∧
  w.cell? ⟨w0.heap.size + 1 + 1 + 1, 0, none⟩ = some (.int .u64 (hi r)) ∧ w.cell? ⟨w0.heap.size + 1 + 1 + 1, 1, none⟩ = some (.int .u64 (lo r)) ∧
  w.frozen? ⟨w0.heap.size + 1 + 1, 0, none⟩ = false ∧ w.frozen? ⟨w0.heap.size + 1 + 1, 1, none⟩ = false ∧
  w.frozen? ⟨w0.heap.size + 1 + 1 + 1, 0, none⟩ = false ∧ w.frozen? ⟨w0.heap.size + 1 + 1 + 1, 1, none⟩ = false ∧
  Below w0.heap.size w0 w ∧ w0.heap.size + 1 + 1 + 1 < w.heap.size
theorem cell_on {W W' : World} (hb : Below W.heap.size W W') {p : Addr} {v : Value} (h : W.cell? p = some v) : W'.cell? p = some v := (hb.cell (World.block_lt_of_cell? W _ h)).trans h
theorem frozen_on {W W' : World} (hb : Below W.heap.size W W') {p : Addr} {v : Value} (h : W.cell? p = some v) {b : Bool} (hf : W.frozen? p = b) : W'.frozen? p = b := (hb.frozen (World.block_lt_of_cell? W _ h)).trans hf
theorem drew_on {W : World} {p : Addr} {v : Value} (h : W.cell? p = some v) : W.drew.cell? p = some v := h
theorem DivAt.below {w0 : World} {n d q r : Int} {W W' : World} (h : DivAt w0 n d q r W) (hb : Below W.heap.size W W') : DivAt w0 n d q r W' := by
  obtain ⟨c1, c2, c3, c4, c5, c6, c7, c8, f1, f2, f3, f4, b, z⟩ := h
  obtain ⟨hc, hf⟩ := bcell hb
  refine ⟨?_, ?_, ?_, ?_, ?_, ?_, ?_, ?_, ?_, ?_, ?_, ?_, b.trans (hb.mono (by omega)), bsz hb z⟩
  all_goals first | (rw [hc _ _ (by omega)]; assumption) | (rw [hf _ _ (by omega)]; assumption)
theorem DivAt.alloc {w0 : World} {n d q r : Int} {W : World} (h : DivAt w0 n d q r W) (o : Obj) : DivAt w0 n d q r (W.alloc o) :=
  h.below ((Below.refl _ _).alloc (Nat.le_refl _) o)
theorem DivAt.drew {w0 : World} {n d q r : Int} {W : World} (h : DivAt w0 n d q r W) : DivAt w0 n d q r W.drew := by
  obtain ⟨c1, c2, c3, c4, c5, c6, c7, c8, f1, f2, f3, f4, b, z⟩ := h
  exact ⟨c1, c2, c3, c4, c5, c6, c7, c8, f1, f2, f3, f4, b.drew, z⟩
theorem DivAt.put {w0 : World} {n d q r : Int} {W : World} (h : DivAt w0 n d q r W) (q' r' : Int) :
    DivAt w0 n d q' r' ((((W.setCell ⟨w0.heap.size + 1 + 1, 0, none⟩ (.int .u64 (hi q'))).setCell ⟨w0.heap.size + 1 + 1, 1, none⟩ (.int .u64 (lo q'))).setCell ⟨w0.heap.size + 1 + 1 + 1, 0, none⟩ (.int .u64 (hi r'))).setCell ⟨w0.heap.size + 1 + 1 + 1, 1, none⟩ (.int .u64 (lo r'))) := by
  obtain ⟨c1, c2, c3, c4, c5, c6, c7, c8, f1, f2, f3, f4, b, z⟩ := h
  refine ⟨by simp [go_sem, *], by simp [go_sem, *], by simp [go_sem, *], by simp [go_sem, *], by simp [go_sem, *], by simp [go_sem, *], by simp [go_sem, *], by simp [go_sem, *], by simp [go_sem, *], by simp [go_sem, *], by simp [go_sem, *], by simp [go_sem, *], ?_, by simp [go_sem, *]⟩
  exact (((b.setCell (by simp; omega) _).setCell (by simp; omega) _).setCell (by simp; omega) _).setCell (by simp; omega) _
set_option maxHeartbeats 4000000 in
theorem divide_any (n d : Int) (w : World) (h : U n) (k : U d) (h0 : d ≠ 0) : Calls Tryz.prog 137 #[Sv n, Sv d] w fun e w' => e = .returned (.tuple #[Sv (n / d), Sv (n % d)]) ∧ Below w.heap.size w w' := by
  have bn := bl_le h
  have bd := bl_le k
  have H := Lib.hid (And.intro h k)
  have S0 := Lib.hid (dinv_start h k h0)
  have d0 : 0 < d := by rw [U_iff] at k; omega
  have D0 := Lib.hid d0
  clear h k h0 d0
  go_enter Tryz.func137, Tryz.ntmps137
  go_wp2
  go_step3
  go_wp2
  go_step3
  go_wp2
  go_upto_region 2 with fail
  go_cut [6] (fun s6 wx => s6 = .int .i64 (bl n - bl d) ∧ DivAt w n d 0 n wx)
  case first =>
    go_region_held3 (fun w' => w'.cell? ⟨w.heap.size, 0, none⟩ = some (.int .u64 (hi n)) ∧ w'.cell? ⟨w.heap.size, 1, none⟩ = some (.int .u64 (lo n)) ∧ w'.cell? ⟨w.heap.size + 1, 0, none⟩ = some (.int .u64 (hi d)) ∧ w'.cell? ⟨w.heap.size + 1, 1, none⟩ = some (.int .u64 (lo d))) (simp [go_sem])
        (first
        | (go_at_call 190; (with_reducible refine (length_any n _ H.out.1).mono ?_); rintro e w' ⟨rfl, rfl⟩)
        | (go_at_call 190; (with_reducible refine (length_any d _ H.out.2).mono ?_); rintro e w' ⟨rfl, rfl⟩))
    all_goals
      go_wp2_with fail
      go_meet
      have e64 : IntKind.i64.wrap ((bl n : Int) - bl d) = (bl n : Int) - bl d := by have := IntWalk.i64_in ((bl n : Int) - bl d) ⟨by omega, by omega⟩; exact this
      refine ⟨by rw [e64], ?_⟩
      refine ⟨by simp [go_sem], by simp [go_sem], by simp [go_sem], by simp [go_sem], by simp [go_sem] <;> rfl, by simp [go_sem] <;> rfl, by simp [go_sem], by simp [go_sem], by simp [go_sem], by simp [go_sem], by simp [go_sem], by simp [go_sem], ?_, ?_⟩
      · repeat (first | exact Below.refl _ _ | apply Below.drew | refine Below.alloc ?_ (by first | (simp; done) | (simp; omega) | omega) _)
      · simp
  case rest =>
    obtain ⟨rfl, hD⟩ := hcut
    go_upto_block 0 with fail
    go_cut [] (fun wx => DivAt w n d (n / d) (n % d) wx)
    case rest =>
      clear hD
      obtain ⟨c1, c2, c3, c4, c5, c6, c7, c8, f1, f2, f3, f4, hbw, hz0⟩ := hcut
      go_wp2
      go_region
      go_wp2
      try rw [Exit.noGoto_ret]
      refine bodyPost_ret (v := .tuple #[Sv (n / d), Sv (n % d)]) (by simp [results, Tryz.results137, go_sem, c5, c6, c7, c8]) rfl ⟨rfl, ?_⟩
      repeat (first | exact Below.refl _ _ | assumption | apply Below.drew | refine Below.setCell ?_ (by first | (simp; done) | (simp; omega) | omega) _ | refine Below.alloc ?_ (by first | (simp; done) | (simp; omega) | omega) _)
    case first =>
    go_wp2_with fail
    go_loopw [6] (fun s6 wr => ∃ a q r : Int, s6 = .int .i64 a ∧ DInv n d a q r ∧ DivAt w n d q r wr) (fun s6 _ => (intOf s6 + 1).toNat)
    case atStart => exact ⟨_, 0, n, rfl, S0.out, hD⟩
    case round =>
      obtain ⟨a, q, r, rfl, hI, hD⟩ := hrel
      have hD0 := hD
      obtain ⟨c1, c2, c3, c4, c5, c6, c7, c8, f1, f2, f3, f4, hbw, hz0⟩ := hD
      have HD := Lib.hid hD0
      clear hD0
      have hy2 : w.heap.size + 1 + 1 < wr.heap.size := by omega
      have hy1 : w.heap.size + 1 < wr.heap.size := by omega
      have hy0 : w.heap.size < wr.heap.size := by omega
      have I := Lib.hid hI
      have a0 : -200 ≤ a := hI.1
      have a1 : a ≤ 127 := hI.2.1
      clear hI
      by_cases ha : a < 0
      · go_wp2
        go_meet
        rw [← (dinv_end I.out ha D0.out).1, ← (dinv_end I.out ha D0.out).2]
        exact HD.out
      · obtain ⟨k, rfl⟩ := Int.eq_ofNat_of_zero_le (show 0 ≤ a by omega)
        have st1 := dinv_step I.out D0.out
        obtain ⟨st, est⟩ : ∃ st, st = d * 2 ^ k := ⟨_, rfl⟩
        have ST := Lib.hid (And.intro st1 est)
        have LC := Lib.hid (fun W => (show ws (d * 2 ^ k) = st by rw [st1.2.1, est]) ▸ left_any d k W H.out.2 st1.1)
        have hq := dinv_sizes I.out H.out.1 D0.out
        have BC := Lib.hid (fun W => withBit_any q k W hq.1 st1.1 st1.2.2)
        have UR := Lib.hid hq.2
        clear st1 est hq ha
        rcases Int.lt_trichotomy r st with g | g | g
        · have e1 := sg_lt g
          have G := Lib.hid g
          clear g
          go_wp2_with (first | (go_at_call 138; (with_reducible refine (LC.out _).mono ?_); rintro e w1 ⟨rfl, hb1⟩; obtain ⟨hc1, hf1⟩ := bcell hb1; have hz1 : w.heap.size < w1.heap.size := bsz hb1 (by first | omega | (simp; done) | (simp; omega)); have hz1b : w.heap.size + 1 < w1.heap.size := bsz hb1 (by first | omega | (simp; done) | (simp; omega)); have hz1c : w.heap.size + 1 + 1 < w1.heap.size := bsz hb1 (by first | omega | (simp; done) | (simp; omega)); have hz1d : w.heap.size + 1 + 1 + 1 < w1.heap.size := bsz hb1 (by first | omega | (simp; done) | (simp; omega))) | (go_at_call 139; (with_reducible refine (compare_any r st _).mono ?_); rintro e w2 ⟨rfl, hb2⟩; obtain ⟨hc2, hf2⟩ := bcell hb2; have hz2 : w.heap.size < w2.heap.size := bsz hb2 (by first | omega | (simp; done) | (simp; omega)); have hz2b : w.heap.size + 1 < w2.heap.size := bsz hb2 (by first | omega | (simp; done) | (simp; omega)); have hz2c : w.heap.size + 1 + 1 < w2.heap.size := bsz hb2 (by first | omega | (simp; done) | (simp; omega)); have hz2d : w.heap.size + 1 + 1 + 1 < w2.heap.size := bsz hb2 (by first | omega | (simp; done) | (simp; omega))))
          refine ⟨⟨(k : Int) - 1, q, r, rfl, dinv_down I.out (by rw [← ST.out.2]; exact G.out) D0.out, ((HD.out.below hb1).alloc _).below hb2⟩, by simp [intOf]⟩
        · have e1 : sg r st = 0 := g ▸ sg_eq r
          have G := Lib.hid g
          clear g
          obtain ⟨t, et⟩ : ∃ t, t = q + 2 ^ k := ⟨_, rfl⟩
          rw [← et] at BC
          have ET := Lib.hid et
          clear et
          go_wp2_with (first | (go_at_call 138; (with_reducible refine (LC.out _).mono ?_); rintro e w1 ⟨rfl, hb1⟩; obtain ⟨hc1, hf1⟩ := bcell hb1; have hz1 : w.heap.size < w1.heap.size := bsz hb1 (by first | omega | (simp; done) | (simp; omega)); have hz1b : w.heap.size + 1 < w1.heap.size := bsz hb1 (by first | omega | (simp; done) | (simp; omega)); have hz1c : w.heap.size + 1 + 1 < w1.heap.size := bsz hb1 (by first | omega | (simp; done) | (simp; omega)); have hz1d : w.heap.size + 1 + 1 + 1 < w1.heap.size := bsz hb1 (by first | omega | (simp; done) | (simp; omega))) | (go_at_call 139; (with_reducible refine (compare_any r st _).mono ?_); rintro e w2 ⟨rfl, hb2⟩; obtain ⟨hc2, hf2⟩ := bcell hb2; have hz2 : w.heap.size < w2.heap.size := bsz hb2 (by first | omega | (simp; done) | (simp; omega)); have hz2b : w.heap.size + 1 < w2.heap.size := bsz hb2 (by first | omega | (simp; done) | (simp; omega)); have hz2c : w.heap.size + 1 + 1 < w2.heap.size := bsz hb2 (by first | omega | (simp; done) | (simp; omega)); have hz2d : w.heap.size + 1 + 1 + 1 < w2.heap.size := bsz hb2 (by first | omega | (simp; done) | (simp; omega))) | (go_at_call 191; (with_reducible refine (BC.out _).mono ?_); rintro e w3 ⟨rfl, hb3⟩; obtain ⟨hc3, hf3⟩ := bcell hb3; have hz3 : w.heap.size < w3.heap.size := bsz hb3 (by first | omega | (simp; done) | (simp; omega)); have hz3b : w.heap.size + 1 < w3.heap.size := bsz hb3 (by first | omega | (simp; done) | (simp; omega)); have hz3c : w.heap.size + 1 + 1 < w3.heap.size := bsz hb3 (by first | omega | (simp; done) | (simp; omega)); have hz3d : w.heap.size + 1 + 1 + 1 < w3.heap.size := bsz hb3 (by first | omega | (simp; done) | (simp; omega))))
          go_meet
          rw [← (dinv_hit I.out (G.out.trans ST.out.2) D0.out).1, ← (dinv_hit I.out (G.out.trans ST.out.2) D0.out).2, ← ET.out]
          exact ((((HD.out.below hb1).alloc _).below hb2).below hb3).put t 0
        · have e1 := sg_gt g
          have G := Lib.hid g
          clear g
          obtain ⟨t, et⟩ : ∃ t, t = q + 2 ^ k := ⟨_, rfl⟩
          rw [← et] at BC
          obtain ⟨v, ev⟩ : ∃ v, v = r - st := ⟨_, rfl⟩
          have up := dinv_up I.out (by rw [← ST.out.2]; exact G.out) H.out.1 D0.out
          rw [← ST.out.2, ← ev, ← et] at up
          have US : U st := by rw [ST.out.2, ← ST.out.1.2.1]; exact U_ws _
          have hv : ws (r - st) = v := by rw [ev]; exact ws_in (by have := UR.out; have g := G.out; simp only [U_iff] at *; omega)
          have SC := Lib.hid (fun W => hv ▸ less_any r st W UR.out US)
          have UP := Lib.hid up
          clear up et ev US hv
          go_wp2_with (first | (go_at_call 138; (with_reducible refine (LC.out _).mono ?_); rintro e w1 ⟨rfl, hb1⟩; obtain ⟨hc1, hf1⟩ := bcell hb1; have hz1 : w.heap.size < w1.heap.size := bsz hb1 (by first | omega | (simp; done) | (simp; omega)); have hz1b : w.heap.size + 1 < w1.heap.size := bsz hb1 (by first | omega | (simp; done) | (simp; omega)); have hz1c : w.heap.size + 1 + 1 < w1.heap.size := bsz hb1 (by first | omega | (simp; done) | (simp; omega)); have hz1d : w.heap.size + 1 + 1 + 1 < w1.heap.size := bsz hb1 (by first | omega | (simp; done) | (simp; omega))) | (go_at_call 139; (with_reducible refine (compare_any r st _).mono ?_); rintro e w2 ⟨rfl, hb2⟩; obtain ⟨hc2, hf2⟩ := bcell hb2; have hz2 : w.heap.size < w2.heap.size := bsz hb2 (by first | omega | (simp; done) | (simp; omega)); have hz2b : w.heap.size + 1 < w2.heap.size := bsz hb2 (by first | omega | (simp; done) | (simp; omega)); have hz2c : w.heap.size + 1 + 1 < w2.heap.size := bsz hb2 (by first | omega | (simp; done) | (simp; omega)); have hz2d : w.heap.size + 1 + 1 + 1 < w2.heap.size := bsz hb2 (by first | omega | (simp; done) | (simp; omega))))
          have HD2 := ((HD.out.below hb1).alloc (.cells #[.int .u64 (hi st), .int .u64 (lo st)] 208)).below hb2
          have s0 : w2.cell? ⟨w1.heap.size, 0, none⟩ = some (.int .u64 (hi st)) := cell_on hb2 (World.cell?_alloc_new _ _ _ _)
          have s1 : w2.cell? ⟨w1.heap.size, 1, none⟩ = some (.int .u64 (lo st)) := cell_on hb2 (World.cell?_alloc_new _ _ _ _)
          have HD3 := Lib.hid HD2
          obtain ⟨x1, x2, x3, x4, x5, x6, x7, x8, y1, y2, y3, y4, hbx, hx0⟩ := HD2
          clear c1 c2 c3 c4 c5 c6 c7 c8 f1 f2 f3 f4 hc1 hf1 hc2 hf2
          go_region_with (first | (go_at_call 191; (with_reducible refine (BC.out _).mono ?_); rintro e w3 ⟨rfl, hb3⟩; (first | have D3 := Lib.hid (HD3.out.drew.below hb3) | have D3 := Lib.hid (D4.out.below hb3)); (first | have t0 := cell_on hb3 (drew_on s0) | have t0 := cell_on hb3 r0); (first | have t1 := cell_on hb3 (drew_on s1) | have t1 := cell_on hb3 r1); obtain ⟨z1, z2, z3, z4, z5, z6, z7, z8, v1, v2, v3, v4, hbz, hz0⟩ := D3.out) | (go_at_call 189; (with_reducible refine (SC.out _).mono ?_); rintro e w4 ⟨rfl, hb4⟩; (first | have D4 := Lib.hid (HD3.out.drew.below hb4) | have D4 := Lib.hid (D3.out.below hb4)); (first | have r0 := cell_on hb4 (drew_on s0) | have r0 := cell_on hb4 t0); (first | have r1 := cell_on hb4 (drew_on s1) | have r1 := cell_on hb4 t1); obtain ⟨m1, m2, m3, m4, m5, m6, m7, m8, l1, l2, l3, l4, hbm, hm0⟩ := D4.out))
          all_goals
            go_wp2
            refine ⟨⟨(k : Int) - 1, t, v, rfl, UP.out.2, ?_⟩, by simp [intOf]⟩
            first | (with_reducible exact D3.out.put t v) | (with_reducible exact D4.out.put t v) | (with_reducible exact DivAt.drew (D3.out.put t v)) | (with_reducible exact DivAt.drew (D4.out.put t v))
end Go.Proofs.YtmafgdinegboeaaGreat
