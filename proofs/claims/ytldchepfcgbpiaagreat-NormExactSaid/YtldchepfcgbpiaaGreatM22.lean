/-
  package norm: a product of two limbs and what is added to it; products of four limbs.
  package norm: products of four limbs.
  package norm: products held against each other.
-/
import Derived.LoopN
import Derived.Test.YtldchepfcgbpiaaGreatM13
import Derived.Test.YtldchepfcgbpiaaGreatM18
namespace Go.Proofs.YtldchepfcgbpiaaGreat
open Go.RowKit Go.Shelf

set_option maxRecDepth 100000 in
set_option maxHeartbeats 4000000 in
theorem together_any (x y a b : Nat) (hx : x < 18446744073709551616) (hy : y < 18446744073709551616) (ha : a < 18446744073709551616) (hb : b < 18446744073709551616) (w : World) :
    Calls Tryz.prog 96 #[.int .u64 (x : Nat), .int .u64 (y : Nat), .int .u64 (a : Nat), .int .u64 (b : Nat)] w fun e w' => e = .returned (.tuple #[.int .u64 (((x * y + a + b) / 18446744073709551616 : Nat) : Int), .int .u64 (((x * y + a + b) % 18446744073709551616 : Nat) : Int)]) ∧ w = w' := by
  have MC := Lib.hid (fun W : World => Tryz.bits_Mul64 x y hx hy W)
  have hm : x * y ≤ 18446744073709551615 * 18446744073709551615 := Nat.mul_le_mul (by omega) (by omega)
  clear hx hy
  obtain ⟨h, hh⟩ : ∃ h, h = x * y / 18446744073709551616 := ⟨_, rfl⟩
  obtain ⟨l, hl⟩ : ∃ l, l = x * y % 18446744073709551616 := ⟨_, rfl⟩
  rw [← hh, ← hl] at MC
  generalize x * y = p at *
  obtain ⟨l1, hl1⟩ : ∃ m, m = (l + a) % 18446744073709551616 := ⟨_, rfl⟩
  obtain ⟨c1, hc1⟩ : ∃ m, m = (l + a) / 18446744073709551616 := ⟨_, rfl⟩
  obtain ⟨l2, hl2⟩ : ∃ m, m = (l1 + b) % 18446744073709551616 := ⟨_, rfl⟩
  obtain ⟨c2, hc2⟩ : ∃ m, m = (l1 + b) / 18446744073709551616 := ⟨_, rfl⟩
  have E1 : ∀ W : World, (callFunc 71 #[.int .u64 (l : Int), .int .u64 (a : Int), .int .u64 0]).run Tryz.prog W = .ok (.value (.tuple #[.int .u64 (l1 : Int), .int .u64 (c1 : Int)])) W := fun W => by
    rw [add64_0 (l : Int) (a : Int) (by omega) (by omega) W, show ((l : Int) + (a : Int)) % 18446744073709551616 = (l1 : Int) by omega, show ((l : Int) + (a : Int)) / 18446744073709551616 = (c1 : Int) by omega]
  have E2 : ∀ W : World, (callFunc 71 #[.int .u64 (l1 : Int), .int .u64 (b : Int), .int .u64 0]).run Tryz.prog W = .ok (.value (.tuple #[.int .u64 (l2 : Int), .int .u64 (c2 : Int)])) W := fun W => by
    rw [add64_0 (l1 : Int) (b : Int) (by omega) (by omega) W, show ((l1 : Int) + (b : Int)) % 18446744073709551616 = (l2 : Int) by omega, show ((l1 : Int) + (b : Int)) / 18446744073709551616 = (c2 : Int) by omega]
  obtain ⟨h1, hh1⟩ : ∃ m, m = h + c1 := ⟨_, rfl⟩
  obtain ⟨h2, hh2⟩ : ∃ m, m = h1 + c2 := ⟨_, rfl⟩
  have R : (p + a + b) / 18446744073709551616 = h2 ∧ (p + a + b) % 18446744073709551616 = l2 := by omega
  have W1 : IntKind.u64.wrap ((h : Int) + (c1 : Int)) = (h1 : Int) := by rw [IntKind.wrap_u64]; omega
  have W2 : IntKind.u64.wrap ((h1 : Int) + (c2 : Int)) = (h2 : Int) := by rw [IntKind.wrap_u64]; omega
  have HR := Lib.hid R
  clear R hm ha hb hh hl hl1 hc1 hl2 hc2 hh1 hh2
  go_enter Tryz.func96, Tryz.ntmps96
  go_wp2_with (go_at_call 70; (with_reducible refine (MC.out _).mono ?_); rintro e w' ⟨rfl, rfl⟩)
  go_ret2
  exact ⟨by rw [HR.out.1, HR.out.2] <;> rfl, rfl⟩
end Go.Proofs.YtldchepfcgbpiaaGreat
namespace Go.Proofs.YtldchepfcgbpiaaGreat
open Go.RowKit Go.Shelf

/-- A number's four limbs, the highest first. -/
def Pv (n : Nat) : Value := .agg #[.int .u64 ((n / 6277101735386680763835789423207666416102355444464034512896 : Nat) : Int), .int .u64 ((n / 340282366920938463463374607431768211456 % 18446744073709551616 : Nat) : Int), .int .u64 ((n / 18446744073709551616 % 18446744073709551616 : Nat) : Int), .int .u64 ((n % 18446744073709551616 : Nat) : Int)]
theorem limbs {a0 a1 b0 b1 c1 p1 c2 p2 c3 p3 c4 p4 : Nat} (h1 : c1 = (a0 * b0 + 0 + 0) / 18446744073709551616) (k1 : p1 = (a0 * b0 + 0 + 0) % 18446744073709551616) (h2 : c2 = (a0 * b1 + 0 + c1) / 18446744073709551616) (k2 : p2 = (a0 * b1 + 0 + c1) % 18446744073709551616) (h3 : c3 = (a1 * b0 + p2 + 0) / 18446744073709551616) (k3 : p3 = (a1 * b0 + p2 + 0) % 18446744073709551616) (h4 : c4 = (a1 * b1 + c2 + c3) / 18446744073709551616) (k4 : p4 = (a1 * b1 + c2 + c3) % 18446744073709551616) :
    (a0 + 18446744073709551616 * a1) * (b0 + 18446744073709551616 * b1) / 6277101735386680763835789423207666416102355444464034512896 = c4 ∧ (a0 + 18446744073709551616 * a1) * (b0 + 18446744073709551616 * b1) / 340282366920938463463374607431768211456 % 18446744073709551616 = p4 ∧ (a0 + 18446744073709551616 * a1) * (b0 + 18446744073709551616 * b1) / 18446744073709551616 % 18446744073709551616 = p3 ∧ (a0 + 18446744073709551616 * a1) * (b0 + 18446744073709551616 * b1) % 18446744073709551616 = p1 := by
  have e : (a0 + 18446744073709551616 * a1) * (b0 + 18446744073709551616 * b1) = a0 * b0 + 18446744073709551616 * (a0 * b1) + 18446744073709551616 * (a1 * b0) + 340282366920938463463374607431768211456 * (a1 * b1) := by
    rw [Nat.add_mul, Nat.mul_add, Nat.mul_add, Nat.mul_assoc, Nat.mul_assoc, Nat.mul_left_comm a0 18446744073709551616 b1, Nat.mul_left_comm a1 18446744073709551616 b1, ← Nat.mul_assoc 18446744073709551616 18446744073709551616]
    omega
  rw [e]
  generalize a0 * b0 = s at *
  generalize a0 * b1 = t at *
  generalize a1 * b0 = u at *
  generalize a1 * b1 = v at *
  clear e
  omega
theorem infoU : (Tryz.prog.info? 57).map (fun i => (i.zero, i.size, i.bytes)) = some (some (.int .u64 0), 1, 8) := by kernel_rfl
theorem run_idx2 (a b : Value) (w : World) : (Instr.index 138 (.agg #[a, b]) (.int .i64 0)).run Tryz.prog w = .ok a w ∧ (Instr.index 138 (.agg #[a, b]) (.int .i64 1)).run Tryz.prog w = .ok b w := by
  obtain ⟨i, h1, h2, h3, _⟩ := info_parts infoU
  constructor <;> simp [Instr.index, run_underlying Tryz.underlying138, asIntOf, part, sizeOf, typeInfo, h1, h3, go_sem]
set_option maxRecDepth 100000 in
set_option maxHeartbeats 4000000 in
theorem times_limbs (a0 a1 b0 b1 : Nat) (ha : a0 < 18446744073709551616) (hb : b0 < 18446744073709551616) (ha1 : a1 < 9223372036854775808) (hb1 : b1 < 9223372036854775808) (w : World) :
    Calls Tryz.prog 73 #[.agg #[.int .i64 (a1 : Nat), .int .u64 (a0 : Nat)], .agg #[.int .i64 (b1 : Nat), .int .u64 (b0 : Nat)]] w fun e w' => e = .returned (Pv ((a0 + 18446744073709551616 * a1) * (b0 + 18446744073709551616 * b1))) ∧ Below w.heap.size w w' := by
  obtain ⟨c1, h1⟩ : ∃ k, k = (a0 * b0 + 0 + 0) / 18446744073709551616 := ⟨_, rfl⟩
  obtain ⟨p1, k1⟩ : ∃ k, k = (a0 * b0 + 0 + 0) % 18446744073709551616 := ⟨_, rfl⟩
  obtain ⟨c2, h2⟩ : ∃ k, k = (a0 * b1 + 0 + c1) / 18446744073709551616 := ⟨_, rfl⟩
  obtain ⟨p2, k2⟩ : ∃ k, k = (a0 * b1 + 0 + c1) % 18446744073709551616 := ⟨_, rfl⟩
  obtain ⟨c3, h3⟩ : ∃ k, k = (a1 * b0 + p2 + 0) / 18446744073709551616 := ⟨_, rfl⟩
  obtain ⟨p3, k3⟩ : ∃ k, k = (a1 * b0 + p2 + 0) % 18446744073709551616 := ⟨_, rfl⟩
  obtain ⟨c4, h4⟩ : ∃ k, k = (a1 * b1 + c2 + c3) / 18446744073709551616 := ⟨_, rfl⟩
  obtain ⟨p4, k4⟩ : ∃ k, k = (a1 * b1 + c2 + c3) % 18446744073709551616 := ⟨_, rfl⟩
  have R := Lib.hid (limbs h1 k1 h2 k2 h3 k3 h4 k4)
  have bd : ∀ {x y : Nat}, x < 18446744073709551616 → y < 18446744073709551616 → x * y ≤ 18446744073709551615 * 18446744073709551615 := fun hx hy => Nat.mul_le_mul (by omega) (by omega)
  have d1 := bd ha hb
  have d2 := bd ha (show b1 < 18446744073709551616 by omega)
  have d3 := bd (show a1 < 18446744073709551616 by omega) hb
  have T1 : Hid (∀ W : World, Calls Tryz.prog 96 #[.int .u64 (a0 : Int), .int .u64 (b0 : Int), .int .u64 0, .int .u64 0] W fun e w' => e = .returned (.tuple #[.int .u64 (c1 : Int), .int .u64 (p1 : Int)]) ∧ W = w') := Lib.hid (fun W => by rw [h1, k1]; exact together_any a0 b0 0 0 ha hb (by decide) (by decide) W)
  have T2 : Hid (∀ W : World, Calls Tryz.prog 96 #[.int .u64 (a0 : Int), .int .u64 (b1 : Int), .int .u64 0, .int .u64 (c1 : Int)] W fun e w' => e = .returned (.tuple #[.int .u64 (c2 : Int), .int .u64 (p2 : Int)]) ∧ W = w') := Lib.hid (fun W => by rw [h2, k2]; exact together_any a0 b1 0 c1 ha (by omega) (by decide) (by omega) W)
  have T3 : Hid (∀ W : World, Calls Tryz.prog 96 #[.int .u64 (a1 : Int), .int .u64 (b0 : Int), .int .u64 (p2 : Int), .int .u64 0] W fun e w' => e = .returned (.tuple #[.int .u64 (c3 : Int), .int .u64 (p3 : Int)]) ∧ W = w') := Lib.hid (fun W => by rw [h3, k3]; exact together_any a1 b0 p2 0 (by omega) hb (by omega) (by decide) W)
  have T4 : Hid (∀ W : World, Calls Tryz.prog 96 #[.int .u64 (a1 : Int), .int .u64 (b1 : Int), .int .u64 (c2 : Int), .int .u64 (c3 : Int)] W fun e w' => e = .returned (.tuple #[.int .u64 (c4 : Int), .int .u64 (p4 : Int)]) ∧ W = w') := Lib.hid (fun W => by rw [h4, k4]; exact together_any a1 b1 c2 c3 (by omega) (by omega) (by omega) (by omega) W)
  have W1 : IntKind.u64.wrap (a1 : Int) = (a1 : Int) := by rw [IntKind.wrap_u64]; omega
  have W2 : IntKind.u64.wrap (b1 : Int) = (b1 : Int) := by rw [IntKind.wrap_u64]; omega
  unfold Pv
  rw [R.out.1, R.out.2.1, R.out.2.2.1, R.out.2.2.2]
  have I0 := fun (a b : Value) (w : World) => (run_idx2 a b w).1
  have I1 := fun (a b : Value) (w : World) => (run_idx2 a b w).2
  clear R h1 k1 h2 k2 h3 k3 h4 k4 bd d1 d2 d3 ha hb ha1 hb1
  go_enter Tryz.func73, Tryz.ntmps73
  go_wp2
  refine wp_loop_rounds 3 ?_
  rw [rounds_succ]
  go_wp2_with (go_at_call 96; (with_reducible first | refine (T1.out _).mono ?_ | refine (T2.out _).mono ?_ | refine (T3.out _).mono ?_ | refine (T4.out _).mono ?_); rintro e w' ⟨rfl, rfl⟩)
  refine wp_loop_rounds 3 ?_
  rw [rounds_succ]
  go_wp2_with (go_at_call 96; (with_reducible first | refine (T1.out _).mono ?_ | refine (T2.out _).mono ?_ | refine (T3.out _).mono ?_ | refine (T4.out _).mono ?_); rintro e w' ⟨rfl, rfl⟩)
  rw [rounds_succ]
  go_wp2_with (go_at_call 96; (with_reducible first | refine (T1.out _).mono ?_ | refine (T2.out _).mono ?_ | refine (T3.out _).mono ?_ | refine (T4.out _).mono ?_); rintro e w' ⟨rfl, rfl⟩)
  rw [rounds_succ]
  go_wp2_with (go_at_call 96; (with_reducible first | refine (T1.out _).mono ?_ | refine (T2.out _).mono ?_ | refine (T3.out _).mono ?_ | refine (T4.out _).mono ?_); rintro e w' ⟨rfl, rfl⟩)
  rw [rounds_succ]
  go_wp2_with (go_at_call 96; (with_reducible first | refine (T1.out _).mono ?_ | refine (T2.out _).mono ?_ | refine (T3.out _).mono ?_ | refine (T4.out _).mono ?_); rintro e w' ⟨rfl, rfl⟩)
  refine wp_loop_rounds 3 ?_
  rw [rounds_succ]
  go_wp2_with (go_at_call 96; (with_reducible first | refine (T1.out _).mono ?_ | refine (T2.out _).mono ?_ | refine (T3.out _).mono ?_ | refine (T4.out _).mono ?_); rintro e w' ⟨rfl, rfl⟩)
  rw [rounds_succ]
  go_wp2_with (go_at_call 96; (with_reducible first | refine (T1.out _).mono ?_ | refine (T2.out _).mono ?_ | refine (T3.out _).mono ?_ | refine (T4.out _).mono ?_); rintro e w' ⟨rfl, rfl⟩)
  rw [rounds_succ]
  go_wp2_with (go_at_call 96; (with_reducible first | refine (T1.out _).mono ?_ | refine (T2.out _).mono ?_ | refine (T3.out _).mono ?_ | refine (T4.out _).mono ?_); rintro e w' ⟨rfl, rfl⟩)
  rw [rounds_succ]
  go_wp2_with (go_at_call 96; (with_reducible first | refine (T1.out _).mono ?_ | refine (T2.out _).mono ?_ | refine (T3.out _).mono ?_ | refine (T4.out _).mono ?_); rintro e w' ⟨rfl, rfl⟩)
  refine bodyPost_ret (v := .agg #[.int .u64 (c4 : Int), .int .u64 (p4 : Int), .int .u64 (p3 : Int), .int .u64 (p1 : Int)]) (by simp [results, Tryz.results73, go_sem]) rfl ⟨rfl, ?_⟩
  exact ((((Below.refl _ _).alloc (Nat.le_refl _) _).alloc (by simp) _).alloc (by simp; omega) _).alloc (by simp; omega) _
theorem times_any (m n : Int) (hm : 0 ≤ m) (hn : 0 ≤ n) (rm : R m) (rn : R n) (w : World) :
    Calls Tryz.prog 73 #[Wv m, Wv n] w fun e w' => e = .returned (Pv (m.toNat * n.toNat)) ∧ Below w.heap.size w w' := by
  rw [R_iff] at rm rn
  obtain ⟨a0, ha0⟩ := Int.eq_ofNat_of_zero_le (show 0 ≤ lo m by unfold lo; omega)
  obtain ⟨a1, ha1⟩ := Int.eq_ofNat_of_zero_le (show 0 ≤ hi m by unfold hi; omega)
  obtain ⟨b0, hb0⟩ := Int.eq_ofNat_of_zero_le (show 0 ≤ lo n by unfold lo; omega)
  obtain ⟨b1, hb1⟩ := Int.eq_ofNat_of_zero_le (show 0 ≤ hi n by unfold hi; omega)
  have e1 : m.toNat = a0 + 18446744073709551616 * a1 := by unfold lo at ha0; unfold hi at ha1; omega
  have e2 : n.toNat = b0 + 18446744073709551616 * b1 := by unfold lo at hb0; unfold hi at hb1; omega
  rw [e1, e2]
  unfold Wv
  rw [ha0, ha1, hb0, hb1]
  exact times_limbs a0 a1 b0 b1 (by unfold lo at ha0; omega) (by unfold lo at hb0; omega) (by unfold hi at ha1; omega) (by unfold hi at hb1; omega) w
end Go.Proofs.YtldchepfcgbpiaaGreat
namespace Go.Proofs.YtldchepfcgbpiaaGreat
open Go.RowKit Go.Shelf

set_option maxRecDepth 100000 in
set_option maxHeartbeats 4000000 in
theorem cmp4_0 {g h : Nat} {x0 x1 x2 x3 y0 y1 y2 y3 : Int} {W : World} (c0 : W.cell? ⟨g, 0, none⟩ = some (.int .u64 x0)) (d0 : W.cell? ⟨h, 0, none⟩ = some (.int .u64 y0)) (_c1 : W.cell? ⟨g, 1, none⟩ = some (.int .u64 x1)) (_d1 : W.cell? ⟨h, 1, none⟩ = some (.int .u64 y1)) (_c2 : W.cell? ⟨g, 2, none⟩ = some (.int .u64 x2)) (_d2 : W.cell? ⟨h, 2, none⟩ = some (.int .u64 y2)) (_c3 : W.cell? ⟨g, 3, none⟩ = some (.int .u64 x3)) (_d3 : W.cell? ⟨h, 3, none⟩ = some (.int .u64 y3))  (n : sg x0 y0 ≠ 0) :
    Calls Tryz.prog 97 #[.slice (some ⟨g, 0, none⟩) 4 4, .slice (some ⟨h, 0, none⟩) 4 4] W fun e w' => e = .returned (.int .i64 (sg x0 y0)) ∧ W = w' := by
  have C0 := Lib.hid (fun V : World => compare_u64 x0 y0 V)
  obtain ⟨s, hs⟩ : ∃ s, s = sg x0 y0 := ⟨_, rfl⟩
  rw [← hs] at C0 n ⊢
  have n1 : (s != 0) = true := bne_iff_ne.2 n
  clear hs n
  go_enter Tryz.func97, Tryz.ntmps97
  go_wp2
  refine wp_loop_rounds 6 ?_
  rw [rounds_succ]
  go_wp2_with (go_at_call 105; (with_reducible first | refine (C0.out _).mono ?_); rintro e w' ⟨rfl, rfl⟩)
  go_ret
  exact ⟨rfl, rfl⟩
set_option maxRecDepth 100000 in
set_option maxHeartbeats 4000000 in
theorem cmp4_1 {g h : Nat} {x0 x1 x2 x3 y0 y1 y2 y3 : Int} {W : World} (c0 : W.cell? ⟨g, 0, none⟩ = some (.int .u64 x0)) (d0 : W.cell? ⟨h, 0, none⟩ = some (.int .u64 y0)) (c1 : W.cell? ⟨g, 1, none⟩ = some (.int .u64 x1)) (d1 : W.cell? ⟨h, 1, none⟩ = some (.int .u64 y1)) (_c2 : W.cell? ⟨g, 2, none⟩ = some (.int .u64 x2)) (_d2 : W.cell? ⟨h, 2, none⟩ = some (.int .u64 y2)) (_c3 : W.cell? ⟨g, 3, none⟩ = some (.int .u64 x3)) (_d3 : W.cell? ⟨h, 3, none⟩ = some (.int .u64 y3)) (e0 : sg x0 y0 = 0) (n : sg x1 y1 ≠ 0) :
    Calls Tryz.prog 97 #[.slice (some ⟨g, 0, none⟩) 4 4, .slice (some ⟨h, 0, none⟩) 4 4] W fun e w' => e = .returned (.int .i64 (sg x1 y1)) ∧ W = w' := by
  have C0 : Hid (∀ V : World, Calls Tryz.prog 105 #[.int .u64 x0, .int .u64 y0] V fun e w' => e = .returned (.int .i64 0) ∧ V = w') := Lib.hid (fun V => by have q := compare_u64 x0 y0 V; rwa [e0] at q)
  have C1 := Lib.hid (fun V : World => compare_u64 x1 y1 V)
  obtain ⟨s, hs⟩ : ∃ s, s = sg x1 y1 := ⟨_, rfl⟩
  rw [← hs] at C1 n ⊢
  have n1 : (s != 0) = true := bne_iff_ne.2 n
  clear hs n
  clear e0
  go_enter Tryz.func97, Tryz.ntmps97
  go_wp2
  refine wp_loop_rounds 6 ?_
  rw [rounds_succ]
  go_wp2_with (go_at_call 105; (with_reducible first | refine (C0.out _).mono ?_ | refine (C1.out _).mono ?_); rintro e w' ⟨rfl, rfl⟩)
  rw [rounds_succ]
  go_wp2_with (go_at_call 105; (with_reducible first | refine (C0.out _).mono ?_ | refine (C1.out _).mono ?_); rintro e w' ⟨rfl, rfl⟩)
  go_ret
  exact ⟨rfl, rfl⟩
set_option maxRecDepth 100000 in
set_option maxHeartbeats 4000000 in
theorem cmp4_2 {g h : Nat} {x0 x1 x2 x3 y0 y1 y2 y3 : Int} {W : World} (c0 : W.cell? ⟨g, 0, none⟩ = some (.int .u64 x0)) (d0 : W.cell? ⟨h, 0, none⟩ = some (.int .u64 y0)) (c1 : W.cell? ⟨g, 1, none⟩ = some (.int .u64 x1)) (d1 : W.cell? ⟨h, 1, none⟩ = some (.int .u64 y1)) (c2 : W.cell? ⟨g, 2, none⟩ = some (.int .u64 x2)) (d2 : W.cell? ⟨h, 2, none⟩ = some (.int .u64 y2)) (_c3 : W.cell? ⟨g, 3, none⟩ = some (.int .u64 x3)) (_d3 : W.cell? ⟨h, 3, none⟩ = some (.int .u64 y3)) (e0 : sg x0 y0 = 0) (e1 : sg x1 y1 = 0) (n : sg x2 y2 ≠ 0) :
    Calls Tryz.prog 97 #[.slice (some ⟨g, 0, none⟩) 4 4, .slice (some ⟨h, 0, none⟩) 4 4] W fun e w' => e = .returned (.int .i64 (sg x2 y2)) ∧ W = w' := by
  have C0 : Hid (∀ V : World, Calls Tryz.prog 105 #[.int .u64 x0, .int .u64 y0] V fun e w' => e = .returned (.int .i64 0) ∧ V = w') := Lib.hid (fun V => by have q := compare_u64 x0 y0 V; rwa [e0] at q)
  have C1 : Hid (∀ V : World, Calls Tryz.prog 105 #[.int .u64 x1, .int .u64 y1] V fun e w' => e = .returned (.int .i64 0) ∧ V = w') := Lib.hid (fun V => by have q := compare_u64 x1 y1 V; rwa [e1] at q)
  have C2 := Lib.hid (fun V : World => compare_u64 x2 y2 V)
  obtain ⟨s, hs⟩ : ∃ s, s = sg x2 y2 := ⟨_, rfl⟩
  rw [← hs] at C2 n ⊢
  have n1 : (s != 0) = true := bne_iff_ne.2 n
  clear hs n
  clear e0 e1
  go_enter Tryz.func97, Tryz.ntmps97
  go_wp2
  refine wp_loop_rounds 6 ?_
  rw [rounds_succ]
  go_wp2_with (go_at_call 105; (with_reducible first | refine (C0.out _).mono ?_ | refine (C1.out _).mono ?_ | refine (C2.out _).mono ?_); rintro e w' ⟨rfl, rfl⟩)
  rw [rounds_succ]
  go_wp2_with (go_at_call 105; (with_reducible first | refine (C0.out _).mono ?_ | refine (C1.out _).mono ?_ | refine (C2.out _).mono ?_); rintro e w' ⟨rfl, rfl⟩)
  rw [rounds_succ]
  go_wp2_with (go_at_call 105; (with_reducible first | refine (C0.out _).mono ?_ | refine (C1.out _).mono ?_ | refine (C2.out _).mono ?_); rintro e w' ⟨rfl, rfl⟩)
  go_ret
  exact ⟨rfl, rfl⟩
set_option maxRecDepth 100000 in
set_option maxHeartbeats 4000000 in
theorem cmp4_3 {g h : Nat} {x0 x1 x2 x3 y0 y1 y2 y3 : Int} {W : World} (c0 : W.cell? ⟨g, 0, none⟩ = some (.int .u64 x0)) (d0 : W.cell? ⟨h, 0, none⟩ = some (.int .u64 y0)) (c1 : W.cell? ⟨g, 1, none⟩ = some (.int .u64 x1)) (d1 : W.cell? ⟨h, 1, none⟩ = some (.int .u64 y1)) (c2 : W.cell? ⟨g, 2, none⟩ = some (.int .u64 x2)) (d2 : W.cell? ⟨h, 2, none⟩ = some (.int .u64 y2)) (c3 : W.cell? ⟨g, 3, none⟩ = some (.int .u64 x3)) (d3 : W.cell? ⟨h, 3, none⟩ = some (.int .u64 y3)) (e0 : sg x0 y0 = 0) (e1 : sg x1 y1 = 0) (e2 : sg x2 y2 = 0) (n : sg x3 y3 ≠ 0) :
    Calls Tryz.prog 97 #[.slice (some ⟨g, 0, none⟩) 4 4, .slice (some ⟨h, 0, none⟩) 4 4] W fun e w' => e = .returned (.int .i64 (sg x3 y3)) ∧ W = w' := by
  have C0 : Hid (∀ V : World, Calls Tryz.prog 105 #[.int .u64 x0, .int .u64 y0] V fun e w' => e = .returned (.int .i64 0) ∧ V = w') := Lib.hid (fun V => by have q := compare_u64 x0 y0 V; rwa [e0] at q)
  have C1 : Hid (∀ V : World, Calls Tryz.prog 105 #[.int .u64 x1, .int .u64 y1] V fun e w' => e = .returned (.int .i64 0) ∧ V = w') := Lib.hid (fun V => by have q := compare_u64 x1 y1 V; rwa [e1] at q)
  have C2 : Hid (∀ V : World, Calls Tryz.prog 105 #[.int .u64 x2, .int .u64 y2] V fun e w' => e = .returned (.int .i64 0) ∧ V = w') := Lib.hid (fun V => by have q := compare_u64 x2 y2 V; rwa [e2] at q)
  have C3 := Lib.hid (fun V : World => compare_u64 x3 y3 V)
  obtain ⟨s, hs⟩ : ∃ s, s = sg x3 y3 := ⟨_, rfl⟩
  rw [← hs] at C3 n ⊢
  have n1 : (s != 0) = true := bne_iff_ne.2 n
  clear hs n
  clear e0 e1 e2
  go_enter Tryz.func97, Tryz.ntmps97
  go_wp2
  refine wp_loop_rounds 6 ?_
  rw [rounds_succ]
  go_wp2_with (go_at_call 105; (with_reducible first | refine (C0.out _).mono ?_ | refine (C1.out _).mono ?_ | refine (C2.out _).mono ?_ | refine (C3.out _).mono ?_); rintro e w' ⟨rfl, rfl⟩)
  rw [rounds_succ]
  go_wp2_with (go_at_call 105; (with_reducible first | refine (C0.out _).mono ?_ | refine (C1.out _).mono ?_ | refine (C2.out _).mono ?_ | refine (C3.out _).mono ?_); rintro e w' ⟨rfl, rfl⟩)
  rw [rounds_succ]
  go_wp2_with (go_at_call 105; (with_reducible first | refine (C0.out _).mono ?_ | refine (C1.out _).mono ?_ | refine (C2.out _).mono ?_ | refine (C3.out _).mono ?_); rintro e w' ⟨rfl, rfl⟩)
  rw [rounds_succ]
  go_wp2_with (go_at_call 105; (with_reducible first | refine (C0.out _).mono ?_ | refine (C1.out _).mono ?_ | refine (C2.out _).mono ?_ | refine (C3.out _).mono ?_); rintro e w' ⟨rfl, rfl⟩)
  go_ret
  exact ⟨rfl, rfl⟩
set_option maxRecDepth 100000 in
set_option maxHeartbeats 4000000 in
theorem cmp4_4 {g h : Nat} {x0 x1 x2 x3 y0 y1 y2 y3 : Int} {W : World} (c0 : W.cell? ⟨g, 0, none⟩ = some (.int .u64 x0)) (d0 : W.cell? ⟨h, 0, none⟩ = some (.int .u64 y0)) (c1 : W.cell? ⟨g, 1, none⟩ = some (.int .u64 x1)) (d1 : W.cell? ⟨h, 1, none⟩ = some (.int .u64 y1)) (c2 : W.cell? ⟨g, 2, none⟩ = some (.int .u64 x2)) (d2 : W.cell? ⟨h, 2, none⟩ = some (.int .u64 y2)) (c3 : W.cell? ⟨g, 3, none⟩ = some (.int .u64 x3)) (d3 : W.cell? ⟨h, 3, none⟩ = some (.int .u64 y3)) (e0 : sg x0 y0 = 0) (e1 : sg x1 y1 = 0) (e2 : sg x2 y2 = 0) (e3 : sg x3 y3 = 0) :
    Calls Tryz.prog 97 #[.slice (some ⟨g, 0, none⟩) 4 4, .slice (some ⟨h, 0, none⟩) 4 4] W fun e w' => e = .returned (.int .i64 (0)) ∧ W = w' := by
  have C0 : Hid (∀ V : World, Calls Tryz.prog 105 #[.int .u64 x0, .int .u64 y0] V fun e w' => e = .returned (.int .i64 0) ∧ V = w') := Lib.hid (fun V => by have q := compare_u64 x0 y0 V; rwa [e0] at q)
  have C1 : Hid (∀ V : World, Calls Tryz.prog 105 #[.int .u64 x1, .int .u64 y1] V fun e w' => e = .returned (.int .i64 0) ∧ V = w') := Lib.hid (fun V => by have q := compare_u64 x1 y1 V; rwa [e1] at q)
  have C2 : Hid (∀ V : World, Calls Tryz.prog 105 #[.int .u64 x2, .int .u64 y2] V fun e w' => e = .returned (.int .i64 0) ∧ V = w') := Lib.hid (fun V => by have q := compare_u64 x2 y2 V; rwa [e2] at q)
  have C3 : Hid (∀ V : World, Calls Tryz.prog 105 #[.int .u64 x3, .int .u64 y3] V fun e w' => e = .returned (.int .i64 0) ∧ V = w') := Lib.hid (fun V => by have q := compare_u64 x3 y3 V; rwa [e3] at q)
  clear e0 e1 e2 e3
  go_enter Tryz.func97, Tryz.ntmps97
  go_wp2
  refine wp_loop_rounds 6 ?_
  rw [rounds_succ]
  go_wp2_with (go_at_call 105; (with_reducible first | refine (C0.out _).mono ?_ | refine (C1.out _).mono ?_ | refine (C2.out _).mono ?_ | refine (C3.out _).mono ?_); rintro e w' ⟨rfl, rfl⟩)
  rw [rounds_succ]
  go_wp2_with (go_at_call 105; (with_reducible first | refine (C0.out _).mono ?_ | refine (C1.out _).mono ?_ | refine (C2.out _).mono ?_ | refine (C3.out _).mono ?_); rintro e w' ⟨rfl, rfl⟩)
  rw [rounds_succ]
  go_wp2_with (go_at_call 105; (with_reducible first | refine (C0.out _).mono ?_ | refine (C1.out _).mono ?_ | refine (C2.out _).mono ?_ | refine (C3.out _).mono ?_); rintro e w' ⟨rfl, rfl⟩)
  rw [rounds_succ]
  go_wp2_with (go_at_call 105; (with_reducible first | refine (C0.out _).mono ?_ | refine (C1.out _).mono ?_ | refine (C2.out _).mono ?_ | refine (C3.out _).mono ?_); rintro e w' ⟨rfl, rfl⟩)
  rw [rounds_succ]
  go_wp2_with (go_at_call 105; (with_reducible first | refine (C0.out _).mono ?_ | refine (C1.out _).mono ?_ | refine (C2.out _).mono ?_ | refine (C3.out _).mono ?_); rintro e w' ⟨rfl, rfl⟩)
  go_ret
  exact ⟨rfl, rfl⟩
theorem sg_ne {a b : Int} (h : sg a b ≠ 0) : a ≠ b := fun e => h (by rw [e]; exact sg_eq b)
theorem sg_zero {a b : Int} (h : sg a b = 0) : a = b := by
  unfold sg at h
  split at h
  · simp at h
  · split at h
    · simp at h
    · omega
theorem sg_of {a b c d : Int} (h1 : a < b ↔ c < d) (h2 : b < a ↔ d < c) : sg a b = sg c d := by
  unfold sg
  simp only [h1, gt_iff_lt, h2]
theorem limbs_of (n : Nat) : ∃ n0 n1 n2 n3 : Nat, n % 18446744073709551616 = n0 ∧ n / 18446744073709551616 % 18446744073709551616 = n1 ∧ n / 340282366920938463463374607431768211456 % 18446744073709551616 = n2 ∧ n / 6277101735386680763835789423207666416102355444464034512896 = n3 ∧ n = n0 + 18446744073709551616 * n1 + 340282366920938463463374607431768211456 * n2 + 6277101735386680763835789423207666416102355444464034512896 * n3 ∧ n0 < 18446744073709551616 ∧ n1 < 18446744073709551616 ∧ n2 < 18446744073709551616 := by
  refine ⟨_, _, _, _, rfl, rfl, rfl, rfl, ?_, ?_, ?_, ?_⟩ <;> omega
theorem pcmp_any {g h : Nat} (m n : Nat) {W : World} {cs ds : Array Value} (hc : Blk W g 118 cs) (hd : Blk W h 118 ds) (ec : Pv m = .agg cs) (ed : Pv n = .agg ds) :
    Calls Tryz.prog 97 #[.slice (some ⟨g, 0, none⟩) 4 4, .slice (some ⟨h, 0, none⟩) 4 4] W fun e w' => e = .returned (.int .i64 (sg (m : Int) (n : Int))) ∧ W = w' := by
  obtain ⟨m0, m1, m2, m3, a0, a1, a2, a3, em, b0, b1, b2⟩ := limbs_of m
  obtain ⟨n0, n1, n2, n3, a4, a5, a6, a7, en, b4, b5, b6⟩ := limbs_of n
  unfold Pv at ec ed
  rw [a0, a1, a2, a3] at ec
  rw [a4, a5, a6, a7] at ed
  clear a0 a1 a2 a3 a4 a5 a6 a7
  simp only [Value.agg.injEq] at ec ed
  subst ec ed
  have c0 := hc.cell 0
  have c1 := hc.cell 1
  have c2 := hc.cell 2
  have c3 := hc.cell 3
  have d0 := hd.cell 0
  have d1 := hd.cell 1
  have d2 := hd.cell 2
  have d3 := hd.cell 3
  by_cases g3 : sg (m3 : Int) (n3 : Int) = 0
  · by_cases g2 : sg (m2 : Int) (n2 : Int) = 0
    · by_cases g1 : sg (m1 : Int) (n1 : Int) = 0
      · by_cases g0 : sg (m0 : Int) (n0 : Int) = 0
        · have q3 := sg_zero g3
          have q2 := sg_zero g2
          have q1 := sg_zero g1
          have q0 := sg_zero g0
          rw [show (m : Int) = (n : Int) by omega, sg_eq]
          exact cmp4_4 c0 d0 c1 d1 c2 d2 c3 d3 g3 g2 g1 g0
        · have q3 := sg_zero g3
          have q2 := sg_zero g2
          have q1 := sg_zero g1
          rw [sg_of (a := (m : Int)) (b := (n : Int)) (c := (m0 : Int)) (d := (n0 : Int)) (by omega) (by omega)]
          exact cmp4_3 c0 d0 c1 d1 c2 d2 c3 d3 g3 g2 g1 g0
      · have q3 := sg_zero g3
        have q2 := sg_zero g2
        have q1 := sg_ne g1
        rw [sg_of (a := (m : Int)) (b := (n : Int)) (c := (m1 : Int)) (d := (n1 : Int)) (by omega) (by omega)]
        exact cmp4_2 c0 d0 c1 d1 c2 d2 c3 d3 g3 g2 g1
    · have q3 := sg_zero g3
      have q2 := sg_ne g2
      rw [sg_of (a := (m : Int)) (b := (n : Int)) (c := (m2 : Int)) (d := (n2 : Int)) (by omega) (by omega)]
      exact cmp4_1 c0 d0 c1 d1 c2 d2 c3 d3 g3 g2
  · have q3 := sg_ne g3
    rw [sg_of (a := (m : Int)) (b := (n : Int)) (c := (m3 : Int)) (d := (n3 : Int)) (by omega) (by omega)]
    exact cmp4_0 c0 d0 c1 d1 c2 d2 c3 d3 g3
set_option maxRecDepth 100000 in
set_option maxHeartbeats 4000000 in
theorem compare_pv (m n : Nat) (w : World) : Calls Tryz.prog 74 #[Pv m, Pv n] w fun e w' => e = .returned (.int .i64 (sg (m : Int) (n : Int))) ∧ Below w.heap.size w w' := by
  obtain ⟨cs, hcs⟩ : ∃ cs, Pv m = .agg cs := ⟨_, rfl⟩
  obtain ⟨ds, hds⟩ : ∃ ds, Pv n = .agg ds := ⟨_, rfl⟩
  obtain ⟨m3, m2, m1, m0, e1⟩ : ∃ a b c d, cs = #[.int .u64 a, .int .u64 b, .int .u64 c, .int .u64 d] := by unfold Pv at hcs; simp only [Value.agg.injEq] at hcs; exact ⟨_, _, _, _, hcs.symm⟩
  obtain ⟨n3, n2, n1, n0, e2⟩ : ∃ a b c d, ds = #[.int .u64 a, .int .u64 b, .int .u64 c, .int .u64 d] := by unfold Pv at hds; simp only [Value.agg.injEq] at hds; exact ⟨_, _, _, _, hds.symm⟩
  have KC := Lib.hid (fun (V : World) (hV : Below ((w.alloc (.cells cs 118)).alloc (.cells ds 118)).heap.size ((w.alloc (.cells cs 118)).alloc (.cells ds 118)) V) => pcmp_any (g := w.heap.size) (h := w.heap.size + 1) m n (W := V) (((Blk.new w 118 cs).alloc _).below hV (by simp; omega)) ((by have q := Blk.new (w.alloc (.cells cs 118)) 118 ds; rwa [World.size_alloc] at q : Blk _ (w.heap.size + 1) 118 ds).below hV (by simp)) hcs hds)
  obtain ⟨w2, hw2⟩ : ∃ w2, w2 = (w.alloc (.cells cs 118)).alloc (.cells ds 118) := ⟨_, rfl⟩
  have B2 : Hid (Below w.heap.size w w2) := Lib.hid (by rw [hw2]; exact ((Below.refl _ _).alloc (Nat.le_refl _) _).alloc (by simp) _)
  rw [← hw2] at KC
  have HW := Lib.hid hw2
  clear hw2
  rw [hcs, hds]
  have HE := Lib.hid (And.intro hcs hds)
  clear hcs hds
  subst e1 e2
  go_enter Tryz.func74, Tryz.ntmps74
  go_upto_region 1 with fail
  rw [← HW.out]
  clear HW
  go_quiet ((go_at_call 97; exact Calls.quiet_of_same ((KC.out _ (below_drw (Below.refl _ _) _)).mono fun _ _ h => ⟨h.1, h.2.symm⟩)))
  go_wp2
  go_ret
  exact ⟨rfl, below_drw B2.out _⟩
end Go.Proofs.YtldchepfcgbpiaaGreat
