/-
  package norm: the nearest whole number, by squares.
  package norm: a row's distance and norm of one word.
-/
import Derived.BigQuiet
import Derived.BigRegion
import Derived.Test.YtldchepfcgbpiaaGreatM22
namespace Go.Proofs.YtldchepfcgbpiaaGreat
open Go.RowKit Go.Shelf

theorem blkz2 {W : World} {b : Nat} {t : TypeId} {x y : Value} (h : Blk W b t #[x, y]) : W.cell? ⟨b, 0, none⟩ = some x ∧ W.cell? ⟨b, 1, none⟩ = some y ∧ W.frozen? ⟨b, 0, none⟩ = false ∧ W.frozen? ⟨b, 1, none⟩ = false := ⟨h.cell 0, h.cell 1, h.frozen 0, h.frozen 1⟩
theorem blkz4 {W : World} {b : Nat} {t : TypeId} {x y z u : Value} (h : Blk W b t #[x, y, z, u]) : W.cell? ⟨b, 0, none⟩ = some x ∧ W.cell? ⟨b, 1, none⟩ = some y ∧ W.cell? ⟨b, 2, none⟩ = some z ∧ W.cell? ⟨b, 3, none⟩ = some u ∧ W.frozen? ⟨b, 0, none⟩ = false ∧ W.frozen? ⟨b, 1, none⟩ = false ∧ W.frozen? ⟨b, 2, none⟩ = false ∧ W.frozen? ⟨b, 3, none⟩ = false := ⟨h.cell 0, h.cell 1, h.cell 2, h.cell 3, h.frozen 0, h.frozen 1, h.frozen 2, h.frozen 3⟩
/-- The search: j powers of two are left, k is told so far; Q times a double's square is held against D. -/
def nsr (Q D : Nat) : Nat → Int → Int
  | 0, k => k
  | j + 1, k => if sg ((((2 * (k + 2 ^ j) - 1) * (2 * (k + 2 ^ j) - 1)).toNat * Q : Nat) : Int) (D : Int) = 0 then (k + 2 ^ j) - (k + 2 ^ j).tmod 2 else if sg ((((2 * (k + 2 ^ j) - 1) * (2 * (k + 2 ^ j) - 1)).toNat * Q : Nat) : Int) (D : Int) = -1 then nsr Q D j (k + 2 ^ j) else nsr Q D j k
/-- What its loop carries. -/
def NsI (Q D f j : Nat) (k b : Int) : Prop := (0 ≤ k ∧ k + 2 ^ j ≤ 2 ^ (f + 6)) ∧ ((j = 0 ∧ b = 0) ∨ ∃ i, j = i + 1 ∧ b = 2 ^ i) ∧ nsr Q D j k = nsr Q D (f + 6) 0
theorem nsi_end {Q D f j : Nat} {k b : Int} (h : NsI Q D f j k b) (hb : ¬ 0 < b) : nsr Q D (f + 6) 0 = k := by
  obtain ⟨_, h2 | ⟨i, rfl, rfl⟩, h3⟩ := h
  · obtain ⟨rfl, rfl⟩ := h2
    exact h3.symm
  · exact absurd (Int.pow_pos (by decide)) hb
theorem wrp {x : Int} (h : -9223372036854775808 ≤ x ∧ x ≤ 9223372036854775807) : wrap64 x = x ∧ IntKind.i64.wrap x = x := ⟨IntWalk.wrap64_in x h, IntWalk.i64_in x h⟩
theorem nsi_round {Q D f j : Nat} {k b : Int} (h : NsI Q D f j k b) (hf : f ≤ 32) (hb : 0 < b) : ∃ nx h2 ha b2 rm e2 : Int, (wrap64 (k + b) = nx ∧ IntKind.i64.wrap (k + b) = nx) ∧ (wrap64 (2 * nx) = h2 ∧ IntKind.i64.wrap (2 * nx) = h2) ∧ (wrap64 (h2 - 1) = ha ∧ IntKind.i64.wrap (h2 - 1) = ha) ∧ (b.tdiv 2 = b2 ∧ wrap64 b2 = b2 ∧ IntKind.i64.wrap b2 = b2) ∧ (nx.tmod 2 = rm ∧ wrap64 rm = rm ∧ IntKind.i64.wrap rm = rm) ∧ (wrap64 (nx - rm) = e2 ∧ IntKind.i64.wrap (nx - rm) = e2) ∧ (0 ≤ ha ∧ ha ≤ 1099511627776) ∧ (0 ≤ b2 ∧ b2 < b) ∧
    (sg (((ha * ha).toNat * Q : Nat) : Int) (D : Int) = 0 → nsr Q D (f + 6) 0 = e2) ∧ (sg (((ha * ha).toNat * Q : Nat) : Int) (D : Int) = -1 → ∃ i, NsI Q D f i nx b2) ∧ (sg (((ha * ha).toNat * Q : Nat) : Int) (D : Int) ≠ 0 → sg (((ha * ha).toNat * Q : Nat) : Int) (D : Int) ≠ -1 → ∃ i, NsI Q D f i k b2) := by
  obtain ⟨⟨k0, k1⟩, h2, h3⟩ := h
  obtain ⟨i, rfl, rfl⟩ : ∃ i, j = i + 1 ∧ b = 2 ^ i := by
    rcases h2 with ⟨_, rfl⟩ | h2
    · exact absurd hb (by decide)
    · exact h2
  have hp : (2 : Int) ^ (i + 1) = 2 * 2 ^ i := by rw [Int.pow_succ, Int.mul_comm]
  have hm : (2 : Int) ^ (f + 6) ≤ 274877906944 := by
    have q := Nat.pow_le_pow_right (show 0 < 2 by decide) (show f + 6 ≤ 38 by omega)
    have e : ((2 ^ (f + 6) : Nat) : Int) = 2 ^ (f + 6) := by push_cast; rfl
    rw [← e]
    have e2 : (2 : Nat) ^ 38 = 274877906944 := by decide
    omega
  have hd : ((2 : Int) ^ i).tdiv 2 = 0 ∧ i = 0 ∨ ∃ m, i = m + 1 ∧ ((2 : Int) ^ i).tdiv 2 = 2 ^ m := by
    cases i with
    | zero => exact .inl ⟨by decide, rfl⟩
    | succ m => exact .inr ⟨m, rfl, by rw [Int.pow_succ]; exact Int.mul_tdiv_cancel _ (by decide)⟩
  have hd0 : 0 ≤ ((2 : Int) ^ i).tdiv 2 ∧ ((2 : Int) ^ i).tdiv 2 < 2 ^ i := by
    rw [Int.tdiv_eq_ediv_of_nonneg (by omega)]; omega
  unfold nsr at h3
  generalize hN : k + (2 : Int) ^ i = nx at *
  have hr : 0 ≤ nx.tmod 2 ∧ nx.tmod 2 ≤ 1 := by rw [Int.tmod_eq_emod_of_nonneg (by omega)]; omega
  obtain ⟨ha, hha⟩ : ∃ x, x = 2 * nx - 1 := ⟨_, rfl⟩
  rw [← hha] at h3
  have hnx : nx ≤ 274877906944 := by omega
  refine ⟨nx, 2 * nx, ha, ((2 : Int) ^ i).tdiv 2, nx.tmod 2, nx - nx.tmod 2, wrp (by omega), wrp (by omega), by rw [hha]; exact wrp (by omega), ⟨rfl, wrp (by omega)⟩, ⟨rfl, wrp (by omega)⟩, wrp (by omega), by omega, hd0, fun c => ?_, fun c => ?_, fun c c' => ?_⟩
  · rw [if_pos c] at h3; exact h3.symm
  · rw [if_neg (by rw [c]; decide), if_pos c] at h3
    refine ⟨i, ⟨by omega, by omega⟩, ?_, h3⟩
    rcases hd with ⟨e, rfl⟩ | ⟨m, rfl, e⟩
    · exact .inl ⟨rfl, e⟩
    · exact .inr ⟨m, rfl, e⟩
  · rw [if_neg c, if_neg c'] at h3
    refine ⟨i, ⟨by omega, by omega⟩, ?_, h3⟩
    rcases hd with ⟨e, rfl⟩ | ⟨m, rfl, e⟩
    · exact .inl ⟨rfl, e⟩
    · exact .inr ⟨m, rfl, e⟩
theorem nsi_begin (Q D f : Nat) : NsI Q D f (f + 6) 0 (2 ^ (f + 5)) := ⟨⟨Int.le_refl _, by rw [Int.zero_add]; exact Int.le_refl _⟩, .inr ⟨f + 5, rfl, rfl⟩, rfl⟩
/-- A row's five numbers. -/
def Rw (n s q : Int) (f : Nat) : Value := .agg #[.int .i64 n, .int .i64 s, .int .i64 (hi q), .int .u64 (lo q), .int .i64 (f : Int)]
/-- What the squares are held against. -/
def nD (d : Int) (f : Nat) : Nat := (d * d).toNat * ((2 : Int) ^ (2 * f + 2)).toNat
set_option maxRecDepth 100000 in
set_option maxHeartbeats 8000000 in
theorem nearest_any (n s q d : Int) (f : Nat) (hf : f ≤ 32) (q0 : 0 ≤ q) (rq : R q) (hd : -9223372036854775808 ≤ d ∧ d ≤ 9223372036854775807) (w : World) :
    Calls Tryz.prog 45 #[Rw n s q f, .int .i64 d] w fun e w' => e = .returned (.int .i64 (nsr q.toNat (nD d f) (f + 6) 0)) ∧ Below w.heap.size w w' := by
  obtain ⟨F, hF'⟩ : ∃ F : Int, F = 2 ^ (2 * f + 2) := ⟨_, rfl⟩
  have hF1 : 1 ≤ F ∧ F ≤ 73786976294838206464 := by
    have p1 : (0 : Int) < 2 ^ (2 * f + 2) := Int.pow_pos (by decide)
    have p2 := Nat.pow_le_pow_right (show 0 < 2 by decide) (show 2 * f + 2 ≤ 66 by omega)
    have e : ((2 ^ (2 * f + 2) : Nat) : Int) = 2 ^ (2 * f + 2) := by push_cast; rfl
    have e2 : (2 : Nat) ^ 66 = 73786976294838206464 := by decide
    rw [hF']; omega
  have rF : R F := by rw [R_iff]; omega
  have hM0 : 0 ≤ d * d := by rcases Int.le_total 0 d with h | h
                             · exact Int.mul_nonneg h h
                             · exact Int.mul_nonneg_of_nonpos_of_nonpos h h
  obtain ⟨M, hM⟩ : ∃ M, M = d * d := ⟨_, rfl⟩
  obtain ⟨Q, hQ⟩ : ∃ Q, Q = q.toNat := ⟨_, rfl⟩
  obtain ⟨D, hD⟩ : ∃ D, D = nD d f := ⟨_, rfl⟩
  have hDM : M.toNat * F.toNat = D := by rw [hD, hM, hF']; rfl
  rw [← hQ, ← hD]
  have rM : R M := by
    rw [R_iff, hM]
    have h1 : d * d ≤ 9223372036854775808 * 9223372036854775808 := by
      rw [← Int.natAbs_mul_self' d] 
      have : d.natAbs ≤ 9223372036854775808 := by omega
      have := Nat.mul_le_mul this this
      omega
    omega
  have told1 := told_in rF
  have over1 := over_in rF
  obtain ⟨hQc, hhq⟩ : ∃ x, x = hi q := ⟨_, rfl⟩
  obtain ⟨lQc, hlq⟩ : ∃ x, x = lo q := ⟨_, rfl⟩
  obtain ⟨hF, hhf⟩ : ∃ x, x = hi F := ⟨_, rfl⟩
  obtain ⟨lF, hlf⟩ : ∃ x, x = lo F := ⟨_, rfl⟩
  obtain ⟨hM', hhm⟩ : ∃ x, x = hi M := ⟨_, rfl⟩
  obtain ⟨lM', hlm⟩ : ∃ x, x = lo M := ⟨_, rfl⟩
  obtain ⟨D3, D2, D1, D0, hPD⟩ : ∃ a b c e : Int, Pv D = .agg #[.int .u64 a, .int .u64 b, .int .u64 c, .int .u64 e] := by unfold Pv; exact ⟨_, _, _, _, rfl⟩
  obtain ⟨f1, hf1⟩ : ∃ m, m = 2 * f := ⟨_, rfl⟩
  obtain ⟨f2, hf2⟩ : ∃ m, m = f1 + 2 := ⟨_, rfl⟩
  obtain ⟨f5, hf5⟩ : ∃ m, m = f + 5 := ⟨_, rfl⟩
  have KF : Hid (∀ W : World, Calls Tryz.prog 72 #[.int .i64 1] W fun e w' => e = .returned (.agg #[.int .i64 0, .int .u64 1]) ∧ Below W.heap.size W w') := Lib.hid (fun W => from_any 1 W (by decide) (by decide))
  have KL : Hid (∀ W : World, Calls Tryz.prog 41 #[.agg #[.int .i64 0, .int .u64 1], .int .i64 (f2 : Int)] W fun e w' => e = .returned (.tuple #[.agg #[.int .i64 hF, .int .u64 lF], .int .i64 0]) ∧ Below W.heap.size W w') := Lib.hid (fun W => by
    have u := shl_any 1 f2 W (by decide) (by omega)
    rw [Int.one_mul, show (2 : Int) ^ f2 = F by rw [hF', hf2, hf1], told1, over1] at u
    unfold Wv at u
    rw [← hhf, ← hlf] at u
    exact u)
  have KM : Hid (∀ W : World, Calls Tryz.prog 42 #[.int .i64 d, .int .i64 d] W fun e w' => e = .returned (.agg #[.int .i64 hM', .int .u64 lM']) ∧ Below W.heap.size W w') := Lib.hid (fun W => by
    have u := mul_any d d W hd.1 hd.2 hd.1 hd.2
    rw [← hM] at u
    unfold Wv at u
    rw [← hhm, ← hlm] at u
    exact u.mono fun e w' h => ⟨h.1, by rw [← h.2]; exact (Below.refl _ _).alloc (Nat.le_refl _) _⟩)
  have KT : Hid (∀ W : World, Calls Tryz.prog 73 #[.agg #[.int .i64 hM', .int .u64 lM'], .agg #[.int .i64 hF, .int .u64 lF]] W fun e w' => e = .returned (.agg #[.int .u64 D3, .int .u64 D2, .int .u64 D1, .int .u64 D0]) ∧ Below W.heap.size W w') := Lib.hid (fun W => by
    have u := times_any M F (by rw [hM]; exact hM0) (by omega) rM rF W
    rw [hDM, hPD] at u
    unfold Wv at u
    rw [← hhm, ← hlm, ← hhf, ← hlf] at u
    exact u)
  have KQ : Hid (∀ (ha : Int) (W : World), 0 ≤ ha → ha ≤ 1099511627776 → ∃ a b x3 x2 x1 x0 : Int, (∀ W : World, Calls Tryz.prog 42 #[.int .i64 ha, .int .i64 ha] W fun e w' => e = .returned (.agg #[.int .i64 a, .int .u64 b]) ∧ Below W.heap.size W w') ∧ (∀ W : World, Calls Tryz.prog 73 #[.agg #[.int .i64 a, .int .u64 b], .agg #[.int .i64 hQc, .int .u64 lQc]] W fun e w' => e = .returned (.agg #[.int .u64 x3, .int .u64 x2, .int .u64 x1, .int .u64 x0]) ∧ Below W.heap.size W w') ∧ (∀ W : World, Calls Tryz.prog 74 #[.agg #[.int .u64 x3, .int .u64 x2, .int .u64 x1, .int .u64 x0], .agg #[.int .u64 D3, .int .u64 D2, .int .u64 D1, .int .u64 D0]] W fun e w' => e = .returned (.int .i64 (sg (((ha * ha).toNat * Q : Nat) : Int) (D : Int))) ∧ Below W.heap.size W w')) := Lib.hid (fun ha W h0 h1 => by
    have r0 : 0 ≤ ha * ha := Int.mul_nonneg h0 h0
    have r1 := Int.mul_le_mul h1 h1 h0 (by decide)
    have rH : R (ha * ha) := by rw [R_iff]; omega
    obtain ⟨x3, x2, x1, x0, hx⟩ : ∃ a b c e : Int, Pv ((ha * ha).toNat * Q) = .agg #[.int .u64 a, .int .u64 b, .int .u64 c, .int .u64 e] := by unfold Pv; exact ⟨_, _, _, _, rfl⟩
    refine ⟨hi (ha * ha), lo (ha * ha), x3, x2, x1, x0, fun W => ?_, fun W => ?_, fun W => ?_⟩
    · exact (mul_any ha ha W (by omega) (by omega) (by omega) (by omega)).mono fun e w' h => ⟨h.1, by rw [← h.2]; exact (Below.refl _ _).alloc (Nat.le_refl _) _⟩
    · have u := times_any (ha * ha) q r0 q0 rH rq W
      rw [← hQ, hx] at u
      unfold Wv at u
      rw [← hhq, ← hlq] at u
      exact u
    · have u := compare_pv ((ha * ha).toNat * Q) D W
      rw [hx, hPD] at u
      exact u)
  have E1 : Hid ((wrap64 (2 * (f : Int)) = (f1 : Int) ∧ IntKind.i64.wrap (2 * (f : Int)) = (f1 : Int)) ∧ (wrap64 ((f1 : Int) + 2) = (f2 : Int) ∧ IntKind.i64.wrap ((f1 : Int) + 2) = (f2 : Int)) ∧ (wrap64 ((f : Int) + 5) = (f5 : Int) ∧ IntKind.i64.wrap ((f : Int) + 5) = (f5 : Int))) := Lib.hid (by
    rw [show 2 * (f : Int) = (f1 : Int) by omega, show (f1 : Int) + 2 = (f2 : Int) by omega, show (f : Int) + 5 = (f5 : Int) by omega]
    exact ⟨wrp (by omega), wrp (by omega), wrp (by omega)⟩)
  unfold Rw
  rw [← hhq, ← hlq]
  have HF32 := Lib.hid hf
  have HF5 := Lib.hid hf5
  clear hF1 rF hM0 hM hQ hD hDM rM told1 over1 hhq hlq hhf hlf hhm hlm hPD hf1 hf2 hd q0 rq hF'
  have K4 := Lib.hid (Blk.new w 61 #[.int .i64 n, .int .i64 s, .int .i64 hQc, .int .u64 lQc, .int .i64 (f : Int)])
  obtain ⟨P0, hP⟩ : ∃ P : World → Prop, P = fun W => Below w.heap.size w W ∧ Blk W w.heap.size 61 #[.int .i64 n, .int .i64 s, .int .i64 hQc, .int .u64 lQc, .int .i64 (f : Int)] := ⟨_, rfl⟩
  have P0b : Hid (∀ W, P0 W → Below w.heap.size w W) := Lib.hid (fun W h => by rw [hP] at h; exact h.1)
  have P0k : Hid (∀ W, P0 W → Blk W w.heap.size 61 #[.int .i64 n, .int .i64 s, .int .i64 hQc, .int .u64 lQc, .int .i64 (f : Int)]) := Lib.hid (fun W h => by rw [hP] at h; exact h.2)
  have P0n : Hid (∀ W W', P0 W → Below W.heap.size W W' → P0 W') := Lib.hid (fun W W' h hb => by rw [hP] at h ⊢; exact ⟨h.1.trans (hb.mono h.1.size), h.2.below hb h.2.lt⟩)
  obtain ⟨w1, hw1⟩ : ∃ w1, w1 = w.alloc (.cells #[.int .i64 n, .int .i64 s, .int .i64 hQc, .int .u64 lQc, .int .i64 (f : Int)] 61) := ⟨_, rfl⟩
  have G0 : Hid (P0 w1) := Lib.hid (by rw [hP, hw1]; exact ⟨(Below.refl _ _).alloc (Nat.le_refl _) _, K4.out⟩)
  have HW := Lib.hid hw1
  clear hP K4 hw1
  go_enter Tryz.func45, Tryz.ntmps45
  go_upto_region 1 with fail
  go_step3
  go_upto_region 1 with fail
  rw [← HW.out]
  clear HW
  have KS : Hid (∀ W, P0 W → W.cell? ⟨w.heap.size, 4, none⟩ = some (.int .i64 (f : Int))) := Lib.hid (fun W h => (P0k.out _ h).cell 4)
  go_cut [5, 6] (fun s5 s6 wx => ∃ T5 : Nat, s5 = .pointer (some ⟨T5, 0, none⟩) ∧ s6 = .int .i64 0 ∧ Blk wx T5 59 #[.int .i64 hF, .int .u64 lF] ∧ Hid (P0 wx))
  case first =>
    as_aux_lemma =>
    obtain ⟨⟨e1, e2⟩, ⟨e3, e4⟩, _⟩ := E1.out
    have B_0 : Hid (Below w1.heap.size w1 w1.drew) := Lib.hid (below_drw (Below.refl _ _) 1)
    have GB_0 := Lib.hid (P0n.out _ _ G0.out B_0.out)
    refine wp_region_held_drew (S := fun W => W.cell? ⟨w.heap.size, 4, none⟩ = some (.int .i64 (f : Int))) (by kernel_rfl) ?_ (fun hHeld => ?_)
    · exact KS.out _ GB_0.out
    have hHd := hHeld
    generalize w1.drew = w_0 at *
    (refine wpAnyH_take (i := 1) (oi := ⟨some 14, _, _, _, _, _⟩) (v := ?v1_a1) rfl (by kernel_rfl) (by kernel_rfl) (by kernel_rfl) (fun _ _ _ h => h) (Or.inl ⟨by rfl, ?hy1_a1⟩) (by assumption) ?rest1_a1; (case hy1_a1 => ((intro w hSw); (try dsimp only at hSw); go_simp; first | done | (with_reducible rfl))))
    (try simp only [Act.put, List.setIfInBounds_toArray, List.set_cons_zero, List.set_cons_succ])
    (refine wpAnyH_take (i := 2) (oi := ⟨some 15, _, _, _, _, _⟩) (v := ?v2_a2) rfl (by kernel_rfl) (by kernel_rfl) (by kernel_rfl) (fun _ _ _ h => h) (Or.inl ⟨by rfl, ?hy2_a2⟩) (by assumption) ?rest2_a2; (case hy2_a2 => ((intro w hSw); (try dsimp only at hSw); go_simp; first | done | (with_reducible rfl))))
    (try simp only [Act.put, List.setIfInBounds_toArray, List.set_cons_zero, List.set_cons_succ])
    (refine wpAnyH_take (i := 3) (oi := ⟨some 16, _, _, _, _, _⟩) (v := ?v3_a3) rfl (by kernel_rfl) (by kernel_rfl) (by kernel_rfl) (fun _ _ _ h => h) (Or.inl ⟨by rfl, ?hy3_a3⟩) (by assumption) ?rest3_a3; (case hy3_a3 => ((intro w hSw); (try dsimp only at hSw); go_simp; first | done | (with_reducible rfl))))
    (try simp only [Act.put, List.setIfInBounds_toArray, List.set_cons_zero, List.set_cons_succ])
    (refine wpAnyH_take (i := 4) (oi := ⟨some 17, _, _, _, _, _⟩) (v := ?v4_a4) rfl (by kernel_rfl) (by kernel_rfl) (by kernel_rfl) (fun _ _ _ h => h) (Or.inl ⟨by rfl, ?hy4_a4⟩) (by assumption) ?rest4_a4; (case hy4_a4 => ((intro w hSw); (try dsimp only at hSw); go_simp; first | done | (with_reducible rfl))))
    (try simp only [Act.put, List.setIfInBounds_toArray, List.set_cons_zero, List.set_cons_succ])
    refine wpAnyH_ready (rs := [0, 9]) (by kernel_rfl) (by simp) ?_
    refine AllReadyH.cons (o := ⟨some 13, _, _, _, _, _⟩) rfl (fun K hK => ?_) (AllReadyH.cons (o := ⟨some 5, _, _, _, _, _⟩) rfl (fun K hK => ?_) (AllReadyH.nil))
    · go_simp
      (go_at_call 72; (with_reducible refine (KF.out _).mono ?_); rintro e w_12 ⟨rfl, hb⟩; have B_12 := Lib.hid (B_0.out.trans (hb.mono B_0.out.size)); clear hb)
      refine hK.out _ _ ?_ (fun hHeld => ?_)
      · (try dsimp only)
        exact KS.out _ (P0n.out _ _ G0.out B_12.out)
      clear hK K
      (try simp only [Act.put, List.setIfInBounds_toArray, List.set_cons_zero, List.set_cons_succ])
      refine wpAnyH_ready (rs := [5, 9]) (by kernel_rfl) (by simp) ?_
      refine AllReadyH.cons (o := ⟨some 18, _, _, _, _, _⟩) rfl (fun K hK => ?_) (AllReadyH.cons (o := ⟨some 5, _, _, _, _, _⟩) rfl (fun K hK => ?_) (AllReadyH.nil))
      · go_simp
        (go_at_call 41; (with_reducible refine (KL.out _).mono ?_); rintro e w_13 ⟨rfl, hb⟩; have B_13 := Lib.hid (B_12.out.trans (hb.mono B_12.out.size)); clear hb)
        refine hK.out _ _ ?_ (fun hHeld => ?_)
        · (try dsimp only)
          exact KS.out _ (P0n.out _ _ G0.out B_13.out)
        clear hK K
        (try simp only [Act.put, List.setIfInBounds_toArray, List.set_cons_zero, List.set_cons_succ])
        (refine wpAnyH_take (i := 6) (oi := ⟨some 12, _, _, _, _, _⟩) (v := ?v6_a5) rfl (by kernel_rfl) (by kernel_rfl) (by kernel_rfl) (fun _ _ _ h => h) (Or.inl ⟨by rfl, ?hy6_a5⟩) (by assumption) ?rest6_a5; (case hy6_a5 => ((intro w hSw); (try dsimp only at hSw); go_simp; first | done | (with_reducible rfl))))
        (try simp only [Act.put, List.setIfInBounds_toArray, List.set_cons_zero, List.set_cons_succ])
        (refine wpAnyH_take (i := 7) (oi := ⟨some 19, _, _, _, _, _⟩) (v := ?v7_a6) rfl (by kernel_rfl) (by kernel_rfl) (by kernel_rfl) (fun _ _ _ h => h) (Or.inl ⟨by rfl, ?hy7_a6⟩) (by assumption) ?rest7_a6; (case hy7_a6 => ((intro w hSw); (try dsimp only at hSw); go_simp; first | done | (with_reducible rfl))))
        (try simp only [Act.put, List.setIfInBounds_toArray, List.set_cons_zero, List.set_cons_succ])
        (refine wpAnyH_take (i := 8) (oi := ⟨some 20, _, _, _, _, _⟩) (v := ?v8_a7) rfl (by kernel_rfl) (by kernel_rfl) (by kernel_rfl) (fun _ _ _ h => h) (Or.inl ⟨by rfl, ?hy8_a7⟩) (by assumption) ?rest8_a7; (case hy8_a7 => ((intro w hSw); (try dsimp only at hSw); go_simp; first | done | (with_reducible rfl))))
        (try simp only [Act.put, List.setIfInBounds_toArray, List.set_cons_zero, List.set_cons_succ])
        refine wpAnyH_ready (rs := [9]) (by kernel_rfl) (by simp) ?_
        refine AllReadyH.cons (o := ⟨some 5, _, _, _, _, _⟩) rfl (fun K hK => ?_) (AllReadyH.nil)
        go_simp
        have Z_14 := Lib.hid (Blk.new w_13 59 #[.int .i64 0, .int .u64 0])
        have B_14 := Lib.hid (B_13.out.alloc B_13.out.size (.cells #[.int .i64 0, .int .u64 0] 59))
        have ZS_14 := Lib.hid (B_13.out.size)
        refine hK.out _ _ ?_ (fun hHeld => ?_)
        · (try dsimp only)
          exact KS.out _ (P0n.out _ _ G0.out B_14.out)
        clear hK K
        generalize w_13.alloc (.cells #[.int .i64 0, .int .u64 0] 59) = w_14 at *
        (try simp only [Act.put, List.setIfInBounds_toArray, List.set_cons_zero, List.set_cons_succ])
        refine wpAnyH_ready (rs := [10]) (by kernel_rfl) (by simp) ?_
        refine AllReadyH.cons (o := ⟨none, _, _, _, _, _⟩) rfl (fun K hK => ?_) (AllReadyH.nil)
        obtain ⟨p0, p1, p2, p3⟩ := blkz2 Z_14.out
        have BF_0 := Lib.hid (B_14.out.setCell (p := ⟨w_13.heap.size, 0, none⟩) ZS_14.out (.int .i64 hF))
        have ZF_0 := Lib.hid (Z_14.out.set_ 0 (.int .i64 hF))
        have BF_1 := Lib.hid (BF_0.out.setCell (p := ⟨w_13.heap.size, 1, none⟩) ZS_14.out (.int .u64 lF))
        have ZF_1 := Lib.hid (ZF_0.out.set_ 1 (.int .u64 lF))
        have PF := Lib.hid (P0n.out _ _ G0.out BF_1.out)
        have ZF : Hid _ := ZF_1
        go_simp
        refine hK.out _ _ ?_ (fun hHeld => ?_)
        · (try dsimp only)
          exact KS.out _ PF.out
        clear hK K
        (try simp only [Act.put, List.setIfInBounds_toArray, List.set_cons_zero, List.set_cons_succ])
        (refine wpAnyH_take (i := 11) (oi := ⟨some 6, _, _, _, _, _⟩) (v := ?v11_a8) rfl (by kernel_rfl) (by kernel_rfl) (by kernel_rfl) (fun _ _ _ h => h) (Or.inl ⟨by rfl, ?hy11_a8⟩) (by assumption) ?rest11_a8; (case hy11_a8 => ((intro w hSw); (try dsimp only at hSw); go_simp; first | done | (with_reducible rfl))))
        (try simp only [Act.put, List.setIfInBounds_toArray, List.set_cons_zero, List.set_cons_succ])
        refine wpAnyH_done (by kernel_rfl) ?_ _
        go_wp2
        go_meet
        exact ⟨_, rfl, rfl, ZF.out, PF⟩
      · go_simp
        have Z_15 := Lib.hid (Blk.new w_12 59 #[.int .i64 0, .int .u64 0])
        have B_15 := Lib.hid (B_12.out.alloc B_12.out.size (.cells #[.int .i64 0, .int .u64 0] 59))
        have ZS_15 := Lib.hid (B_12.out.size)
        refine hK.out _ _ ?_ (fun hHeld => ?_)
        · (try dsimp only)
          exact KS.out _ (P0n.out _ _ G0.out B_15.out)
        clear hK K
        generalize w_12.alloc (.cells #[.int .i64 0, .int .u64 0] 59) = w_15 at *
        (try simp only [Act.put, List.setIfInBounds_toArray, List.set_cons_zero, List.set_cons_succ])
        refine wpAnyH_ready (rs := [5]) (by kernel_rfl) (by simp) ?_
        refine AllReadyH.cons (o := ⟨some 18, _, _, _, _, _⟩) rfl (fun K hK => ?_) (AllReadyH.nil)
        go_simp
        (go_at_call 41; (with_reducible refine (KL.out _).mono ?_); rintro e w_16 ⟨rfl, hb⟩; have B_16 := Lib.hid (B_15.out.trans (hb.mono B_15.out.size)); have Z_16 := Lib.hid (Z_15.out.below hb Z_15.out.lt); clear hb)
        refine hK.out _ _ ?_ (fun hHeld => ?_)
        · (try dsimp only)
          exact KS.out _ (P0n.out _ _ G0.out B_16.out)
        clear hK K
        (try simp only [Act.put, List.setIfInBounds_toArray, List.set_cons_zero, List.set_cons_succ])
        (refine wpAnyH_take (i := 6) (oi := ⟨some 12, _, _, _, _, _⟩) (v := ?v6_a9) rfl (by kernel_rfl) (by kernel_rfl) (by kernel_rfl) (fun _ _ _ h => h) (Or.inl ⟨by rfl, ?hy6_a9⟩) (by assumption) ?rest6_a9; (case hy6_a9 => ((intro w hSw); (try dsimp only at hSw); go_simp; first | done | (with_reducible rfl))))
        (try simp only [Act.put, List.setIfInBounds_toArray, List.set_cons_zero, List.set_cons_succ])
        (refine wpAnyH_take (i := 7) (oi := ⟨some 19, _, _, _, _, _⟩) (v := ?v7_a10) rfl (by kernel_rfl) (by kernel_rfl) (by kernel_rfl) (fun _ _ _ h => h) (Or.inl ⟨by rfl, ?hy7_a10⟩) (by assumption) ?rest7_a10; (case hy7_a10 => ((intro w hSw); (try dsimp only at hSw); go_simp; first | done | (with_reducible rfl))))
        (try simp only [Act.put, List.setIfInBounds_toArray, List.set_cons_zero, List.set_cons_succ])
        (refine wpAnyH_take (i := 8) (oi := ⟨some 20, _, _, _, _, _⟩) (v := ?v8_a11) rfl (by kernel_rfl) (by kernel_rfl) (by kernel_rfl) (fun _ _ _ h => h) (Or.inl ⟨by rfl, ?hy8_a11⟩) (by assumption) ?rest8_a11; (case hy8_a11 => ((intro w hSw); (try dsimp only at hSw); go_simp; first | done | (with_reducible rfl))))
        (try simp only [Act.put, List.setIfInBounds_toArray, List.set_cons_zero, List.set_cons_succ])
        refine wpAnyH_ready (rs := [10]) (by kernel_rfl) (by simp) ?_
        refine AllReadyH.cons (o := ⟨none, _, _, _, _, _⟩) rfl (fun K hK => ?_) (AllReadyH.nil)
        obtain ⟨p0, p1, p2, p3⟩ := blkz2 Z_16.out
        have BF_0 := Lib.hid (B_16.out.setCell (p := ⟨w_12.heap.size, 0, none⟩) ZS_15.out (.int .i64 hF))
        have ZF_0 := Lib.hid (Z_16.out.set_ 0 (.int .i64 hF))
        have BF_1 := Lib.hid (BF_0.out.setCell (p := ⟨w_12.heap.size, 1, none⟩) ZS_15.out (.int .u64 lF))
        have ZF_1 := Lib.hid (ZF_0.out.set_ 1 (.int .u64 lF))
        have PF := Lib.hid (P0n.out _ _ G0.out BF_1.out)
        have ZF : Hid _ := ZF_1
        go_simp
        refine hK.out _ _ ?_ (fun hHeld => ?_)
        · (try dsimp only)
          exact KS.out _ PF.out
        clear hK K
        (try simp only [Act.put, List.setIfInBounds_toArray, List.set_cons_zero, List.set_cons_succ])
        (refine wpAnyH_take (i := 11) (oi := ⟨some 6, _, _, _, _, _⟩) (v := ?v11_a12) rfl (by kernel_rfl) (by kernel_rfl) (by kernel_rfl) (fun _ _ _ h => h) (Or.inl ⟨by rfl, ?hy11_a12⟩) (by assumption) ?rest11_a12; (case hy11_a12 => ((intro w hSw); (try dsimp only at hSw); go_simp; first | done | (with_reducible rfl))))
        (try simp only [Act.put, List.setIfInBounds_toArray, List.set_cons_zero, List.set_cons_succ])
        refine wpAnyH_done (by kernel_rfl) ?_ _
        go_wp2
        go_meet
        exact ⟨_, rfl, rfl, ZF.out, PF⟩
    · go_simp
      have Z_17 := Lib.hid (Blk.new w_0 59 #[.int .i64 0, .int .u64 0])
      have B_17 := Lib.hid (B_0.out.alloc B_0.out.size (.cells #[.int .i64 0, .int .u64 0] 59))
      have ZS_17 := Lib.hid (B_0.out.size)
      refine hK.out _ _ ?_ (fun hHeld => ?_)
      · (try dsimp only)
        exact KS.out _ (P0n.out _ _ G0.out B_17.out)
      clear hK K
      generalize w_0.alloc (.cells #[.int .i64 0, .int .u64 0] 59) = w_17 at *
      (try simp only [Act.put, List.setIfInBounds_toArray, List.set_cons_zero, List.set_cons_succ])
      refine wpAnyH_ready (rs := [0]) (by kernel_rfl) (by simp) ?_
      refine AllReadyH.cons (o := ⟨some 13, _, _, _, _, _⟩) rfl (fun K hK => ?_) (AllReadyH.nil)
      go_simp
      (go_at_call 72; (with_reducible refine (KF.out _).mono ?_); rintro e w_18 ⟨rfl, hb⟩; have B_18 := Lib.hid (B_17.out.trans (hb.mono B_17.out.size)); have Z_18 := Lib.hid (Z_17.out.below hb Z_17.out.lt); clear hb)
      refine hK.out _ _ ?_ (fun hHeld => ?_)
      · (try dsimp only)
        exact KS.out _ (P0n.out _ _ G0.out B_18.out)
      clear hK K
      (try simp only [Act.put, List.setIfInBounds_toArray, List.set_cons_zero, List.set_cons_succ])
      refine wpAnyH_ready (rs := [5]) (by kernel_rfl) (by simp) ?_
      refine AllReadyH.cons (o := ⟨some 18, _, _, _, _, _⟩) rfl (fun K hK => ?_) (AllReadyH.nil)
      go_simp
      (go_at_call 41; (with_reducible refine (KL.out _).mono ?_); rintro e w_19 ⟨rfl, hb⟩; have B_19 := Lib.hid (B_18.out.trans (hb.mono B_18.out.size)); have Z_19 := Lib.hid (Z_18.out.below hb Z_18.out.lt); clear hb)
      refine hK.out _ _ ?_ (fun hHeld => ?_)
      · (try dsimp only)
        exact KS.out _ (P0n.out _ _ G0.out B_19.out)
      clear hK K
      (try simp only [Act.put, List.setIfInBounds_toArray, List.set_cons_zero, List.set_cons_succ])
      (refine wpAnyH_take (i := 6) (oi := ⟨some 12, _, _, _, _, _⟩) (v := ?v6_a13) rfl (by kernel_rfl) (by kernel_rfl) (by kernel_rfl) (fun _ _ _ h => h) (Or.inl ⟨by rfl, ?hy6_a13⟩) (by assumption) ?rest6_a13; (case hy6_a13 => ((intro w hSw); (try dsimp only at hSw); go_simp; first | done | (with_reducible rfl))))
      (try simp only [Act.put, List.setIfInBounds_toArray, List.set_cons_zero, List.set_cons_succ])
      (refine wpAnyH_take (i := 7) (oi := ⟨some 19, _, _, _, _, _⟩) (v := ?v7_a14) rfl (by kernel_rfl) (by kernel_rfl) (by kernel_rfl) (fun _ _ _ h => h) (Or.inl ⟨by rfl, ?hy7_a14⟩) (by assumption) ?rest7_a14; (case hy7_a14 => ((intro w hSw); (try dsimp only at hSw); go_simp; first | done | (with_reducible rfl))))
      (try simp only [Act.put, List.setIfInBounds_toArray, List.set_cons_zero, List.set_cons_succ])
      (refine wpAnyH_take (i := 8) (oi := ⟨some 20, _, _, _, _, _⟩) (v := ?v8_a15) rfl (by kernel_rfl) (by kernel_rfl) (by kernel_rfl) (fun _ _ _ h => h) (Or.inl ⟨by rfl, ?hy8_a15⟩) (by assumption) ?rest8_a15; (case hy8_a15 => ((intro w hSw); (try dsimp only at hSw); go_simp; first | done | (with_reducible rfl))))
      (try simp only [Act.put, List.setIfInBounds_toArray, List.set_cons_zero, List.set_cons_succ])
      refine wpAnyH_ready (rs := [10]) (by kernel_rfl) (by simp) ?_
      refine AllReadyH.cons (o := ⟨none, _, _, _, _, _⟩) rfl (fun K hK => ?_) (AllReadyH.nil)
      obtain ⟨p0, p1, p2, p3⟩ := blkz2 Z_19.out
      have BF_0 := Lib.hid (B_19.out.setCell (p := ⟨w_0.heap.size, 0, none⟩) ZS_17.out (.int .i64 hF))
      have ZF_0 := Lib.hid (Z_19.out.set_ 0 (.int .i64 hF))
      have BF_1 := Lib.hid (BF_0.out.setCell (p := ⟨w_0.heap.size, 1, none⟩) ZS_17.out (.int .u64 lF))
      have ZF_1 := Lib.hid (ZF_0.out.set_ 1 (.int .u64 lF))
      have PF := Lib.hid (P0n.out _ _ G0.out BF_1.out)
      have ZF : Hid _ := ZF_1
      go_simp
      refine hK.out _ _ ?_ (fun hHeld => ?_)
      · (try dsimp only)
        exact KS.out _ PF.out
      clear hK K
      (try simp only [Act.put, List.setIfInBounds_toArray, List.set_cons_zero, List.set_cons_succ])
      (refine wpAnyH_take (i := 11) (oi := ⟨some 6, _, _, _, _, _⟩) (v := ?v11_a16) rfl (by kernel_rfl) (by kernel_rfl) (by kernel_rfl) (fun _ _ _ h => h) (Or.inl ⟨by rfl, ?hy11_a16⟩) (by assumption) ?rest11_a16; (case hy11_a16 => ((intro w hSw); (try dsimp only at hSw); go_simp; first | done | (with_reducible rfl))))
      (try simp only [Act.put, List.setIfInBounds_toArray, List.set_cons_zero, List.set_cons_succ])
      refine wpAnyH_done (by kernel_rfl) ?_ _
      go_wp2
      go_meet
      exact ⟨_, rfl, rfl, ZF.out, PF⟩
  case rest =>
    as_aux_lemma =>
    obtain ⟨T5, rfl, rfl, hbz, HX⟩ := hcut
    obtain ⟨v1, hwd⟩ : ∃ v, v = wc := ⟨_, rfl⟩
    rw [← hwd] at hbz HX ⊢
    clear hwd
    obtain ⟨P1, hP⟩ : ∃ P : World → Prop, P = fun W => P0 W ∧ Blk W T5 59 #[.int .i64 hF, .int .u64 lF] := ⟨_, rfl⟩
    have G1 : Hid (P1 v1) := Lib.hid (by rw [hP]; exact ⟨HX.out, hbz⟩)
    have P1f : Hid (∀ W, P1 W → P0 W) := Lib.hid (fun W h => by rw [hP] at h; exact h.1)
    have P1n : Hid (∀ W W', P1 W → Below W.heap.size W W' → P1 W') := Lib.hid (fun W W' h hb => by rw [hP] at h ⊢; exact ⟨P0n.out _ _ h.1 hb, h.2.below hb h.2.lt⟩)
    have P1t : Hid (∀ W, P1 W → Blk W T5 59 #[.int .i64 hF, .int .u64 lF]) := Lib.hid (fun W h => by rw [hP] at h; exact h.2)
    clear hP
    clear hbz HX KS
    have KS : Hid (∀ W, P1 W → W.cell? ⟨T5, 0, none⟩ = some (.int .i64 hF) ∧ W.cell? ⟨T5, 1, none⟩ = some (.int .u64 lF)) := Lib.hid (fun W h => ⟨(P1t.out _ h).cell 0, (P1t.out _ h).cell 1⟩)
    go_upto_region 2 with fail
    go_cut [7] (fun s7 wx => ∃ T7 : Nat, s7 = .pointer (some ⟨T7, 0, none⟩) ∧ Blk wx T7 118 #[.int .u64 D3, .int .u64 D2, .int .u64 D1, .int .u64 D0] ∧ Hid (P1 wx))
    case first =>
      as_aux_lemma =>
      have B_0 : Hid (Below v1.heap.size v1 v1.drew) := Lib.hid (below_drw (Below.refl _ _) 1)
      have GB_0 := Lib.hid (P1n.out _ _ G1.out B_0.out)
      refine wp_region_held_drew (S := fun W => W.cell? ⟨T5, 0, none⟩ = some (.int .i64 hF) ∧ W.cell? ⟨T5, 1, none⟩ = some (.int .u64 lF)) (by kernel_rfl) ?_ (fun hHeld => ?_)
      · exact KS.out _ GB_0.out
      have hHd := hHeld
      generalize v1.drew = w_0 at *
      (refine wpAnyH_take (i := 0) (oi := ⟨some 21, _, _, _, _, _⟩) (v := ?v0_b1) rfl (by kernel_rfl) (by kernel_rfl) (by kernel_rfl) (fun _ _ _ h => h) (Or.inl ⟨by rfl, ?hy0_b1⟩) (by assumption) ?rest0_b1; (case hy0_b1 => ((intro w hSw); (try dsimp only at hSw); go_simp; first | done | (with_reducible rfl))))
      (try simp only [Act.put, List.setIfInBounds_toArray, List.set_cons_zero, List.set_cons_succ])
      (refine wpAnyH_take (i := 1) (oi := ⟨some 22, _, _, _, _, _⟩) (v := ?v1_b2) rfl (by kernel_rfl) (by kernel_rfl) (by kernel_rfl) (fun _ _ _ h => h) (Or.inl ⟨by rfl, ?hy1_b2⟩) (by assumption) ?rest1_b2; (case hy1_b2 => ((intro w hSw); (try dsimp only at hSw); go_simp; first | done | (with_reducible rfl))))
      (try simp only [Act.put, List.setIfInBounds_toArray, List.set_cons_zero, List.set_cons_succ])
      (refine wpAnyH_take (i := 3) (oi := ⟨some 24, _, _, _, _, _⟩) (v := ?v3_b3) rfl (by kernel_rfl) (by kernel_rfl) (by kernel_rfl) (fun _ _ _ h => h) (Or.inl ⟨by rfl, ?hy3_b3⟩) (by assumption) ?rest3_b3; (case hy3_b3 => ((intro w hSw); (try dsimp only at hSw); go_simp; first | done | (with_reducible rfl))))
      (try simp only [Act.put, List.setIfInBounds_toArray, List.set_cons_zero, List.set_cons_succ])
      refine wpAnyH_ready (rs := [2, 5]) (by kernel_rfl) (by simp) ?_
      refine AllReadyH.cons (o := ⟨some 23, _, _, _, _, _⟩) rfl (fun K hK => ?_) (AllReadyH.cons (o := ⟨some 7, _, _, _, _, _⟩) rfl (fun K hK => ?_) (AllReadyH.nil))
      · go_simp
        (go_at_call 42; (with_reducible refine (KM.out _).mono ?_); rintro e w_4 ⟨rfl, hb⟩; have B_4 := Lib.hid (B_0.out.trans (hb.mono B_0.out.size)); clear hb)
        refine hK.out _ _ ?_ (fun hHeld => ?_)
        · (try dsimp only)
          exact KS.out _ (P1n.out _ _ G1.out B_4.out)
        clear hK K
        (try simp only [Act.put, List.setIfInBounds_toArray, List.set_cons_zero, List.set_cons_succ])
        refine wpAnyH_ready (rs := [4, 5]) (by kernel_rfl) (by simp) ?_
        refine AllReadyH.cons (o := ⟨some 25, _, _, _, _, _⟩) rfl (fun K hK => ?_) (AllReadyH.cons (o := ⟨some 7, _, _, _, _, _⟩) rfl (fun K hK => ?_) (AllReadyH.nil))
        · go_simp
          (go_at_call 73; (with_reducible refine (KT.out _).mono ?_); rintro e w_5 ⟨rfl, hb⟩; have B_5 := Lib.hid (B_4.out.trans (hb.mono B_4.out.size)); clear hb)
          refine hK.out _ _ ?_ (fun hHeld => ?_)
          · (try dsimp only)
            exact KS.out _ (P1n.out _ _ G1.out B_5.out)
          clear hK K
          (try simp only [Act.put, List.setIfInBounds_toArray, List.set_cons_zero, List.set_cons_succ])
          refine wpAnyH_ready (rs := [5]) (by kernel_rfl) (by simp) ?_
          refine AllReadyH.cons (o := ⟨some 7, _, _, _, _, _⟩) rfl (fun K hK => ?_) (AllReadyH.nil)
          go_simp
          have Z_6 := Lib.hid (Blk.new w_5 118 #[.int .u64 0, .int .u64 0, .int .u64 0, .int .u64 0])
          have B_6 := Lib.hid (B_5.out.alloc B_5.out.size (.cells #[.int .u64 0, .int .u64 0, .int .u64 0, .int .u64 0] 118))
          have ZS_6 := Lib.hid (B_5.out.size)
          refine hK.out _ _ ?_ (fun hHeld => ?_)
          · (try dsimp only)
            exact KS.out _ (P1n.out _ _ G1.out B_6.out)
          clear hK K
          generalize w_5.alloc (.cells #[.int .u64 0, .int .u64 0, .int .u64 0, .int .u64 0] 118) = w_6 at *
          (try simp only [Act.put, List.setIfInBounds_toArray, List.set_cons_zero, List.set_cons_succ])
          refine wpAnyH_ready (rs := [6]) (by kernel_rfl) (by simp) ?_
          refine AllReadyH.cons (o := ⟨none, _, _, _, _, _⟩) rfl (fun K hK => ?_) (AllReadyH.nil)
          obtain ⟨p0, p1, p2, p3, p4, p5, p6, p7⟩ := blkz4 Z_6.out
          have BF_0 := Lib.hid (B_6.out.setCell (p := ⟨w_5.heap.size, 0, none⟩) ZS_6.out (.int .u64 D3))
          have ZF_0 := Lib.hid (Z_6.out.set_ 0 (.int .u64 D3))
          have BF_1 := Lib.hid (BF_0.out.setCell (p := ⟨w_5.heap.size, 1, none⟩) ZS_6.out (.int .u64 D2))
          have ZF_1 := Lib.hid (ZF_0.out.set_ 1 (.int .u64 D2))
          have BF_2 := Lib.hid (BF_1.out.setCell (p := ⟨w_5.heap.size, 2, none⟩) ZS_6.out (.int .u64 D1))
          have ZF_2 := Lib.hid (ZF_1.out.set_ 2 (.int .u64 D1))
          have BF_3 := Lib.hid (BF_2.out.setCell (p := ⟨w_5.heap.size, 3, none⟩) ZS_6.out (.int .u64 D0))
          have ZF_3 := Lib.hid (ZF_2.out.set_ 3 (.int .u64 D0))
          have PF := Lib.hid (P1n.out _ _ G1.out BF_3.out)
          have ZF : Hid _ := ZF_3
          go_simp
          refine hK.out _ _ ?_ (fun hHeld => ?_)
          · (try dsimp only)
            exact KS.out _ PF.out
          clear hK K
          (try simp only [Act.put, List.setIfInBounds_toArray, List.set_cons_zero, List.set_cons_succ])
          refine wpAnyH_done (by kernel_rfl) ?_ _
          go_wp2
          go_meet
          exact ⟨_, rfl, ZF.out, PF⟩
        · go_simp
          have Z_7 := Lib.hid (Blk.new w_4 118 #[.int .u64 0, .int .u64 0, .int .u64 0, .int .u64 0])
          have B_7 := Lib.hid (B_4.out.alloc B_4.out.size (.cells #[.int .u64 0, .int .u64 0, .int .u64 0, .int .u64 0] 118))
          have ZS_7 := Lib.hid (B_4.out.size)
          refine hK.out _ _ ?_ (fun hHeld => ?_)
          · (try dsimp only)
            exact KS.out _ (P1n.out _ _ G1.out B_7.out)
          clear hK K
          generalize w_4.alloc (.cells #[.int .u64 0, .int .u64 0, .int .u64 0, .int .u64 0] 118) = w_7 at *
          (try simp only [Act.put, List.setIfInBounds_toArray, List.set_cons_zero, List.set_cons_succ])
          refine wpAnyH_ready (rs := [4]) (by kernel_rfl) (by simp) ?_
          refine AllReadyH.cons (o := ⟨some 25, _, _, _, _, _⟩) rfl (fun K hK => ?_) (AllReadyH.nil)
          go_simp
          (go_at_call 73; (with_reducible refine (KT.out _).mono ?_); rintro e w_8 ⟨rfl, hb⟩; have B_8 := Lib.hid (B_7.out.trans (hb.mono B_7.out.size)); have Z_8 := Lib.hid (Z_7.out.below hb Z_7.out.lt); clear hb)
          refine hK.out _ _ ?_ (fun hHeld => ?_)
          · (try dsimp only)
            exact KS.out _ (P1n.out _ _ G1.out B_8.out)
          clear hK K
          (try simp only [Act.put, List.setIfInBounds_toArray, List.set_cons_zero, List.set_cons_succ])
          refine wpAnyH_ready (rs := [6]) (by kernel_rfl) (by simp) ?_
          refine AllReadyH.cons (o := ⟨none, _, _, _, _, _⟩) rfl (fun K hK => ?_) (AllReadyH.nil)
          obtain ⟨p0, p1, p2, p3, p4, p5, p6, p7⟩ := blkz4 Z_8.out
          have BF_0 := Lib.hid (B_8.out.setCell (p := ⟨w_4.heap.size, 0, none⟩) ZS_7.out (.int .u64 D3))
          have ZF_0 := Lib.hid (Z_8.out.set_ 0 (.int .u64 D3))
          have BF_1 := Lib.hid (BF_0.out.setCell (p := ⟨w_4.heap.size, 1, none⟩) ZS_7.out (.int .u64 D2))
          have ZF_1 := Lib.hid (ZF_0.out.set_ 1 (.int .u64 D2))
          have BF_2 := Lib.hid (BF_1.out.setCell (p := ⟨w_4.heap.size, 2, none⟩) ZS_7.out (.int .u64 D1))
          have ZF_2 := Lib.hid (ZF_1.out.set_ 2 (.int .u64 D1))
          have BF_3 := Lib.hid (BF_2.out.setCell (p := ⟨w_4.heap.size, 3, none⟩) ZS_7.out (.int .u64 D0))
          have ZF_3 := Lib.hid (ZF_2.out.set_ 3 (.int .u64 D0))
          have PF := Lib.hid (P1n.out _ _ G1.out BF_3.out)
          have ZF : Hid _ := ZF_3
          go_simp
          refine hK.out _ _ ?_ (fun hHeld => ?_)
          · (try dsimp only)
            exact KS.out _ PF.out
          clear hK K
          (try simp only [Act.put, List.setIfInBounds_toArray, List.set_cons_zero, List.set_cons_succ])
          refine wpAnyH_done (by kernel_rfl) ?_ _
          go_wp2
          go_meet
          exact ⟨_, rfl, ZF.out, PF⟩
      · go_simp
        have Z_9 := Lib.hid (Blk.new w_0 118 #[.int .u64 0, .int .u64 0, .int .u64 0, .int .u64 0])
        have B_9 := Lib.hid (B_0.out.alloc B_0.out.size (.cells #[.int .u64 0, .int .u64 0, .int .u64 0, .int .u64 0] 118))
        have ZS_9 := Lib.hid (B_0.out.size)
        refine hK.out _ _ ?_ (fun hHeld => ?_)
        · (try dsimp only)
          exact KS.out _ (P1n.out _ _ G1.out B_9.out)
        clear hK K
        generalize w_0.alloc (.cells #[.int .u64 0, .int .u64 0, .int .u64 0, .int .u64 0] 118) = w_9 at *
        (try simp only [Act.put, List.setIfInBounds_toArray, List.set_cons_zero, List.set_cons_succ])
        refine wpAnyH_ready (rs := [2]) (by kernel_rfl) (by simp) ?_
        refine AllReadyH.cons (o := ⟨some 23, _, _, _, _, _⟩) rfl (fun K hK => ?_) (AllReadyH.nil)
        go_simp
        (go_at_call 42; (with_reducible refine (KM.out _).mono ?_); rintro e w_10 ⟨rfl, hb⟩; have B_10 := Lib.hid (B_9.out.trans (hb.mono B_9.out.size)); have Z_10 := Lib.hid (Z_9.out.below hb Z_9.out.lt); clear hb)
        refine hK.out _ _ ?_ (fun hHeld => ?_)
        · (try dsimp only)
          exact KS.out _ (P1n.out _ _ G1.out B_10.out)
        clear hK K
        (try simp only [Act.put, List.setIfInBounds_toArray, List.set_cons_zero, List.set_cons_succ])
        refine wpAnyH_ready (rs := [4]) (by kernel_rfl) (by simp) ?_
        refine AllReadyH.cons (o := ⟨some 25, _, _, _, _, _⟩) rfl (fun K hK => ?_) (AllReadyH.nil)
        go_simp
        (go_at_call 73; (with_reducible refine (KT.out _).mono ?_); rintro e w_11 ⟨rfl, hb⟩; have B_11 := Lib.hid (B_10.out.trans (hb.mono B_10.out.size)); have Z_11 := Lib.hid (Z_10.out.below hb Z_10.out.lt); clear hb)
        refine hK.out _ _ ?_ (fun hHeld => ?_)
        · (try dsimp only)
          exact KS.out _ (P1n.out _ _ G1.out B_11.out)
        clear hK K
        (try simp only [Act.put, List.setIfInBounds_toArray, List.set_cons_zero, List.set_cons_succ])
        refine wpAnyH_ready (rs := [6]) (by kernel_rfl) (by simp) ?_
        refine AllReadyH.cons (o := ⟨none, _, _, _, _, _⟩) rfl (fun K hK => ?_) (AllReadyH.nil)
        obtain ⟨p0, p1, p2, p3, p4, p5, p6, p7⟩ := blkz4 Z_11.out
        have BF_0 := Lib.hid (B_11.out.setCell (p := ⟨w_0.heap.size, 0, none⟩) ZS_9.out (.int .u64 D3))
        have ZF_0 := Lib.hid (Z_11.out.set_ 0 (.int .u64 D3))
        have BF_1 := Lib.hid (BF_0.out.setCell (p := ⟨w_0.heap.size, 1, none⟩) ZS_9.out (.int .u64 D2))
        have ZF_1 := Lib.hid (ZF_0.out.set_ 1 (.int .u64 D2))
        have BF_2 := Lib.hid (BF_1.out.setCell (p := ⟨w_0.heap.size, 2, none⟩) ZS_9.out (.int .u64 D1))
        have ZF_2 := Lib.hid (ZF_1.out.set_ 2 (.int .u64 D1))
        have BF_3 := Lib.hid (BF_2.out.setCell (p := ⟨w_0.heap.size, 3, none⟩) ZS_9.out (.int .u64 D0))
        have ZF_3 := Lib.hid (ZF_2.out.set_ 3 (.int .u64 D0))
        have PF := Lib.hid (P1n.out _ _ G1.out BF_3.out)
        have ZF : Hid _ := ZF_3
        go_simp
        refine hK.out _ _ ?_ (fun hHeld => ?_)
        · (try dsimp only)
          exact KS.out _ PF.out
        clear hK K
        (try simp only [Act.put, List.setIfInBounds_toArray, List.set_cons_zero, List.set_cons_succ])
        refine wpAnyH_done (by kernel_rfl) ?_ _
        go_wp2
        go_meet
        exact ⟨_, rfl, ZF.out, PF⟩
    case rest =>
      as_aux_lemma =>
      obtain ⟨T7, rfl, hbz, HX⟩ := hcut
      obtain ⟨v2, hwd⟩ : ∃ v, v = wc := ⟨_, rfl⟩
      rw [← hwd] at hbz HX ⊢
      clear hwd
      obtain ⟨P2, hP⟩ : ∃ P : World → Prop, P = fun W => P1 W ∧ Blk W T7 118 #[.int .u64 D3, .int .u64 D2, .int .u64 D1, .int .u64 D0] := ⟨_, rfl⟩
      have G2 : Hid (P2 v2) := Lib.hid (by rw [hP]; exact ⟨HX.out, hbz⟩)
      have P2f : Hid (∀ W, P2 W → P1 W) := Lib.hid (fun W h => by rw [hP] at h; exact h.1)
      have P2n : Hid (∀ W W', P2 W → Below W.heap.size W W' → P2 W') := Lib.hid (fun W W' h hb => by rw [hP] at h ⊢; exact ⟨P1n.out _ _ h.1 hb, h.2.below hb h.2.lt⟩)
      have P2t : Hid (∀ W, P2 W → Blk W T7 118 #[.int .u64 D3, .int .u64 D2, .int .u64 D1, .int .u64 D0]) := Lib.hid (fun W h => by rw [hP] at h; exact h.2)
      clear hP
      clear hbz HX KS
      go_wp2
      go_step3
      have HNB : Hid (NsI Q D f (f + 6) 0 (2 ^ (f + 5))) := nsi_begin Q D f
      have x4 := (P0k.out _ (P1f.out _ (P2f.out _ G2.out))).cell 4
      have eb : Hid (wrap64 ((2 : Int) ^ (f + 5)) = 2 ^ (f + 5)) := Lib.hid (by
        have p1 : (0 : Int) < 2 ^ (f + 5) := Int.pow_pos (by decide)
        have p2 := Nat.pow_le_pow_right (show 0 < 2 by decide) (show f + 5 ≤ 37 by omega)
        have e : ((2 ^ (f + 5) : Nat) : Int) = 2 ^ (f + 5) := by push_cast; rfl
        have e2 : (2 : Nat) ^ 37 = 137438953472 := by decide
        rw [e2] at p2
        exact IntWalk.wrap64_in _ (by omega))
      obtain ⟨_, _, e1, e2⟩ := E1.out
      go_wp2
      rw [eb.out]
      clear x4 e1 e2 eb
      go_loopw [8, 9] (fun s8 s9 wQ => ∃ (j : Nat) (k b : Int), s8 = .int .i64 k ∧ s9 = .int .i64 b ∧ Hid (NsI Q D f j k b) ∧ Hid (P2 wQ)) (fun _ s9 _ => (intOf s9).toNat)
      case atStart => exact ⟨_, _, _, rfl, rfl, HNB, G2⟩
      case round =>
        obtain ⟨j, k, b, rfl, rfl, HN, HG⟩ := hrel
        by_cases hb : 0 < b
        · as_aux_lemma =>
          obtain ⟨nx, h2, ha, b2, rm, e2', ⟨a1, a2⟩, ⟨a3, a4⟩, ⟨a5, a6⟩, ⟨a7, a8, a9⟩, ⟨a10, a11, a12⟩, ⟨a13, a14⟩, ⟨q0, q1⟩, q23, hN0, hN1, hN2⟩ := nsi_round HN.out HF32.out hb
          obtain ⟨ma, mb, x3, x2, x1, x0, kH, kX, kC⟩ := KQ.out ha wr q0 q1
          obtain ⟨C, hC⟩ : ∃ C, C = sg (((ha * ha).toNat * Q : Nat) : Int) (D : Int) := ⟨_, rfl⟩
          have HC3 : Hid (C = 0 ∨ C = -1 ∨ C = 1) := Lib.hid (by rw [hC]; unfold sg; split; · simp
                                                                 · split <;> simp)
          rw [← hC] at hN0 hN1 hN2 kC
          have HN0 := Lib.hid hN0
          have HN1 := Lib.hid hN1
          have HN2 := Lib.hid hN2
          have KH := Lib.hid kH
          have KX := Lib.hid kX
          have KC := Lib.hid kC
          have HQ := Lib.hid (And.intro q0 q23)
          clear hN0 hN1 hN2 kH kX kC q0 q1 q23 hC
          obtain ⟨vr, hvr⟩ : ∃ v, v = wr := ⟨_, rfl⟩
          rw [← hvr] at HG ⊢
          clear hvr
          go_upto_region 9 with fail
          go_cut [47] (fun s47 wx => s47 = .int .i64 C ∧ Hid (P2 wx))
          case first =>
            as_aux_lemma =>
            have KS : Hid (∀ W, P2 W → (W.cell? ⟨w.heap.size, 2, none⟩ = some (.int .i64 hQc) ∧ W.cell? ⟨w.heap.size, 3, none⟩ = some (.int .u64 lQc)) ∧ (W.cell? ⟨T7, 0, none⟩ = some (.int .u64 D3) ∧ W.cell? ⟨T7, 1, none⟩ = some (.int .u64 D2) ∧ W.cell? ⟨T7, 2, none⟩ = some (.int .u64 D1) ∧ W.cell? ⟨T7, 3, none⟩ = some (.int .u64 D0))) := Lib.hid (fun W h => by
              have r := P0k.out _ (P1f.out _ (P2f.out _ h))
              have q := P2t.out _ h
              exact ⟨⟨r.cell 2, r.cell 3⟩, q.cell 0, q.cell 1, q.cell 2, q.cell 3⟩)
            have B_0 : Hid (Below vr.heap.size vr vr.drew) := Lib.hid (below_drw (Below.refl _ _) 1)
            have GB_0 := Lib.hid (P2n.out _ _ HG.out B_0.out)
            refine wp_region_held_drew (S := fun W => (W.cell? ⟨w.heap.size, 2, none⟩ = some (.int .i64 hQc) ∧ W.cell? ⟨w.heap.size, 3, none⟩ = some (.int .u64 lQc)) ∧ (W.cell? ⟨T7, 0, none⟩ = some (.int .u64 D3) ∧ W.cell? ⟨T7, 1, none⟩ = some (.int .u64 D2) ∧ W.cell? ⟨T7, 2, none⟩ = some (.int .u64 D1) ∧ W.cell? ⟨T7, 3, none⟩ = some (.int .u64 D0))) (by kernel_rfl) ?_ (fun hHeld => ?_)
            · exact KS.out _ GB_0.out
            have hHd := hHeld
            generalize vr.drew = w_0 at *
            (refine wpAnyH_take (i := 0) (oi := ⟨some 40, _, _, _, _, _⟩) (v := ?v0_c1) rfl (by kernel_rfl) (by kernel_rfl) (by kernel_rfl) (fun _ _ _ h => h) (Or.inl ⟨by rfl, ?hy0_c1⟩) (by assumption) ?rest0_c1; (case hy0_c1 => ((intro w hSw); (try dsimp only at hSw); go_simp; first | done | (with_reducible rfl))))
            (try simp only [Act.put, List.setIfInBounds_toArray, List.set_cons_zero, List.set_cons_succ])
            (refine wpAnyH_take (i := 1) (oi := ⟨some 41, _, _, _, _, _⟩) (v := ?v1_c2) rfl (by kernel_rfl) (by kernel_rfl) (by kernel_rfl) (fun _ _ _ h => h) (Or.inl ⟨by rfl, ?hy1_c2⟩) (by assumption) ?rest1_c2; (case hy1_c2 => ((intro w hSw); (try dsimp only at hSw); go_simp; first | done | (with_reducible rfl))))
            (try simp only [Act.put, List.setIfInBounds_toArray, List.set_cons_zero, List.set_cons_succ])
            (refine wpAnyH_take (i := 3) (oi := ⟨some 43, _, _, _, _, _⟩) (v := ?v3_c3) rfl (by kernel_rfl) (by kernel_rfl) (by kernel_rfl) (fun _ _ _ h => h) (Or.inl ⟨by rfl, ?hy3_c3⟩) (by assumption) ?rest3_c3; (case hy3_c3 => ((intro w hSw); (try dsimp only at hSw); go_simp; first | done | (with_reducible rfl))))
            (try simp only [Act.put, List.setIfInBounds_toArray, List.set_cons_zero, List.set_cons_succ])
            (refine wpAnyH_take (i := 4) (oi := ⟨some 44, _, _, _, _, _⟩) (v := ?v4_c4) rfl (by kernel_rfl) (by kernel_rfl) (by kernel_rfl) (fun _ _ _ h => h) (Or.inl ⟨by rfl, ?hy4_c4⟩) (by assumption) ?rest4_c4; (case hy4_c4 => ((intro w hSw); (try dsimp only at hSw); go_simp; first | done | (with_reducible rfl))))
            (try simp only [Act.put, List.setIfInBounds_toArray, List.set_cons_zero, List.set_cons_succ])
            (refine wpAnyH_take (i := 6) (oi := ⟨some 46, _, _, _, _, _⟩) (v := ?v6_c5) rfl (by kernel_rfl) (by kernel_rfl) (by kernel_rfl) (fun _ _ _ h => h) (Or.inl ⟨by rfl, ?hy6_c5⟩) (by assumption) ?rest6_c5; (case hy6_c5 => ((intro w hSw); (try dsimp only at hSw); go_simp; first | done | (with_reducible rfl))))
            (try simp only [Act.put, List.setIfInBounds_toArray, List.set_cons_zero, List.set_cons_succ])
            refine wpAnyH_ready (rs := [2]) (by kernel_rfl) (by simp) ?_
            refine AllReadyH.cons (o := ⟨some 42, _, _, _, _, _⟩) rfl (fun K hK => ?_) (AllReadyH.nil)
            go_simp
            (go_at_call 42; (with_reducible refine (KH.out _).mono ?_); rintro e w_1 ⟨rfl, hb⟩; have B_1 := Lib.hid (B_0.out.trans (hb.mono B_0.out.size)); clear hb)
            refine hK.out _ _ ?_ (fun hHeld => ?_)
            · (try dsimp only)
              exact KS.out _ (P2n.out _ _ HG.out B_1.out)
            clear hK K
            (try simp only [Act.put, List.setIfInBounds_toArray, List.set_cons_zero, List.set_cons_succ])
            refine wpAnyH_ready (rs := [5]) (by kernel_rfl) (by simp) ?_
            refine AllReadyH.cons (o := ⟨some 45, _, _, _, _, _⟩) rfl (fun K hK => ?_) (AllReadyH.nil)
            go_simp
            (go_at_call 73; (with_reducible refine (KX.out _).mono ?_); rintro e w_2 ⟨rfl, hb⟩; have B_2 := Lib.hid (B_1.out.trans (hb.mono B_1.out.size)); clear hb)
            refine hK.out _ _ ?_ (fun hHeld => ?_)
            · (try dsimp only)
              exact KS.out _ (P2n.out _ _ HG.out B_2.out)
            clear hK K
            (try simp only [Act.put, List.setIfInBounds_toArray, List.set_cons_zero, List.set_cons_succ])
            refine wpAnyH_ready (rs := [7]) (by kernel_rfl) (by simp) ?_
            refine AllReadyH.cons (o := ⟨some 47, _, _, _, _, _⟩) rfl (fun K hK => ?_) (AllReadyH.nil)
            go_simp
            (go_at_call 74; (with_reducible refine (KC.out _).mono ?_); rintro e w_3 ⟨rfl, hb⟩; have B_3 := Lib.hid (B_2.out.trans (hb.mono B_2.out.size)); clear hb)
            refine hK.out _ _ ?_ (fun hHeld => ?_)
            · (try dsimp only)
              exact KS.out _ (P2n.out _ _ HG.out B_3.out)
            clear hK K
            (try simp only [Act.put, List.setIfInBounds_toArray, List.set_cons_zero, List.set_cons_succ])
            refine wpAnyH_done (by kernel_rfl) ?_ _
            go_wp2
            go_meet
            exact ⟨rfl, Lib.hid (P2n.out _ _ HG.out B_3.out)⟩
          case rest =>
            as_aux_lemma =>
            obtain ⟨rfl, HX⟩ := hcut
            obtain ⟨vx, hwd⟩ : ∃ v, v = wc := ⟨_, rfl⟩
            rw [← hwd] at HX ⊢
            clear hwd
            rcases (show C = 0 ∨ C = -1 ∨ C = 1 from HC3.out) with hc | hc | hc
            · subst hc
              have HR := Lib.hid (HN0.out rfl)
              go_wp2
              go_ret
              exact ⟨by rw [HR.out]; rfl, P0b.out _ (P1f.out _ (P2f.out _ HX.out))⟩
            · subst hc
              have HR := Lib.hid (HN1.out rfl)
              go_wp2
              obtain ⟨i, hi⟩ := HR.out
              exact ⟨⟨i, nx, b2, rfl, rfl, Lib.hid hi, HX⟩, by simp only [intOf]; have := HQ.out; omega⟩
            · subst hc
              have HR := Lib.hid (HN2.out (by decide) (by decide))
              go_wp2
              obtain ⟨i, hi⟩ := HR.out
              exact ⟨⟨i, k, b2, rfl, rfl, Lib.hid hi, HX⟩, by simp only [intOf]; have := HQ.out; omega⟩
        · as_aux_lemma =>
          have HR := Lib.hid (nsi_end HN.out hb)
          go_wp2
          go_ret
          exact ⟨by rw [HR.out]; rfl, P0b.out _ (P1f.out _ (P2f.out _ HG.out))⟩
end Go.Proofs.YtldchepfcgbpiaaGreat
namespace Go.Proofs.YtldchepfcgbpiaaGreat
open Go.RowKit Go.Shelf

theorem blk5r {W : World} {b : Nat} {t : TypeId} {v0 v1 v2 v3 v4 : Value} (h : Blk W b t #[v0, v1, v2, v3, v4]) : W.cell? ⟨b, 0, none⟩ = some v0 ∧ W.cell? ⟨b, 1, none⟩ = some v1 ∧ W.cell? ⟨b, 2, none⟩ = some v2 ∧ W.cell? ⟨b, 3, none⟩ = some v3 ∧ W.cell? ⟨b, 4, none⟩ = some v4 := ⟨h.cell 0, h.cell 1, h.cell 2, h.cell 3, h.cell 4⟩
theorem nsr_bd (Q D : Nat) : ∀ (j : Nat) (k : Int), 0 ≤ k → 0 ≤ nsr Q D j k ∧ nsr Q D j k ≤ k + 2 ^ j
  | 0, k, h => by unfold nsr; exact ⟨h, by omega⟩
  | j + 1, k, h => by
    have hp : (2 : Int) ^ (j + 1) = 2 * 2 ^ j := by rw [Int.pow_succ, Int.mul_comm]
    have p1 : (0 : Int) < 2 ^ j := Int.pow_pos (by decide)
    have i1 := nsr_bd Q D j (k + 2 ^ j) (by omega)
    have i2 := nsr_bd Q D j k h
    have ht : 0 ≤ (k + 2 ^ j).tmod 2 ∧ (k + 2 ^ j).tmod 2 ≤ k + 2 ^ j := by rw [Int.tmod_eq_emod_of_nonneg (by omega)]; omega
    unfold nsr
    split
    · omega
    · split <;> omega
/-- What a row tells of one word's distance. -/
def nmv (q x : Int) (f : Nat) : Int := if x < 0 then -(nsr q.toNat (nD x f) (f + 6) 0) else nsr q.toNat (nD x f) (f + 6) 0
theorem nD_neg (x : Int) (f : Nat) : nD (-x) f = nD x f := by unfold nD; rw [Int.neg_mul_neg]
theorem pow38 {f : Nat} (hf : f ≤ 32) : (2 : Int) ^ (f + 6) ≤ 274877906944 := by
  have q := Nat.pow_le_pow_right (show 0 < 2 by decide) (show f + 6 ≤ 38 by omega)
  have e : ((2 ^ (f + 6) : Nat) : Int) = 2 ^ (f + 6) := by push_cast; rfl
  rw [← e]
  have e2 : (2 : Nat) ^ 38 = 274877906944 := by decide
  omega
theorem nmv_bd {q x : Int} {f : Nat} (hf : f ≤ 32) : -274877906944 ≤ nmv q x f ∧ nmv q x f ≤ 274877906944 := by
  have h := nsr_bd q.toNat (nD x f) (f + 6) 0 (Int.le_refl _)
  have p := pow38 hf
  unfold nmv
  split <;> omega
set_option maxRecDepth 100000 in
set_option maxHeartbeats 4000000 in
theorem distance_any (n s q a : Int) (f : Nat) (h1 : -9223372036854775808 ≤ n * a ∧ n * a ≤ 9223372036854775807) (h2 : -9223372036854775808 ≤ n * a - s ∧ n * a - s ≤ 9223372036854775807) (w : World) :
    Calls Tryz.prog 44 #[Rw n s q f, .int .i64 a] w fun e w' => e = .returned (.int .i64 (n * a - s)) ∧ Below w.heap.size w w' := by
  unfold Rw
  generalize hi q = hQ
  generalize lo q = lQ
  obtain ⟨x0, x1, _⟩ := blk5r (Blk.new w 61 #[.int .i64 n, .int .i64 s, .int .i64 hQ, .int .u64 lQ, .int .i64 (f : Int)])
  obtain ⟨e1, e2⟩ := wrp h1
  obtain ⟨e3, e4⟩ := wrp h2
  have B1 := Lib.hid ((Below.refl w.heap.size w).alloc (Nat.le_refl _) (.cells #[.int .i64 n, .int .i64 s, .int .i64 hQ, .int .u64 lQ, .int .i64 (f : Int)] 61))
  clear h1 h2
  go_enter Tryz.func44, Tryz.ntmps44
  go_wp2
  go_ret
  exact ⟨rfl, B1.out⟩
set_option maxRecDepth 100000 in
set_option maxHeartbeats 4000000 in
theorem norm1_any (n s q a : Int) (f : Nat) (hf : f ≤ 32) (q0 : 0 ≤ q) (rq : R q) (h1 : -9223372036854775808 ≤ n * a ∧ n * a ≤ 9223372036854775807) (h2 : -9223372036854775807 ≤ n * a - s ∧ n * a - s ≤ 9223372036854775807) (w : World) :
    Calls Tryz.prog 27 #[Rw n s q f, .int .i64 a] w fun e w' => e = .returned (.int .i64 (nmv q (n * a - s) f)) ∧ Below w.heap.size w w' := by
  have KD := Lib.hid (fun W : World => distance_any n s q a f h1 ⟨by omega, h2.2⟩ W)
  obtain ⟨x, hx⟩ : ∃ x, x = n * a - s := ⟨_, rfl⟩
  rw [← hx] at KD h2 ⊢
  have KP := Lib.hid (fun (W : World) (h : 0 ≤ x) => nearest_any n s q x f hf q0 rq ⟨by omega, h2.2⟩ W)
  have KN := Lib.hid (fun (W : World) => nearest_any n s q (-x) f hf q0 rq ⟨by omega, by omega⟩ W)
  rw [nD_neg] at KN
  obtain ⟨v, hv⟩ : ∃ v, v = nsr q.toNat (nD x f) (f + 6) 0 := ⟨_, rfl⟩
  rw [← hv] at KP KN
  have HV := Lib.hid hv
  have hb := nsr_bd q.toNat (nD x f) (f + 6) 0 (Int.le_refl _)
  rw [← hv] at hb
  have p := pow38 hf
  obtain ⟨e1, e2⟩ := wrp (x := -v) (by omega)
  obtain ⟨e3, e4⟩ := wrp (x := -x) (by omega)
  unfold Rw at KD KP KN ⊢
  generalize hi q = hQ at *
  generalize lo q = lQ at *
  have Q1 := Lib.hid (Blk.new w 61 #[.int .i64 n, .int .i64 s, .int .i64 hQ, .int .u64 lQ, .int .i64 (f : Int)])
  obtain ⟨x0, x1, x2, x3, x4⟩ := blk5r Q1.out
  have B1 := Lib.hid ((Below.refl w.heap.size w).alloc (Nat.le_refl _) (.cells #[.int .i64 n, .int .i64 s, .int .i64 hQ, .int .u64 lQ, .int .i64 (f : Int)] 61))
  by_cases g : x < 0
  · have HN : Hid (nmv q x f = -v) := Lib.hid (by unfold nmv; rw [if_pos g, ← HV.out])
    clear h1 h2 hx hv hb p q0 rq hf
    go_enter Tryz.func27, Tryz.ntmps27
    go_wp2_with (first | (go_at_call 44; (with_reducible refine (KD.out _).mono ?_); rintro e w2 ⟨rfl, hb2⟩; have B2 := Lib.hid (B1.out.trans (hb2.mono (by simp))); obtain ⟨y0, y1, y2, y3, y4⟩ := blk5r (Q1.out.below hb2 Q1.out.lt); clear hb2) | (go_at_call 45; (with_reducible refine (KN.out _).mono ?_); rintro e w3 ⟨rfl, hb3⟩; have B3 := Lib.hid (B2.out.trans (hb3.mono B2.out.size)); clear hb3))
    go_ret
    exact ⟨by rw [HN.out]; rfl, B3.out⟩
  · have HN : Hid (nmv q x f = v) := Lib.hid (by unfold nmv; rw [if_neg g, ← HV.out])
    replace KP := Lib.hid (fun W => KP.out W (by omega))
    clear h1 h2 hx hv hb p q0 rq hf
    go_enter Tryz.func27, Tryz.ntmps27
    go_wp2_with (first | (go_at_call 44; (with_reducible refine (KD.out _).mono ?_); rintro e w2 ⟨rfl, hb2⟩; have B2 := Lib.hid (B1.out.trans (hb2.mono (by simp))); obtain ⟨y0, y1, y2, y3, y4⟩ := blk5r (Q1.out.below hb2 Q1.out.lt); clear hb2) | (go_at_call 45; (with_reducible refine (KP.out _).mono ?_); rintro e w3 ⟨rfl, hb3⟩; have B3 := Lib.hid (B2.out.trans (hb3.mono B2.out.size)); clear hb3))
    go_ret
    exact ⟨by rw [HN.out]; rfl, B3.out⟩
end Go.Proofs.YtldchepfcgbpiaaGreat
