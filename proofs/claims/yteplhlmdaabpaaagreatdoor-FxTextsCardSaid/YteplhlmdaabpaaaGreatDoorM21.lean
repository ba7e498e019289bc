/-
  fx's digits behind the point, doubled in place: the bit that comes out ahead of the point.
  Quotients by a divisor above 0: the rounded one is the lower one, or 1 more; both are wide numbers.
  Rounded quotients of words: half of the divisor away at most.
  fx's digits behind the point, rounded: the nearest whole number to a decimal times 2^f.
  What is rounded to the nearest does not fall.
-/
import Derived.Test.YteplhlmdaabpaaaGreatDoorProg
import Derived.LoopTactic
import Derived.Lib.Hide
import Derived.Test.YteplhlmdaabpaaaGreatDoorM05
import Derived.Test.YteplhlmdaabpaaaGreatDoorM08
namespace Go.Proofs.YteplhlmdaabpaaaGreatDoor
open Go.RowKit

/-- Digits doubled, from the last one on: the digits and what is carried. -/
def dbl : List Nat → List Nat × Nat
  | [] => ([], 0)
  | d :: t => ((2 * d + (dbl t).2) % 10 :: (dbl t).1, (2 * d + (dbl t).2) / 10)
def dv : List Nat → Nat
  | [] => 0
  | d :: t => d * 10 ^ t.length + dv t
theorem dbl_len : ∀ l, (dbl l).1.length = l.length
  | [] => rfl
  | d :: t => by simp [dbl, dbl_len t]
theorem dbl_carry : ∀ l, (∀ d ∈ l, d ≤ 9) → (dbl l).2 ≤ 1 ∧ ∀ d ∈ (dbl l).1, d ≤ 9
  | [], _ => ⟨by simp [dbl], by simp [dbl]⟩
  | d :: t, h => by
    obtain ⟨h1, h2⟩ := dbl_carry t (fun x hx => h x (by simp [hx]))
    have h3 := h d (by simp)
    refine ⟨by simp only [dbl]; omega, fun x hx => ?_⟩
    simp only [dbl, List.mem_cons] at hx
    rcases hx with rfl | hx
    · omega
    · exact h2 x hx
/-- What they are worth. -/
theorem dbl_worth : ∀ l, 2 * dv l = (dbl l).2 * 10 ^ l.length + dv (dbl l).1
  | [] => rfl
  | d :: t => by
    have h := dbl_worth t
    have e := Nat.div_add_mod (2 * d + (dbl t).2) 10
    simp only [dbl, dv, List.length_cons, dbl_len, Nat.pow_succ]
    generalize (2 * d + (dbl t).2) / 10 = q at *
    generalize (2 * d + (dbl t).2) % 10 = r at *
    generalize (dbl t).2 = c at *
    generalize 10 ^ t.length = K at *
    generalize dv t = V at *
    generalize dv (dbl t).1 = U at *
    have e2 : (2 * d + c) * K = (10 * q + r) * K := by rw [← e]
    rw [Nat.add_mul, Nat.add_mul, Nat.mul_assoc 2 d K, Nat.mul_assoc 10 q K] at e2
    rw [show q * (K * 10) = 10 * (q * K) by rw [← Nat.mul_assoc, Nat.mul_comm]]
    omega
/-- A digit as a byte's cell. -/
def dc (d : Nat) : Value := .int .u8 (d : Int)

theorem ByteRow.store {w : World} {base : Nat} {e : TypeId} {g n c i : Nat} {xs : List Value} (u : Value) (h : ByteRow w base e (.slice (some ⟨g, 0, none⟩) n c) xs) (hi : i < xs.length) : ByteRow (w.setCell ⟨g, i, none⟩ u) base e (.slice (some ⟨g, 0, none⟩) n c) (xs.set i u) ∧ w.frozen? ⟨g, i, none⟩ = false ∧ n = xs.length := by
  obtain ⟨g', cap, cur, lo, hi', hv, hb, hgg, hf, hn, hc, hcs, htake⟩ := h
  simp only [Value.slice.injEq, Option.some.injEq, Addr.mk.injEq] at hv
  obtain ⟨⟨rfl, _⟩, rfl, rfl⟩ := hv
  refine ⟨⟨g, c, cur.setIfInBounds i u, lo, hi', by simp, hb, ?_, hf, by simpa using hn, hc, by simpa using hcs, ?_⟩, ?_, rfl⟩
  · rw [setCell_eq_setRow w g i cur e (lo, hi') u hgg]
    exact setRow_heap w g cur _ e _ hgg
  · rw [List.length_set, Array.toList_setIfInBounds, List.take_set, htake]
  · simp only [World.frozen?, hgg, Bool.and_eq_false_iff, decide_eq_false_iff_not]
    omega

theorem grown_set {a w : World} {g : Nat} (h : a.grownBy w (some g)) (i : Nat) (v : Value) : a.grownBy (w.setCell ⟨g, i, none⟩ v) (some g) := by
  refine ⟨h.os, h.tape, h.output, by simpa using h.size, fun k hk hne => ?_⟩
  have hg : g ≠ k := fun e => hne (by rw [e])
  have := h.block k hk hne
  simpa [World.setCell, Array.getElem?_modify, hg] using this

set_option maxRecDepth 100000 in
set_option maxHeartbeats 4000000 in
theorem doubled_any (g n c base : Nat) (D : List Nat) (w : World) (hn : n ≤ 65536) (hD : ∀ d ∈ D, d ≤ 9) (h : ByteRow w base 5 (.slice (some ⟨g, 0, none⟩) n c) (D.map dc)) (hlen : D.length = n) :
    Calls Tryz.prog 63 #[.slice (some ⟨g, 0, none⟩) n c] w fun e w' => e = .returned (.int .u64 ((dbl D).2 : Nat)) ∧ ByteRow w' base 5 (.slice (some ⟨g, 0, none⟩) n c) ((dbl D).1.map dc) ∧ w.grownBy w' (some g) := by
  have HD := Lib.hid (And.intro hD hlen)
  clear hD hlen
  go_enter Tryz.func63, Tryz.ntmps63
  go_wp2
  go_loopw [3, 4] (fun s3 s4 wr => ∃ i : Nat, i ≤ n ∧ s4 = .int .i64 ((i : Int) - 1) ∧ s3 = .int .u8 ((dbl (D.drop i)).2 : Nat) ∧ Hid (ByteRow wr base 5 (.slice (some ⟨g, 0, none⟩) n c) ((D.take i ++ (dbl (D.drop i)).1).map dc)) ∧ w.grownBy wr (some g)) (fun _ s4 _ => (RowKit.intOf s4 + 1).toNat)
  case atStart =>
    refine ⟨n, Nat.le_refl _, rfl, ?_, ?_, World.grownBy.refl _ _⟩
    · rw [List.drop_of_length_le (by have := HD.out.2; omega)]; rfl
    · rw [List.drop_of_length_le (by have := HD.out.2; omega), List.take_of_length_le (by have := HD.out.2; omega)]
      simpa [dbl] using Lib.hid h
  case round =>
    obtain ⟨i, hi, rfl, rfl, HR, hG⟩ := hrel
    cases i with
    | zero =>
      simp only [List.drop_zero, List.take_zero, List.nil_append] at HR ⊢
      have hc := (dbl_carry D HD.out.1).1
      obtain ⟨cr, hcr⟩ : ∃ cr, cr = (dbl D).2 := ⟨_, rfl⟩
      rw [← hcr] at hc ⊢
      have HC := Lib.hid hcr
      clear hcr h
      go_wp2
      go_ret
      exact ⟨by rw [← HC.out]; rfl, HR.out, hG⟩
    | succ k =>
      have hk : k < D.length := by have := HD.out.2; omega
      obtain ⟨d, hd⟩ : ∃ d, d = D[k] := ⟨_, rfl⟩
      have hd9 : d ≤ 9 := HD.out.1 d (by rw [hd]; exact List.getElem_mem hk)
      obtain ⟨T, hT⟩ : ∃ T, T = D.drop (k + 1) := ⟨_, rfl⟩
      have hT9 : ∀ x ∈ T, x ≤ 9 := fun x hx => HD.out.1 x (by rw [hT] at hx; exact List.mem_of_mem_drop hx)
      have hdrop : D.drop k = d :: T := by rw [hT, hd]; exact List.drop_eq_getElem_cons hk
      have htk : D.take (k + 1) = D.take k ++ [d] := by rw [hd]; exact List.take_succ_eq_append_getElem hk
      rw [← hT] at HR ⊢
      have hc1 := (dbl_carry T hT9).1
      have e0 : ((k + 1 : Nat) : Int) - 1 = (k : Int) := by omega
      rw [e0]
      have hlk : (D.take k).length = k := by rw [List.length_take]; omega
      have hcell : wr.cell? ⟨g, k, none⟩ = some (.int .u8 (d : Int)) := by
        refine HR.out.cells k _ ?_
        rw [htk, List.map_append, List.map_append, List.append_assoc, List.getElem?_append_right (by rw [List.length_map, hlk]; exact Nat.le_refl _), List.length_map, hlk, Nat.sub_self]
        rfl
      have hst := fun u => HR.out.store (i := k) u (by rw [List.length_map, List.length_append, List.length_take]; omega)
      have hf := (hst (.int .u8 0)).2.1
      have hnk : k < n := by have := HD.out.2; omega
      have HS := Lib.hid (fun u => (hst u).1)
      have HX : Hid (((D.take (k + 1) ++ (dbl T).1).map dc).set k (dc ((2 * d + (dbl T).2) % 10)) = (D.take k ++ (dbl (D.drop k)).1).map dc ∧ (dbl (D.drop k)).2 = (2 * d + (dbl T).2) / 10) := by
        rw [hdrop]
        refine ⟨?_, rfl⟩
        rw [htk, List.map_append, List.map_append, List.map_append, List.append_assoc, List.set_append_right _ _ (by rw [List.length_map, hlk]; exact Nat.le_refl _), List.length_map, hlk, Nat.sub_self]
        rfl
      obtain ⟨cr, hcr⟩ : ∃ cr, cr = (dbl T).2 := ⟨_, rfl⟩
      rw [← hcr] at hc1 ⊢
      have HC := Lib.hid hcr
      clear hst hcr h hdrop htk hT hT9 hd hlk HR e0
      go_wp2
      have h3 := HX.out.1
      rw [← HC.out] at h3
      have e : Value.int IntKind.u8 ((2 * (d : Int) + (cr : Int)) % 10) = dc ((2 * d + cr) % 10) := by simp [dc]
      refine ⟨⟨k, by omega, rfl, ?_, ?_, grown_set hG _ _⟩, by simp [RowKit.intOf]⟩
      · rw [HX.out.2, ← HC.out]; simp
      · rw [e]
        have h2 := HS.out (dc ((2 * d + cr) % 10))
        rw [h3] at h2
        exact h2
end Go.Proofs.YteplhlmdaabpaaaGreatDoor
namespace Go.Proofs.YteplhlmdaabpaaaGreatDoor
open Go.RowKit

theorem up_rest {n d : Int} (hd : 0 < d) (h : up n d = true) : ab n % ab d ≠ 0 := by
  intro e
  have dp : 0 < ab d := by unfold ab; omega
  unfold up at h
  rw [e, Int.mul_zero, sg_lt dp] at h
  simp at h
theorem quo_small {n d : Int} (hd : 0 < d) : 0 ≤ ab n / ab d ∧ ab n / ab d ≤ ab n ∧ (ab n % ab d ≠ 0 → ab n / ab d + 1 ≤ ab n) := by
  have dp : 0 < ab d := by unfold ab; omega
  have n0 : 0 ≤ ab n := by unfold ab; omega
  have q0 : 0 ≤ ab n / ab d := Int.ediv_nonneg n0 (by omega)
  refine ⟨q0, Int.ediv_le_self _ n0, fun hr => ?_⟩
  have r0 := Int.emod_nonneg (ab n) (show ab d ≠ 0 by omega)
  have e := Int.mul_ediv_add_emod (ab n) (ab d)
  have : 1 * (ab n / ab d) ≤ ab d * (ab n / ab d) := Int.mul_le_mul_of_nonneg_right (by omega) q0
  omega
theorem downs_math {n d : Int} (hn : R n) (hd : 0 < d) : R (dn n d) ∧ R (rd n d) ∧ R (rd n d - dn n d) ∧ 0 ≤ rd n d - dn n d ∧ rd n d - dn n d ≤ 1 := by
  obtain ⟨q0, q1, q2⟩ := quo_small (n := n) hd
  have hb := ab_bd hn
  have hu := up_rest (n := n) hd
  have ed : ng d = false := by unfold ng; exact decide_eq_false (by omega)
  have en : ng n = decide (n < 0) := rfl
  rw [R_iff] at hn
  simp only [R_iff]
  unfold dn rd sd
  rw [ed, en]
  generalize up n d = u at *
  have ea : n < 0 → ab n = -n := by intro h; unfold ab; omega
  have eb : ¬ n < 0 → ab n = n := by intro h; unfold ab; omega
  generalize ab n / ab d = q at *
  generalize ab n % ab d = r at *
  by_cases h : n < 0 <;> by_cases hr : r = 0 <;> cases u <;> simp [h, hr] at hu ea eb q2 ⊢ <;> omega
end Go.Proofs.YteplhlmdaabpaaaGreatDoor
namespace Go.Proofs.YteplhlmdaabpaaaGreatDoor
open Go.RowKit

theorem sd_mul (n d k : Int) : n - sd (ng n != ng d) k * d = sd (ng n) (ab n - ab d * k) := by
  have en : n = sd (ng n) (ab n) := by unfold sd ng ab; by_cases h : n < 0 <;> simp [h] <;> omega
  have ed : d = sd (ng d) (ab d) := by unfold sd ng ab; by_cases h : d < 0 <;> simp [h] <;> omega
  generalize ng n = s at *
  generalize ng d = t at *
  generalize ab n = A at *
  generalize ab d = D at *
  subst en
  subst ed
  cases s <;> cases t <;> simp [sd, Int.mul_comm D k, Int.neg_mul, Int.mul_neg] <;> omega
theorem up_cases (n d : Int) : (up n d = true ∧ (ab d < 2 * (ab n % ab d) ∨ (2 * (ab n % ab d) = ab d ∧ ab n / ab d % 2 = 1))) ∨ (up n d = false ∧ (2 * (ab n % ab d) < ab d ∨ (2 * (ab n % ab d) = ab d ∧ ab n / ab d % 2 ≠ 1))) := by
  unfold up
  generalize 2 * (ab n % ab d) = r
  generalize ab n / ab d = q
  generalize ab d = D
  rcases Int.lt_trichotomy r D with h | h | h
  · rw [sg_lt h]; simp; omega
  · rw [h, sg_eq]
    by_cases hq : q % 2 = 1
    · simp [hq]
    · simp [hq]
  · have e : sg r D = 1 := by unfold sg; rw [if_neg (by omega), if_pos h]
    rw [e]; simp; omega
theorem half_math (n d : Int) (h0 : d ≠ 0) : 2 * ((n - rd n d * d).natAbs : Int) ≤ d.natAbs ∧ (2 * ((n - rd n d * d).natAbs : Int) = d.natAbs → rd n d % 2 = 0) := by
  have dp : 0 < ab d := by unfold ab; omega
  have ed : (d.natAbs : Int) = ab d := rfl
  rw [ed]
  have r0 := Int.emod_nonneg (ab n) (show ab d ≠ 0 by omega)
  have r1 := Int.emod_lt_of_pos (ab n) dp
  have e := Int.mul_ediv_add_emod (ab n) (ab d)
  have en : ∀ s x, (sd s x).natAbs = x.natAbs := fun s x => by cases s <;> simp [sd]
  have e2 : ∀ s x, (sd s x) % 2 = 0 ↔ x % 2 = 0 := fun s x => by cases s <;> simp [sd] <;> omega
  have U := up_cases n d
  unfold rd
  rw [sd_mul, en, e2]
  generalize ab n / ab d = q at *
  generalize ab n % ab d = r at *
  generalize ab n = A at *
  rcases U with ⟨u, h⟩ | ⟨u, h⟩ <;> rw [u] <;> simp only [if_true, if_false, Bool.false_eq_true] <;> (try rw [Int.mul_add, Int.mul_one]) <;> generalize ab d * q = m at * <;> omega
theorem rd_neg (n d : Int) (h0 : d ≠ 0) : rd (-n) d = -rd n d := by
  have ea : ab (-n) = ab n := by unfold ab; omega
  unfold rd up
  rw [ea]
  by_cases h : n = 0
  · subst h
    have z : ab 0 = 0 := rfl
    have dp : 0 < ab d := by unfold ab; omega
    rw [z, Int.zero_ediv, Int.zero_emod, Int.mul_zero, sg_lt dp]
    cases (ng d) <;> simp [sd]
  · have en : ng (-n) = !ng n := by unfold ng; by_cases k : n < 0 <;> simp [k] <;> omega
    rw [en]
    generalize ng n = s
    generalize ng d = t
    cases s <;> cases t <;> simp [sd]
end Go.Proofs.YteplhlmdaabpaaaGreatDoor
namespace Go.Proofs.YteplhlmdaabpaaaGreatDoor
open Go.RowKit

set_option maxRecDepth 100000 in
set_option maxHeartbeats 4000000 in
theorem noughts_any (g n c base : Nat) (D : List Nat) (w : World) (hn : n ≤ 65536) (h : ByteRow w base 5 (.slice (some ⟨g, 0, none⟩) n c) (D.map dc)) (hlen : D.length = n) :
    Calls Tryz.prog 64 #[.slice (some ⟨g, 0, none⟩) n c] w fun e w' => e = .returned (.bool (D.all (· == 0))) ∧ w = w' := by
  have H := Lib.hid (And.intro h hlen)
  clear h hlen
  go_enter Tryz.func64, Tryz.ntmps64
  go_wp2
  go_loopw [7] (fun s7 wr => ∃ k : Nat, k ≤ n ∧ s7 = .int .i64 k ∧ (D.take k).all (· == 0) = true ∧ wr = w) (fun s7 _ => n - (RowKit.intOf s7).toNat)
  case atStart => exact ⟨0, Nat.zero_le _, rfl, by simp, rfl⟩
  case round =>
    obtain ⟨k, hk, rfl, hz, rfl⟩ := hrel
    by_cases g1 : k < n
    · have hk2 : k < D.length := by have := H.out.2; omega
      obtain ⟨d, hd⟩ : ∃ d, d = D[k] := ⟨_, rfl⟩
      have hcell : wr.cell? ⟨g, k, none⟩ = some (.int .u8 (d : Int)) := by
        refine H.out.1.cells k _ ?_
        rw [List.getElem?_map, List.getElem?_eq_getElem hk2, ← hd]; rfl
      by_cases d0 : d = 0
      · subst d0
        have HZ : Hid ((D.take (k + 1)).all (· == 0) = true) := by
          unfold Hid
          rw [List.take_succ_eq_append_getElem hk2, List.all_append, hz, ← hd]; rfl
        clear hd
        go_wp2
        refine ⟨⟨k + 1, by omega, by go_num, HZ.out, by first | rfl | trivial⟩, by simp [RowKit.intOf]; omega⟩
      · have d1 : ((d : Int) != 0) = true := by rw [bne_iff_ne]; omega
        have HZ : Hid (D.all (· == 0) = false) := by
          unfold Hid
          rw [List.all_eq_false]
          exact ⟨D[k], List.getElem_mem hk2, by rw [← hd]; simpa using d0⟩
        clear hd
        go_wp2
        go_ret
        exact ⟨by rw [HZ.out]; rfl, rfl⟩
    · have e : k = n := by omega
      subst e
      have HZ : Hid (D.all (· == 0) = true) := by rw [List.take_of_length_le (by have := H.out.2; omega)] at hz; exact hz
      go_wp2
      go_ret
      exact ⟨by rw [HZ.out]; rfl, rfl⟩

/-- A digit's letter. -/
def lt8 (d : Nat) : Value := .int .u8 (48 + (d : Int))
theorem dv_lt : ∀ l : List Nat, (∀ d ∈ l, d ≤ 9) → dv l < 10 ^ l.length
  | [], _ => by simp [dv]
  | d :: t, h => by
    have h1 := dv_lt t (fun x hx => h x (by simp [hx]))
    have h2 := h d (by simp)
    simp only [dv, List.length_cons, Nat.pow_succ]
    have h3 : d * 10 ^ t.length ≤ 9 * 10 ^ t.length := Nat.mul_le_mul_right _ h2
    omega
theorem dv_zero : ∀ l : List Nat, (l.all (· == 0) = true ↔ dv l = 0)
  | [] => by simp [dv]
  | d :: t => by
    have h := dv_zero t
    have hp : 0 < 10 ^ t.length := Nat.pow_pos (by decide)
    simp only [List.all_cons, Bool.and_eq_true, dv, h]
    constructor
    · rintro ⟨h1, h2⟩
      have : d = 0 := by simpa using h1
      rw [this, h2]; simp
    · intro h0
      have h1 : d * 10 ^ t.length = 0 := by omega
      have h2 : d = 0 := by
        rcases Nat.mul_eq_zero.1 h1 with h3 | h3
        · exact h3
        · omega
      exact ⟨by simp [h2], by omega⟩
/-- What is rounded. -/
theorem rnd_end {N K q r c s : Nat} (hK : 0 < K) (h : q * K + r = N) (hr : r < K) (h2 : 2 * r = c * K + s) (hs : s < K) : rd (N : Int) (K : Int) = if c = 1 ∧ (q % 2 = 1 ∨ s ≠ 0) then (q : Int) + 1 else (q : Int) := by
  have hk : (K : Int) ≠ 0 := by omega
  obtain ⟨m1, m2⟩ := half_math (N : Int) (K : Int) hk
  generalize rd (N : Int) (K : Int) = x at *
  have hN : (N : Int) = q * K + r := by rw [← h]; simp
  have hc : c = 0 ∨ c = 1 := by
    rcases Nat.lt_or_ge c 2 with l | l
    · omega
    · have : 2 * K ≤ c * K := Nat.mul_le_mul_right _ l
      omega
  have hKn : ((K : Int).natAbs : Int) = K := by omega
  rw [hKn] at m1 m2
  by_cases x1 : x ≤ q - 1
  · have : x * K ≤ ((q : Int) - 1) * K := Int.mul_le_mul_of_nonneg_right x1 (by omega)
    rw [Int.sub_mul, Int.one_mul] at this
    generalize x * (K : Int) = xk at *
    generalize (q : Int) * K = qk at *
    omega
  · by_cases x2 : (q : Int) + 2 ≤ x
    · have : ((q : Int) + 2) * K ≤ x * K := Int.mul_le_mul_of_nonneg_right x2 (by omega)
      rw [Int.add_mul] at this
      generalize x * (K : Int) = xk at *
      generalize (q : Int) * K = qk at *
      omega
    · have hx : x = q ∨ x = q + 1 := by omega
      rcases hx with hx | hx
      · subst hx
        rcases hc with rfl | rfl
        · rw [if_neg (by omega)]
        · generalize (q : Int) * K = qk at *
          rw [if_neg]
          omega
      · subst hx
        rw [Int.add_mul, Int.one_mul] at m1 m2
        generalize (q : Int) * K = qk at *
        rcases hc with rfl | rfl
        · omega
        · rw [if_pos]
          omega

/-- One doubling of what stands ahead of the point and behind it. -/
theorem stp_worth {s K P N : Nat} {D : List Nat} (h : s * K + dv D = P * N) (hK : K = 10 ^ D.length) : (2 * s + (dbl D).2) * K + dv (dbl D).1 = 2 * P * N := by
  have := dbl_worth D
  rw [← hK] at this
  rw [Nat.mul_assoc, ← h, Nat.add_mul, Nat.mul_add, Nat.mul_assoc, this]
  omega
theorem stp_bound {s s2 K P N x : Nat} (h : s2 * K + x = P * N) (hN : N < (s + 1) * K) (hP : 0 < P) : s2 < P * (s + 1) := by
  have h1 : P * N < P * ((s + 1) * K) := Nat.mul_lt_mul_of_pos_left hN hP
  rw [← Nat.mul_assoc] at h1
  have h2 : s2 * K < P * (s + 1) * K := by omega
  exact Nat.lt_of_mul_lt_mul_right h2
theorem pow_47 {s f j : Nat} (hs : s < 2 ^ (47 - f)) (hj : j ≤ f) (hf : f ≤ 32) : 2 ^ j * (s + 1) ≤ 140737488355328 := by
  have h1 : 2 ^ j * (s + 1) ≤ 2 ^ f * 2 ^ (47 - f) := Nat.mul_le_mul (Nat.pow_le_pow_right (by decide) hj) hs
  rw [← Nat.pow_add, show f + (47 - f) = 47 by omega] at h1
  exact h1
set_option maxRecDepth 100000 in
set_option maxHeartbeats 8000000 in
/-- decimal.rounded: digits D behind the point, s ahead of it. -/
theorem rounded_any (m : Bool) (W P : ByteArray) (D : List Nat) (s f : Nat) (w : World) (hD : ∀ d ∈ D, d ≤ 9) (hP : P.data.toList = D.map (fun d => UInt8.ofNat (48 + d))) (hl : D.length ≤ 64) (hf : f ≤ 32) (hs : s < 2 ^ (47 - f)) :
    Calls Tryz.prog 40 #[.agg #[.bool m, .string W, .string P], .int .u64 s, .int .i64 f] w fun e w' => e = .returned (.int .u64 (rd (((s * 10 ^ D.length + dv D) * 2 ^ f : Nat) : Int) ((10 ^ D.length : Nat) : Int))) ∧ Below w.heap.size w w' := by
  have hps : P.size = D.length := by
    have := congrArg List.length hP
    rw [List.length_map, Array.length_toList] at this
    exact this
  have CV := Lib.hid (fun (W0 : World) (h : w.heap.size ≤ W0.heap.size) => byteRow_of_string W0 5 P (by omega) w.heap.size h)
  have cv := fun W0 : World => Lib.run_convert_string_bytes (P := Tryz.prog) W0 9 44 5 P Tryz.underlying9 Tryz.underlying44 Tryz.underlying5
  have cv1 := cv (w.alloc (.cells #[.bool m, .string W, .string P] 50))
  have HD := Lib.hid (And.intro hD (And.intro hP hps))
  clear hD hP cv
  go_enter Tryz.func40, Tryz.ntmps40
  go_wp2
  obtain ⟨r0, r1, r2⟩ := CV.out (w.alloc (.cells #[.bool m, .string W, .string P] 50)) (by simp)
  rw [hps] at r0
  have hBb : Below w.heap.size w (Lib.bytesWorld (w.alloc (.cells #[.bool m, .string W, .string P] 50)) 5 P) := ((Below.refl _ _).alloc (Nat.le_refl _) _).trans (r1.mono (by simp))
  have hrow0 : Hid (ByteRow (Lib.bytesWorld (w.alloc (.cells #[.bool m, .string W, .string P] 50)) 5 P) w.heap.size 5 (.slice (some ⟨w.heap.size + 1, 0, none⟩) D.length (grownCap (w.alloc (.cells #[.bool m, .string W, .string P] 50)) D.length 0 5)) (D.map lt8)) := by
    have e : (P.data.toList.map fun b => Value.int .u8 (b.toNat : Int)) = D.map lt8 := by
      rw [HD.out.2.1, List.map_map]
      refine List.map_congr_left fun d hd => ?_
      have := HD.out.1 d hd
      show Value.int .u8 ((UInt8.ofNat (48 + d)).toNat : Int) = .int .u8 (48 + (d : Int))
      have e2 : (UInt8.ofNat (48 + d)).toNat = (48 + d) % 256 := by simp
      rw [e2]
      exact congrArg _ (by omega)
    rw [e] at r0
    unfold Hid
    simpa using r0
  clear r0 r1 r2 CV cv1
  generalize Lib.bytesWorld (w.alloc (.cells #[.bool m, .string W, .string P] 50)) 5 P = w1 at *
  generalize grownCap (w.alloc (.cells #[.bool m, .string W, .string P] 50)) D.length 0 5 = cap at *
  go_loopw [8, 15] (fun _ s15 wr => ∃ k : Nat, k ≤ D.length ∧ s15 = .int .i64 k ∧ Hid (ByteRow wr w.heap.size 5 (.slice (some ⟨w.heap.size + 1, 0, none⟩) D.length cap) ((D.take k).map dc ++ (D.drop k).map lt8)) ∧ Below w.heap.size w wr) (fun _ s15 _ => D.length - (RowKit.intOf s15).toNat)
  case atStart => exact ⟨0, Nat.zero_le _, rfl, by simpa using hrow0, hBb⟩
  case round =>
    obtain ⟨k, hk, rfl, HR, hB⟩ := hrel
    by_cases g1 : k < D.length
    · obtain ⟨d, hd⟩ : ∃ d, d = D[k] := ⟨_, rfl⟩
      have hd9 : d ≤ 9 := HD.out.1 d (by rw [hd]; exact List.getElem_mem g1)
      have hlk : ((D.take k).map dc).length = k := by rw [List.length_map, List.length_take]; omega
      have hdrop : (D.drop k).map lt8 = lt8 d :: (D.drop (k + 1)).map lt8 := by rw [List.drop_eq_getElem_cons g1, ← hd]; rfl
      have hcell : wr.cell? ⟨w.heap.size + 1, k, none⟩ = some (.int .u8 (48 + (d : Int))) := by
        refine HR.out.cells k _ ?_
        rw [List.getElem?_append_right (by rw [hlk]; exact Nat.le_refl _), hlk, Nat.sub_self, hdrop]
        rfl
      have hst := fun u => HR.out.store (i := k) u (by rw [List.length_append, hlk, List.length_map, List.length_drop]; omega)
      have hf := (hst (.int .u8 0)).2.1
      have HS := Lib.hid (fun u => (hst u).1)
      have HX : Hid (((D.take k).map dc ++ (D.drop k).map lt8).set k (dc d) = (D.take (k + 1)).map dc ++ (D.drop (k + 1)).map lt8) := by
        unfold Hid
        rw [List.set_append_right _ _ (by rw [hlk]; exact Nat.le_refl _), hlk, Nat.sub_self, hdrop, List.take_succ_eq_append_getElem g1, ← hd, List.map_append, List.append_assoc]
        rfl
      clear hst hd hlk hdrop hrow0
      go_wp2
      refine ⟨⟨k + 1, by omega, by go_num, ?_, ?_⟩, by simp [RowKit.intOf]; omega⟩
      · have h2 := HS.out (dc d)
        rw [HX.out] at h2
        have e : Value.int IntKind.u8 (48 + (d : Int) - 48) = dc d := by unfold dc; exact congrArg _ (by omega)
        rw [e]
        exact h2
      · exact hB.setCell (p := ⟨w.heap.size + 1, k, none⟩) (by show w.heap.size ≤ w.heap.size + 1; omega) _
    · have e : k = D.length := by omega
      subst e
      have hrow1 : Hid (ByteRow wr w.heap.size 5 (.slice (some ⟨w.heap.size + 1, 0, none⟩) D.length cap) (D.map dc)) := by simpa using HR
      clear HR hrow0 hBb
      go_wp2
      go_loopw [1, 26] (fun s1 s26 wl => ∃ (j s2 : Nat) (D2 : List Nat), j ≤ f ∧ s26 = .int .i64 j ∧ s1 = .int .u64 s2 ∧ D2.length = D.length ∧ (∀ d ∈ D2, d ≤ 9) ∧ s2 * 10 ^ D.length + dv D2 = 2 ^ j * (s * 10 ^ D.length + dv D) ∧ Hid (ByteRow wl w.heap.size 5 (.slice (some ⟨w.heap.size + 1, 0, none⟩) D.length cap) (D2.map dc)) ∧ Below w.heap.size w wl) (fun _ s26 _ => f - (RowKit.intOf s26).toNat)
      case atStart => exact ⟨0, s, D, Nat.zero_le _, rfl, rfl, rfl, HD.out.1, by simp, hrow1, hB⟩
      case round =>
        obtain ⟨j, s2, D2, hj, rfl, rfl, hl2, h92, hw2, HR2, hB2⟩ := hrel
        have hN : s * 10 ^ D.length + dv D < (s + 1) * 10 ^ D.length := by have := dv_lt D HD.out.1; rw [Nat.add_mul, Nat.one_mul]; omega
        have hsb : s2 < 140737488355328 := Nat.lt_of_lt_of_le (stp_bound hw2 hN (Nat.pow_pos (by decide))) (pow_47 hs hj hf)
        have e1 : IntKind.u64.wrap (2 * (s2 : Int)) = ((2 * s2 : Nat) : Int) := by rw [IntKind.wrap_u64]; omega
        have hc1 := (dbl_carry D2 h92).1
        have h93 := (dbl_carry D2 h92).2
        have hl3 := dbl_len D2
        have DB := Lib.hid (fun (W : World) (h : ByteRow W w.heap.size 5 (.slice (some ⟨w.heap.size + 1, 0, none⟩) D.length cap) (D2.map dc)) => doubled_any (w.heap.size + 1) D.length cap w.heap.size D2 W (by omega) h92 h hl2)
        have HW2 := Lib.hid (And.intro hw2 (And.intro hN (And.intro hl2 h92)))
        have h3w := stp_worth hw2 (by rw [hl2])
        by_cases gj : j < f
        · obtain ⟨cr, hcr⟩ : ∃ cr, cr = (dbl D2).2 := ⟨_, rfl⟩
          obtain ⟨D3, hD3⟩ : ∃ D3, D3 = (dbl D2).1 := ⟨_, rfl⟩
          rw [← hcr] at hc1 h3w DB
          rw [← hD3] at h93 hl3 h3w DB
          have e2 : IntKind.u64.wrap (((2 * s2 : Nat) : Int) + (cr : Int)) = ((2 * s2 + cr : Nat) : Int) := by rw [IntKind.wrap_u64]; omega
          have H3 := Lib.hid (And.intro h3w (And.intro hl3 h93))
          clear hcr hD3 h3w hl3 h93 hw2 hN hl2 h92 hrow1 hs
          generalize hS3 : 2 * s2 + cr = s3 at *
          have HS3 := Lib.hid hS3
          clear hS3
          go_wp2_with (first | (go_at_call 63; (with_reducible refine (DB.out _ HR2.out).mono ?_); rintro e w5 ⟨rfl, hr5, hg5⟩) | fail)
          refine ⟨⟨j + 1, s3, D3, by omega, by go_num, congrArg (Value.int .u64) (by have := HS3.out; omega), H3.out.2.1.trans HW2.out.2.2.1, H3.out.2.2, ?_, hr5, hB2.grown hg5 hB2.size (fun k e => by cases e; omega)⟩, by simp [RowKit.intOf]; omega⟩
          rw [H3.out.1, Nat.pow_succ, Nat.mul_comm (2 ^ j) 2]
        · obtain rfl : j = f := by omega
          have hE : Hid (∀ c r, c = (dbl D2).2 → r = dv (dbl D2).1 → rd (((s * 10 ^ D.length + dv D) * 2 ^ j : Nat) : Int) ((10 ^ D.length : Nat) : Int) = if c = 1 ∧ (s2 % 2 = 1 ∨ r ≠ 0) then (s2 : Int) + 1 else (s2 : Int)) := by
            rintro c r rfl rfl
            refine rnd_end (r := dv D2) (Nat.pow_pos (by decide)) (by rw [hw2, Nat.mul_comm]) ?_ ?_ ?_
            · rw [← hl2]; exact dv_lt D2 h92
            · rw [← hl2]; exact dbl_worth D2
            · have := dv_lt _ h93
              rw [hl3, hl2] at this
              exact this
          have NG := Lib.hid (fun (W : World) (h : ByteRow W w.heap.size 5 (.slice (some ⟨w.heap.size + 1, 0, none⟩) D.length cap) ((dbl D2).1.map dc)) => noughts_any (w.heap.size + 1) D.length cap w.heap.size (dbl D2).1 W (by omega) h (hl3.trans hl2))
          have NZ := dv_zero (dbl D2).1
          obtain ⟨cr, hcr⟩ : ∃ cr, cr = (dbl D2).2 := ⟨_, rfl⟩
          obtain ⟨D3, hD3⟩ : ∃ D3, D3 = (dbl D2).1 := ⟨_, rfl⟩
          rw [← hcr] at hc1 DB
          rw [← hD3] at NG NZ DB
          have hE2 := Lib.hid (hE.out cr (dv D3) hcr (by rw [hD3]))
          generalize hnz : D3.all (· == 0) = nz at *
          have NZ2 := Lib.hid NZ
          clear hE hcr hD3 h3w hl3 h93 hw2 hN hl2 h92 hrow1 hs NZ hnz
          rcases (by omega : cr = 0 ∨ cr = 1) with rfl | rfl
          · rw [if_neg (by omega)] at hE2
            go_wp2_with (first | (go_at_call 63; (with_reducible refine (DB.out _ HR2.out).mono ?_); rintro e w5 ⟨rfl, hr5, hg5⟩) | fail)
            go_ret
            exact ⟨by rw [hE2.out]; rfl, hB2.grown hg5 hB2.size (fun k e => by cases e; omega)⟩
          · by_cases odd : s2 % 2 = 1
            · rw [if_pos ⟨rfl, Or.inl odd⟩] at hE2
              have o1 : ((s2 : Int) % 2 == 1) = true := by rw [beq_iff_eq]; omega
              clear odd
              go_wp2_with (first | (go_at_call 63; (with_reducible refine (DB.out _ HR2.out).mono ?_); rintro e w5 ⟨rfl, hr5, hg5⟩) | fail)
              go_ret
              exact ⟨by rw [hE2.out]; rfl, hB2.grown hg5 hB2.size (fun k e => by cases e; omega)⟩
            · have o1 : ((s2 : Int) % 2 == 1) = false := by rw [beq_eq_false_iff_ne]; omega
              cases nz with
              | true =>
                have z := NZ2.out.1 rfl
                rw [if_neg (by omega)] at hE2
                clear z odd
                go_wp2_with (first | (go_at_call 63; (with_reducible refine (DB.out _ HR2.out).mono ?_); rintro e w5 ⟨rfl, hr5, hg5⟩) | (go_at_call 64; (with_reducible refine (NG.out _ hr5).mono ?_); rintro e w6 ⟨rfl, rfl⟩) | fail)
                go_ret
                exact ⟨by rw [hE2.out]; rfl, hB2.grown hg5 hB2.size (fun k e => by cases e; omega)⟩
              | false =>
                have z : dv D3 ≠ 0 := fun h => by have := NZ2.out.2 h; cases this
                rw [if_pos ⟨rfl, Or.inr z⟩] at hE2
                clear z odd
                go_wp2_with (first | (go_at_call 63; (with_reducible refine (DB.out _ HR2.out).mono ?_); rintro e w5 ⟨rfl, hr5, hg5⟩) | (go_at_call 64; (with_reducible refine (NG.out _ hr5).mono ?_); rintro e w6 ⟨rfl, rfl⟩) | fail)
                go_ret
                exact ⟨by rw [hE2.out]; rfl, hB2.grown hg5 hB2.size (fun k e => by cases e; omega)⟩
end Go.Proofs.YteplhlmdaabpaaaGreatDoor
namespace Go.Proofs.YteplhlmdaabpaaaGreatDoor
theorem rd_mono {n m d : Int} (hd : 0 < d) (h : n ≤ m) : rd n d ≤ rd m d := by
  have a := (half_math n d (by omega)).1
  have b := (half_math m d (by omega)).1
  by_cases l2 : rd n d ≤ rd m d
  · exact l2
  · exfalso
    have l : rd m d < rd n d := by omega
    by_cases e : n = m
    · subst e; omega
    · have k : (rd m d + 1) * d ≤ rd n d * d := Int.mul_le_mul_of_nonneg_right l (by omega)
      rw [Int.add_mul, Int.one_mul] at k
      generalize rd m d * d = x at *
      generalize rd n d * d = y at *
      omega
end Go.Proofs.YteplhlmdaabpaaaGreatDoor
