/-
  The references' whole numbers: over a digit.
-/
import Derived.Test.YtkpkejccphpkpaaNatW
namespace Go.Proofs.Ytkpkejccphpkpaa
open Go.RowKit

theorem drop_cons {ls : List Nat} {m : Nat} (h : m < ls.length) : ls.drop m = ls.getD m 0 :: ls.drop (m + 1) := by
  rw [List.drop_eq_getElem_cons h]
  simp [List.getD, List.getElem?_eq_getElem h]
/-- What holds at each round of a division by a digit: from the j-th digit on, and the rest. -/
def SInv (xs es : List Nat) (d j r : Nat) : Prop := es.length = xs.length ∧ (∀ m, es.getD m 0 < 4294967296) ∧ r < d ∧ lval 4294967296 (xs.drop j) = d * lval 4294967296 (es.drop j) + r
theorem sinv_start (xs : List Nat) {d : Nat} (hd : 0 < d) : SInv xs (List.replicate xs.length 0) d xs.length 0 := by
  refine ⟨by simp, fun m => ?_, hd, ?_⟩
  · simp only [List.getD_eq_getElem?_getD, List.getElem?_replicate]; split <;> simp
  · rw [List.drop_of_length_le (Nat.le_refl _), List.drop_of_length_le (by simp)]; simp [lval]
theorem sinv_step {xs es : List Nat} {d m r t : Nat} (h : SInv xs es d (m + 1) r) (hm : m < xs.length) (hd : d < 4294967296) (hx : xs.getD m 0 < 4294967296) (ht : t = r * 4294967296 + xs.getD m 0) :
    t / d < 4294967296 ∧ t < 18446744073709551616 ∧ SInv xs (es.set m (t / d)) d m (t % d) := by
  obtain ⟨h1, h2, h3, h4⟩ := h
  have hd0 : 0 < d := by omega
  have q : t / d < 4294967296 := by
    rw [Nat.div_lt_iff_lt_mul hd0]
    have := Nat.mul_le_mul_left 4294967296 (show r + 1 ≤ d from h3)
    omega
  refine ⟨q, by omega, by simp [h1], fun j => ?_, Nat.mod_lt _ hd0, ?_⟩
  · rw [getD_set _ _ _ _ (by omega)]
    split
    · exact q
    · exact h2 j
  · rw [drop_cons hm, drop_cons (show m < (es.set m (t / d)).length by simp; omega), List.drop_set_of_lt (by omega), getD_set _ _ _ _ (by omega), if_pos rfl]
    simp only [lval]
    rw [h4, Nat.mul_add 4294967296, Nat.mul_add d]
    have e := Nat.mod_add_div t d
    have e2 : 4294967296 * (d * lval 4294967296 (es.drop (m + 1))) = d * (4294967296 * lval 4294967296 (es.drop (m + 1))) := by rw [← Nat.mul_assoc, Nat.mul_comm 4294967296 d, Nat.mul_assoc]
    rw [e2]
    generalize d * (4294967296 * lval 4294967296 (es.drop (m + 1))) = A at *
    generalize d * (t / d) = C at *
    omega
theorem sinv_end {xs es : List Nat} {d r : Nat} (h : SInv xs es d 0 r) : lval 4294967296 es = lval 4294967296 xs / d ∧ r = lval 4294967296 xs % d ∧ ∀ x ∈ es, x < 4294967296 := by
  obtain ⟨h1, h2, h3, h4⟩ := h
  rw [List.drop_zero, List.drop_zero] at h4
  refine ⟨?_, ?_, ?_⟩
  · rw [h4, Nat.mul_add_div (by omega), Nat.div_eq_of_lt h3, Nat.add_zero]
  · rw [h4, Nat.mul_add_mod, Nat.mod_eq_of_lt h3]
  · intro x hx
    obtain ⟨j, hj, rfl⟩ := List.mem_iff_getElem.1 hx
    have := h2 j
    simpa [List.getD, hj] using this
theorem or_low (x r : Nat) (hx : x < 4294967296) (hr : r < 4294967296) : bits BinOp.or IntKind.u64 ((r : Int) * 4294967296) (x : Int) = ((r * 4294967296 + x : Nat) : Int) := by
  have w : (r : Int) * 4294967296 = ((r * 4294967296 : Nat) : Int) := by omega
  rw [w, u64_or_nat _ _ (by omega) (by omega)]
  congr 1
  have := Nat.two_pow_add_eq_or_of_lt (i := 32) (b := x) (by simpa using hx) r
  rw [show (2 : Nat) ^ 32 = 4294967296 by decide] at this
  rw [Nat.mul_comm r, ← this]

set_option maxRecDepth 100000 in
set_option maxHeartbeats 8000000 in
/-- short -/
theorem short_any (v : Value) (n d : Nat) (w : World) (h : IsD w v n) (hb : n < BIG) (d0 : 0 < d) (d1 : d < 4294967296) : Calls Try.prog 118 #[v, .int .u32 d] w fun e w' => ∃ q, e = .returned (.tuple #[q, .int .u32 (n % d : Nat)]) ∧ IsD w' q (n / d) ∧ Below w.heap.size w w' := by
  obtain ⟨i0, hi0, hz0, hz1, hz2⟩ := info_parts info32
  obtain ⟨xs, rx, x1, x2, x3⟩ := h
  have lx := len_d x3 (by rw [x2]; exact hb)
  obtain ⟨ox, cx, rfl, hcx⟩ := rx.form
  have hmk : (Instr.makeSlice 136 (.int .i64 (xs.length : Int)) (.int .i64 (xs.length : Int))).run Try.prog w = .ok (.slice (some ⟨w.heap.size, 0, none⟩) xs.length xs.length) (w.alloc (.cells (madeCells #[.int .u32 0] xs.length) 138)) := by
    have := run_make (w := w) 136 138 i0 (.int .u32 0) Try.underlying136 hi0 hz0 .i64 .i64 xs.length xs.length (by omega) (by omega) (by rw [hz2]; omega) (by omega)
    rw [this, hz1]; simp [Value.cells]
  obtain ⟨nx, hnx⟩ : ∃ n, n = xs.length := ⟨_, rfl⟩
  have hC0 : Hid (CellsAt (w.alloc (.cells (madeCells #[.int .u32 0] nx) 138)) w.heap.size (List.replicate nx 0)) := cells_made _ _
  have hO0 : Hid (SInv xs (List.replicate nx 0) d nx 0) := by rw [hnx]; exact sinv_start xs d0
  rw [← hnx] at hmk lx
  rw [← hnx]
  have HX := Lib.hid (And.intro hcx (And.intro x1 (And.intro x2 hnx)))
  clear rx hcx x1 x2 x3 hb hnx
  go_enter Try.func118, Try.ntmps118
  go_wp2
  clear hmk
  go_loopw [7, 8] (fun s7 s8 wr => ∃ (j r : Nat) (es : List Nat), j ≤ nx ∧ s7 = .int .u64 r ∧ s8 = .int .i64 ((j : Int) - 1) ∧ Hid (SInv xs es d j r) ∧ Hid (CellsAt wr w.heap.size es) ∧ Below w.heap.size w wr) (fun _ s8 _ => (intOf s8 + 1).toNat)
  case atStart => exact ⟨nx, 0, _, Nat.le_refl _, rfl, rfl, hO0, hC0, (Below.refl _ _).alloc (Nat.le_refl _) _⟩
  case round =>
    obtain ⟨j, r, es, hj, rfl, rfl, HS, HC, hB⟩ := hrel
    have hBs := hB.size
    by_cases h0 : j = 0
    · subst h0
      obtain ⟨p1, p2, p3⟩ := sinv_end HS.out
      rw [HX.out.2.2.1] at p1 p2
      have dl : es.length = nx := by rw [HS.out.1, ← HX.out.2.2.2]
      have RD : Hid (Rd .u32 wr (.slice (some ⟨w.heap.size, 0, none⟩) nx nx) es) := by rw [← dl]; exact HC.out.rd (Nat.le_refl _)
      have CT := Lib.hid (fun h => cutd_any _ es wr h RD.out)
      have ID : Hid (IsD wr (cutv (.slice (some ⟨w.heap.size, 0, none⟩) nx nx) (trimLen es)) (n / d)) :=
        ⟨es.take (trimLen es), RD.out.cut _ (trimLen_le _), fun x hx => p3 x (List.mem_of_mem_take hx), by rw [lval_trim, p1], trim_take _⟩
      have rl : r < d := HS.out.2.2.1
      have er : IntKind.u32.wrap (r : Int) = (r : Int) := by rw [IntKind.wrap_u32]; omega
      have P2 := Lib.hid p2
      have lt2 : es.length ≤ 4611686018427387904 := by omega
      clear p1 p2 p3 dl
      simp only [Int.natCast_zero]
      go_wp2_with (first | (go_at_call 117; (with_reducible refine (CT.out lt2).mono ?_); rintro e w' ⟨rfl, rfl⟩) | fail)
      go_ret2
      exact ⟨_, by rw [← P2.out]; rfl, ID.out, hB⟩
    · obtain ⟨m, rfl⟩ : ∃ m, j = m + 1 := ⟨j - 1, by omega⟩
      have em : ((m + 1 : Nat) : Int) - 1 = (m : Int) := by omega
      rw [em]
      have hmx : m < xs.length := by rw [← HX.out.2.2.2]; omega
      obtain ⟨bx, fx, rfl, hbx, hcellx⟩ := HX.out.1 m hmx
      have hcx : wr.cell? ⟨bx, fx + m, none⟩ = some (.int .u32 (xs.getD m 0 : Nat)) := (hB.cell (p := ⟨bx, fx + m, none⟩) hbx).trans hcellx
      have hlen : m < es.length := by have := HS.out.1; omega
      obtain ⟨hce, hfe⟩ := HC.out.2 m hlen
      have gx := getD_lt (by decide) HX.out.2.1 m
      have rl : r < 4294967296 := by have := HS.out.2.2.1; omega
      obtain ⟨t, ht⟩ : ∃ t, t = r * 4294967296 + xs.getD m 0 := ⟨_, rfl⟩
      obtain ⟨q1, q2, st⟩ := sinv_step HS.out hmx d1 gx ht
      have hS := HC.out.set m (t / d) hlen
      obtain ⟨x, ex⟩ : ∃ x, x = xs.getD m 0 := ⟨_, rfl⟩
      rw [← ex] at hcx ht gx
      have OR := or_low x r gx rl
      rw [← ht] at OR
      obtain ⟨qd, hqd⟩ : ∃ qd, qd = t / d := ⟨_, rfl⟩
      obtain ⟨r2, hr2⟩ : ∃ r2, r2 = t % d := ⟨_, rfl⟩
      rw [← hqd] at q1 st hS
      rw [← hr2] at st
      have dI : ¬ (d : Int) = 0 := by omega
      have eq2 : (t : Int).tdiv (d : Int) = (qd : Int) := by rw [Int.tdiv_eq_ediv_of_nonneg (by omega), hqd]; simp
      have er2 : (t : Int).tmod (d : Int) = (r2 : Int) := by rw [Int.tmod_eq_emod_of_nonneg (by omega), hr2]; simp
      have v1 : IntKind.u32.wrap (qd : Int) = (qd : Int) := by rw [IntKind.wrap_u32]; omega
      have ST := Lib.hid (And.intro st hS)
      have r2l : r2 < d := st.2.2.1
      clear st hS hqd hr2 ht ex hcellx em
      go_wp2
      have w1 : IntKind.u64.wrap (qd : Int) = (qd : Int) := by rw [IntKind.wrap_u64]; omega
      have w2 : (qd : Int) % 4294967296 = (qd : Int) := by omega
      (try simp only [OR, eq2, er2, w1, w2])
      refine ⟨⟨m, r2, es.set m qd, by omega, rfl, rfl, ST.out.1, ST.out.2, ?_⟩, by simp [intOf]⟩
      repeat (first | assumption | exact hB | apply Below.drew | refine Below.setCell ?_ (by first | omega | (simp; done) | (simp; omega)) _)
end Go.Proofs.Ytkpkejccphpkpaa
