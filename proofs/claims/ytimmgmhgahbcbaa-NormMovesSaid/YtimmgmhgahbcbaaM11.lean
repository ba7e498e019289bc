/-
  The references' whole numbers: times a power of two.
  The references' whole numbers: how many bits they have; halved.
  The references' whole numbers: over a power of two.
  The references' whole numbers: over a digit.
  The references' whole numbers: quotient and rest.
-/
import Derived.Test.YtimmgmhgahbcbaaM01
import Derived.Test.YtimmgmhgahbcbaaM10
namespace Go.Proofs.Ytimmgmhgahbcbaa
open Go.RowKit

theorem shl_or (x s c : Nat) (hx : x < 18446744073709551616) (hs : s < 64) (hc : c < 2 ^ s) :
    bits BinOp.or IntKind.u64 (IntKind.u64.wrap ((x : Int) * 2 ^ s)) (c : Int) = (((x * 2 ^ s) % 18446744073709551616 + c : Nat) : Int) ∧ (x * 2 ^ s) % 18446744073709551616 + c < 18446744073709551616 ∧
    x * 2 ^ s + c = ((x * 2 ^ s) % 18446744073709551616 + c) + 18446744073709551616 * (x / 2 ^ (64 - s)) ∧ x / 2 ^ (64 - s) < 2 ^ s := by
  have hp : (0 : Nat) < 2 ^ s := Nat.two_pow_pos s
  have hq : (0 : Nat) < 2 ^ (64 - s) := Nat.two_pow_pos _
  have hpq : (2 : Nat) ^ s * 2 ^ (64 - s) = 18446744073709551616 := by rw [← Nat.pow_add, Nat.add_sub_cancel' (by omega)]
  have e1 : x * 2 ^ s % 18446744073709551616 = 2 ^ s * (x % 2 ^ (64 - s)) := by rw [← hpq, Nat.mul_comm x, Nat.mul_mod_mul_left]
  have m := Nat.mod_lt x hq
  have m2 := Nat.mul_le_mul_left (2 ^ s) (show x % 2 ^ (64 - s) + 1 ≤ 2 ^ (64 - s) from m)
  rw [Nat.mul_add, Nat.mul_one, hpq] at m2
  have e2 : x * 2 ^ s / 18446744073709551616 = x / 2 ^ (64 - s) := by rw [← hpq, Nat.mul_comm x, Nat.mul_div_mul_left _ _ hp]
  have e3 := Nat.mod_add_div (x * 2 ^ s) 18446744073709551616
  rw [e2] at e3
  refine ⟨?_, by rw [e1]; omega, by omega, ?_⟩
  · have w : IntKind.u64.wrap ((x : Int) * 2 ^ s) = ((x * 2 ^ s % 18446744073709551616 : Nat) : Int) := by
      rw [IntKind.wrap_u64]; simp
    rw [w, e1, u64_or_nat _ _ (by omega) (by omega)]
    congr 1
    exact (Nat.two_pow_add_eq_or_of_lt hc _).symm
  · rw [Nat.div_lt_iff_lt_mul hq, hpq]; exact hx
def UInv (ls es : List Nat) (q s i c : Nat) : Prop := es.length = q + i ∧ (∀ x ∈ es, x < 18446744073709551616) ∧ c < 2 ^ s ∧ lval 18446744073709551616 es + 18446744073709551616 ^ (q + i) * c = 18446744073709551616 ^ q * (2 ^ s * lval 18446744073709551616 (ls.take i))
theorem uinv_step {ls es : List Nat} {q s i c : Nat} (h : UInv ls es q s i c) (hx : ls.getD i 0 < 18446744073709551616) (hs : s < 64) :
    UInv ls (es ++ [(ls.getD i 0 * 2 ^ s) % 18446744073709551616 + c]) q s (i + 1) (ls.getD i 0 / 2 ^ (64 - s)) := by
  obtain ⟨h1, h2, h3, h4⟩ := h
  obtain ⟨_, b1, b2, b3⟩ := shl_or _ s c hx hs h3
  refine ⟨by simp [h1]; omega, ?_, b3, ?_⟩
  · intro x hxm
    rw [List.mem_append] at hxm
    rcases hxm with hm | hm
    · exact h2 x hm
    · rw [List.mem_singleton] at hm; rw [hm]; exact b1
  · rw [lval_append, h1, lval_take_succ, show q + (i + 1) = (q + i) + 1 by omega, Nat.pow_succ]
    simp only [lval, Nat.mul_zero, Nat.add_zero]
    have e1 : 18446744073709551616 ^ (q + i) * 18446744073709551616 * (ls.getD i 0 / 2 ^ (64 - s)) = 18446744073709551616 ^ (q + i) * (18446744073709551616 * (ls.getD i 0 / 2 ^ (64 - s))) := Nat.mul_assoc _ _ _
    have e2 : 18446744073709551616 ^ (q + i) * ((ls.getD i 0 * 2 ^ s) % 18446744073709551616 + c) + 18446744073709551616 ^ (q + i) * (18446744073709551616 * (ls.getD i 0 / 2 ^ (64 - s))) = 18446744073709551616 ^ (q + i) * (ls.getD i 0 * 2 ^ s) + 18446744073709551616 ^ (q + i) * c := by
      rw [← Nat.mul_add, ← b2, Nat.mul_add]
    have e3 : 18446744073709551616 ^ q * (2 ^ s * (lval 18446744073709551616 (ls.take i) + 18446744073709551616 ^ i * ls.getD i 0)) = 18446744073709551616 ^ q * (2 ^ s * lval 18446744073709551616 (ls.take i)) + 18446744073709551616 ^ (q + i) * (ls.getD i 0 * 2 ^ s) := by
      rw [Nat.mul_add, Nat.mul_add, Nat.pow_add]; simp only [Nat.mul_assoc, Nat.mul_comm, Nat.mul_left_comm]
    rw [e1, e3]
    omega
theorem uinv_end {ls es : List Nat} {q s c : Nat} (h : UInv ls es q s ls.length c) (hs : s < 64) : lval 18446744073709551616 (es ++ [c]) = lval 18446744073709551616 ls * 2 ^ (64 * q + s) ∧ ∀ x ∈ es ++ [c], x < 18446744073709551616 := by
  obtain ⟨h1, h2, h3, h4⟩ := h
  rw [List.take_of_length_le (Nat.le_refl _)] at h4
  have hp : (2 : Nat) ^ s < 18446744073709551616 := by
    have := Nat.pow_lt_pow_right (a := 2) (by decide) hs
    have e : (2 : Nat) ^ 64 = 18446744073709551616 := by decide
    omega
  refine ⟨?_, ?_⟩
  · rw [lval_append, h1]
    simp only [lval, Nat.mul_zero, Nat.add_zero]
    have e : (2 : Nat) ^ 64 = 18446744073709551616 := by decide
    rw [h4, Nat.pow_add, Nat.pow_mul, e]
    simp only [Nat.mul_assoc, Nat.mul_comm, Nat.mul_left_comm]
  · intro x hxm
    rw [List.mem_append] at hxm
    rcases hxm with hm | hm
    · exact h2 x hm
    · simp at hm; omega

theorem isN_trim {w : World} {v : Value} {L : List Nat} (h : Rd .u64 w v L) (hx : ∀ x ∈ L, x < 18446744073709551616) : IsN w (cutv v (trimLen L)) (lval 18446744073709551616 L) :=
  ⟨L.take (trimLen L), h.cut _ (trimLen_le _), fun x hm => hx x (List.mem_of_mem_take hm), lval_trim _ _, trim_take _⟩
theorem owns_zeros (w : World) (q : Nat) (hq : q ≤ maxLen) : (w.alloc (.cells (madeCells #[.int .u64 0] q) 65)).ownsRow w.heap.size 65 1 (.slice (some ⟨w.heap.size, 0, none⟩) q q) q ((List.replicate q 0).map fun x => Value.int .u64 (x : Nat)) := by
  refine ⟨by simp, .inr ⟨w.heap.size, q, madeCells #[.int .u64 0] q, rfl, Nat.le_refl _, heap_alloc_new w _, Nat.le_refl _, hq, by simp [madeCells], ?_⟩⟩
  apply List.ext_getElem
  · simp [madeCells]
  · intro i h1 h2
    simp [madeCells, Nat.mod_one]
theorem uinv_start (ls : List Nat) (q s : Nat) : UInv ls (List.replicate q 0) q s 0 0 := by
  have l : ∀ n, lval 18446744073709551616 (List.replicate n 0) = 0 := fun n => by
    induction n with
    | zero => rfl
    | succ n ih => simp [List.replicate_succ, lval, ih]
  refine ⟨by simp, ?_, Nat.two_pow_pos s, by rw [l]; simp [lval]⟩
  intro x hx
  rw [(List.mem_replicate.1 hx).2]; decide

set_option maxRecDepth 100000 in
set_option maxHeartbeats 8000000 in
/-- Up2 -/
theorem up2_far (va : Value) (a n : Nat) (w : World) (ha : IsN w va a) (la : a < BIG) (hn : n ≤ 1048576) : Calls Try.prog 44 #[va, .int .i64 n] w (SomeNF w (a * 2 ^ n)) := by
  obtain ⟨i0, hi0, hz0, hz1, hz2⟩ := info_parts info64
  obtain ⟨xs, rx, x1, x2, x3⟩ := ha
  have lx := len_n x3 (by rw [x2]; exact la)
  obtain ⟨ox, cx, rfl, hcx⟩ := rx.form
  obtain ⟨q, hq⟩ : ∃ q, q = n / 64 := ⟨_, rfl⟩
  obtain ⟨s, hs⟩ : ∃ s, s = n % 64 := ⟨_, rfl⟩
  have eq1 : (n : Int) / 64 = (q : Int) := by omega
  have es1 : (n : Int) % 64 = (s : Int) := by omega
  have en : n = 64 * q + s := by omega
  have hs64 : s < 64 := by omega
  have hq2 : q ≤ 16384 := by omega
  have HX := Lib.hid (And.intro hcx (And.intro x1 (And.intro x2 en)))
  clear rx hcx x1 x2 x3 la hq hs
  by_cases h0 : xs.length = 0
  · have E : Hid (a * 2 ^ n = 0) := by
      have : xs = [] := List.eq_nil_of_length_eq_zero h0
      have h := HX.out.2.2.1
      rw [this] at h
      unfold Hid; rw [← h]; simp [lval]
    rw [h0]
    clear h0 en
    go_enter Try.func44, Try.ntmps44
    go_wp2
    go_ret
    exact ⟨_, rfl, ⟨[], .inl ⟨rfl, rfl⟩, by simp, by rw [E.out]; rfl, rfl⟩, Below.refl _ _, fun _ _ => by simp [Value.ownBlock]⟩
  · have h0' : ((xs.length : Int) == 0) = false := by rw [beq_eq_false_iff_ne]; omega
    have mk : (Instr.makeSlice 45 (.int .i64 (q : Int)) (.int .i64 (q : Int))).run Try.prog w = .ok (.slice (some ⟨w.heap.size, 0, none⟩) q q) (w.alloc (.cells (madeCells #[.int .u64 0] q) 65)) := by
      have := run_make (w := w) 45 65 i0 (.int .u64 0) Try.underlying45 hi0 hz0 .i64 .i64 q q (by omega) (by omega) (by rw [hz2]; omega) (by omega)
      rw [this, hz1]; simp [Value.cells]
    clear h0 en
    go_enter Try.func44, Try.ntmps44
    go_wp2
    clear es1 eq1 mk
    go_loopw [5, 7, 8] (fun s5 s7 s8 wr => ∃ (i : Nat) (es : List Nat) (c : Nat), i ≤ xs.length ∧ s7 = .int .u64 c ∧ s8 = .int .i64 i ∧ Hid (UInv xs es q s i c) ∧ Hid (wr.ownsRow w.heap.size 65 1 s5 es.length (es.map fun x => Value.int .u64 (x : Nat))) ∧ Below w.heap.size w wr) (fun _ _ s8 _ => xs.length - (intOf s8).toNat)
    case atStart => exact ⟨0, List.replicate q 0, 0, Nat.zero_le _, rfl, rfl, uinv_start _ _ _, by simpa [Hid] using owns_zeros w q (by unfold maxLen; omega), (Below.refl _ _).alloc (Nat.le_refl _) _⟩
    case round =>
      obtain ⟨i, es, c, hi, rfl, rfl, HI, hown, hB⟩ := hrel
      have hBs := hB.size
      have esl : es.length ≤ 16384 + xs.length := by have := HI.out.1; omega
      by_cases hlt : i < xs.length
      · skip
        obtain ⟨bx, fx, rfl, hbx, hcellx⟩ := HX.out.1 i hlt
        have hcx : wr.cell? ⟨bx, fx + i, none⟩ = some (.int .u64 (xs.getD i 0 : Nat)) := (hB.cell (p := ⟨bx, fx + i, none⟩) hbx).trans hcellx
        have gx := getD_lt (by decide) HX.out.2.1 i
        have st := uinv_step HI.out gx hs64
        obtain ⟨b0, b1, _, _⟩ := shl_or _ s c gx hs64 HI.out.2.2.1
        obtain ⟨x, ex⟩ : ∃ x, x = xs.getD i 0 := ⟨_, rfl⟩
        rw [← ex] at hcx gx st b0 b1
        obtain ⟨d, hd⟩ : ∃ d, d = x * 2 ^ s % 18446744073709551616 + c := ⟨_, rfl⟩
        rw [← hd] at st b0 b1
        obtain ⟨c2, hc2⟩ : ∃ c2, c2 = x / 2 ^ (64 - s) := ⟨_, rfl⟩
        rw [← hc2] at st
        have ST := Lib.hid st
        clear st hd ex hcellx
        have HO := hown
        clear hown
        go_wp2_with (at_builtin; refine wpList_append_own _ rfl _ _ 45 rfl w.heap.size 65 i0 (.int .u64 0) 1 8 Try.underlying45 hi0 hz0 hz1 hz2 rfl (by decide) _ es.length (es.map fun x => Value.int .u64 (x : Nat)) rfl (HO.out.alloc _) ⟨wr.heap.size, 0, none⟩ 1 1 [.int .u64 (d : Nat)] rfl rfl ?c1 ?c2 ?c3 ?c4 ?c5 ?_)
        case c1 => exact (cell_one_new _ _ _)
        case c2 => simp [Value.oneCell']
        case c3 => unfold maxLen; omega
        case c4 => omega
        case c5 => simp; omega
        intro v' w9 hown1 hgrow _
        have hB9 : Below w.heap.size w w9 := (hB.alloc hBs _).grown hgrow (by simp; omega) (fun k hk => (HO.out.lt k hk).1)
        have hc9 : w9.cell? ⟨bx, fx + i, none⟩ = some (.int .u64 (x : Nat)) := (hB9.cell (p := ⟨bx, fx + i, none⟩) hbx).trans ((hB.cell (p := ⟨bx, fx + i, none⟩) hbx).symm.trans hcx)
        have h1 : Hid (w9.ownsRow w.heap.size 65 1 v' (es ++ [d]).length ((es ++ [d]).map fun x => Value.int .u64 (x : Nat))) := by
          have h1 := hown1
          simpa [Hid] using h1
        clear hown1 hgrow
        by_cases hs0 : s = 0
        · skip
          have hc0 : c2 = 0 := by rw [hc2, hs0]; exact Nat.div_eq_of_lt gx
          rw [hc0] at ST
          clear hc2 hc0
          go_wp2
          exact ⟨⟨i + 1, es ++ [d], 0, by omega, rfl, by go_num, ST.out, h1, hB9⟩, by simp [intOf]; omega⟩
        · skip
          have hcI : (x : Int) / 2 ^ (64 - s) = (c2 : Int) := by rw [hc2]; simp
          clear hc2
          go_wp2
          exact ⟨⟨i + 1, es ++ [d], c2, by omega, rfl, by go_num, ST.out, h1, hB9⟩, by simp [intOf]; omega⟩
      · skip
        have hie : i = xs.length := by omega
        subst hie
        obtain ⟨p1, p2⟩ := uinv_end HI.out hs64
        have P1 := Lib.hid p1
        have P2 := Lib.hid p2
        have HO := hown
        clear hown p1 p2
        go_wp2_with (first | (at_builtin; refine wpList_append_own _ rfl _ _ 45 rfl w.heap.size 65 i0 (.int .u64 0) 1 8 Try.underlying45 hi0 hz0 hz1 hz2 rfl (by decide) _ es.length (es.map fun x => Value.int .u64 (x : Nat)) rfl (HO.out.alloc _) ⟨wr.heap.size, 0, none⟩ 1 1 [.int .u64 (c : Nat)] rfl rfl ?c1 ?c2 ?c3 ?c4 ?c5 ?_) | fail)
        case c1 => exact (cell_one_new _ _ _)
        case c2 => simp [Value.oneCell']
        case c3 => unfold maxLen; omega
        case c4 => omega
        case c5 => simp; omega
        intro v' w9 hown1 hgrow _
        obtain ⟨L, hL⟩ : ∃ L, L = es ++ [c] := ⟨_, rfl⟩
        have RD : Hid (Rd .u64 w9 v' L) := by
          rw [hL]
          refine own_rd (base := w.heap.size) (e := 65) ?_
          have h1 := hown1
          simpa using h1
        have ll : L.length ≤ 1048578 := by rw [hL]; simp; omega
        rw [← hL] at P1 P2
        have hB9 : Below w.heap.size w w9 := (hB.alloc hBs _).grown hgrow (by simp; omega) (fun k hk => (HO.out.lt k hk).1)
        have HN : Hid (IsN w9 (cutv v' (trimLen L)) (a * 2 ^ n)) := by
          have h := isN_trim RD.out P2.out
          rw [P1.out, HX.out.2.2.1, ← HX.out.2.2.2] at h
          exact h
        have FR := Lib.hid (fun b' (hb' : b' < w.heap.size) => own_far hown1 hb')
        clear hL hown1 hgrow
        go_wp2_with (first | (go_at_call 57; (with_reducible refine (trim_any v' L _ (by omega) RD.out).mono ?_); rintro e w' ⟨rfl, rfl⟩) | fail)
        go_ret
        exact ⟨_, rfl, HN.out, hB9, fun b' hb' => cutv_far (FR.out b' hb')⟩
theorem up2_any (va : Value) (a n : Nat) (w : World) (ha : IsN w va a) (la : a < BIG) (hn : n ≤ 1048576) : Calls Try.prog 44 #[va, .int .i64 n] w (SomeN w (a * 2 ^ n)) :=
  (up2_far va a n w ha la hn).mono fun _ _ h => h.some
end Go.Proofs.Ytimmgmhgahbcbaa
namespace Go.Proofs.Ytimmgmhgahbcbaa
open Go.RowKit

/-- How many bits a number has. -/
def bn (n : Nat) : Nat := if n = 0 then 0 else n.log2 + 1
end Go.Proofs.Ytimmgmhgahbcbaa
namespace Go.Proofs.Ytimmgmhgahbcbaa
open Go.RowKit

/-- The limb at a place, of the number itself. -/
theorem limb_at {ls : List Nat} (hx : ∀ x ∈ ls, x < 18446744073709551616) (i : Nat) : lval 18446744073709551616 ls / 18446744073709551616 ^ i % 18446744073709551616 = ls.getD i 0 := by
  by_cases hi : i < ls.length
  · have e := lval_split 18446744073709551616 ls i (by omega)
    have lt := lval_lt 18446744073709551616 (by decide) (ls.take i) (fun x h => hx x (List.mem_of_mem_take h))
    rw [List.length_take, Nat.min_eq_left (by omega)] at lt
    have p : (0 : Nat) < 18446744073709551616 ^ i := Nat.pow_pos (by decide)
    rw [e, Nat.add_mul_div_left _ _ p, Nat.div_eq_of_lt lt, Nat.zero_add]
    have d : ls.drop i = ls[i] :: ls.drop (i + 1) := List.drop_eq_getElem_cons hi
    rw [d]
    simp only [lval, Nat.add_mul_mod_self_left]
    rw [Nat.mod_eq_of_lt (hx _ (List.getElem_mem hi))]
    simp [List.getD, List.getElem?_eq_getElem hi]
  · have lt := lval_lt 18446744073709551616 (by decide) ls hx
    have := Nat.pow_le_pow_right (show 0 < 18446744073709551616 by decide) (show ls.length ≤ i by omega)
    rw [Nat.div_eq_of_lt (by omega)]
    simp [List.getD, List.getElem?_eq_none (by omega : ls.length ≤ i)]
end Go.Proofs.Ytimmgmhgahbcbaa
namespace Go.Proofs.Ytimmgmhgahbcbaa
open Go.RowKit

end Go.Proofs.Ytimmgmhgahbcbaa
namespace Go.Proofs.Ytimmgmhgahbcbaa
open Go.RowKit

/-- A row of limbs that the call has made: cells that may be written. -/
def Cells64 (W : World) (g : Nat) (es : List Nat) : Prop := g < W.heap.size ∧ ∀ j, j < es.length → W.cell? ⟨g, j, none⟩ = some (.int .u64 (es.getD j 0 : Nat)) ∧ W.frozen? ⟨g, j, none⟩ = false
theorem Cells64.set {W : World} {g : Nat} {es : List Nat} (h : Cells64 W g es) (j v : Nat) (hj : j < es.length) : Cells64 (W.setCell ⟨g, j, none⟩ (.int .u64 (v : Nat))) g (es.set j v) := by
  refine ⟨by simpa [World.setCell] using h.1, fun m hm => ?_⟩
  rw [List.length_set] at hm
  obtain ⟨h1, h2⟩ := h.2 m hm
  refine ⟨?_, by rw [World.frozen?_setCell]; exact h2⟩
  rw [getD_set _ _ _ _ hj]
  by_cases e : m = j
  · subst e; rw [if_pos rfl]; simp [go_sem, h1]
  · rw [if_neg e]
    have : ¬ j = m := fun h => e h.symm
    simp [go_sem, h1]
theorem Cells64.drew {W : World} {g : Nat} {es : List Nat} (h : Cells64 W g es) : Cells64 W.drew g es := h
theorem Cells64.below {W W' : World} {g : Nat} {es : List Nat} (h : Cells64 W g es) (hb : Below W.heap.size W W') : Cells64 W' g es := by
  refine ⟨Nat.lt_of_lt_of_le h.1 hb.size, fun m hm => ?_⟩
  obtain ⟨h1, h2⟩ := h.2 m hm
  exact ⟨(hb.cell (p := ⟨g, m, none⟩) h.1).trans h1, (hb.frozen (p := ⟨g, m, none⟩) h.1).trans h2⟩
theorem Cells64.rd {W : World} {g cap : Nat} {es : List Nat} (h : Cells64 W g es) (hc : es.length ≤ cap) : Rd .u64 W (.slice (some ⟨g, 0, none⟩) es.length cap) es :=
  .inr ⟨g, 0, cap, rfl, hc, h.1, fun i hi => by rw [Nat.zero_add]; exact (h.2 i hi).1⟩
end Go.Proofs.Ytimmgmhgahbcbaa
