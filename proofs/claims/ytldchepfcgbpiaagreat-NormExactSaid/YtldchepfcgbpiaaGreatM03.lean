/-
  The references' whole numbers: times a power of two.
  What the calls of package wide do, said of whole numbers: From, Small, Neg, and the statements' own small functions.
  What the calls on sizes (whole numbers of 128 bits without a sign) do.
  What the calls on sizes do, the second half: a bit set, a sign laid on, a whole number's size.
  The long division of sizes, bit by bit: what holds at each round's head.
  The long division of sizes.
-/
import Derived.Test.YtldchepfcgbpiaaGreatShelf
import Derived.WalkMore
import Derived.Deep.LoopGhost
import Derived.LoopTactic
import Derived.Deep.DeepCutAuto
import Derived.Deep.CutBlock
import Derived.Test.YtldchepfcgbpiaaGreatM02
namespace Go.Proofs.YtldchepfcgbpiaaGreat
open Go.RowKit

theorem shl_or (x s c : Nat) (hx : x < 18446744073709551616) (hs : s < 64) (hc : c < 2 ^ s) :
    bits BinOp.or IntKind.u64 (IntKind.u64.wrap ((x : Int) * 2 ^ s)) (c : Int) = (((x * 2 ^ s) % 18446744073709551616 + c : Nat) : Int) ∧ (x * 2 ^ s) % 18446744073709551616 + c < 18446744073709551616 ∧
    x * 2 ^ s + c = ((x * 2 ^ s) % 18446744073709551616 + c) + 18446744073709551616 * (x / 2 ^ (64 - s)) ∧ x / 2 ^ (64 - s) < 2 ^ s := by
  have hp : (0 : Nat) < 2 ^ s := Nat.two_pow_pos s
  have hq : (0 : Nat) < 2 ^ (64 - s) := Nat.two_pow_pos _
  have hpq : (2 : Nat) ^ s * 2 ^ (64 - s) = 18446744073709551616 := by rw [← Nat.pow_add, Nat.add_sub_cancel' (by omega)]
  have e1 : x * 2 ^ s % 18446744073709551616 = 2 ^ s * (x % 2 ^ (64 - s)) := by rw [← hpq, Nat.mul_comm x, Nat.mul_mod_mul_left]
  have m := Nat.mod_lt x hq
  have m2 := Nat.mul_le_mul_left (2 ^ s) (show x % 2 ^ (64 - s) + 1 ≤ 2 ^ (64 - s) from m)
  rw [Nat.mul_add, Nat.mul_one, hpq] at m2
  have e2 : x * 2 ^ s / 18446744073709551616 = x / 2 ^ (64 - s) := by rw [← hpq, Nat.mul_comm x, Nat.mul_div_mul_left _ _ hp]
  have e3 := Nat.mod_add_div (x * 2 ^ s) 18446744073709551616
  rw [e2] at e3
  refine ⟨?_, by rw [e1]; omega, by omega, ?_⟩
  · have w : IntKind.u64.wrap ((x : Int) * 2 ^ s) = ((x * 2 ^ s % 18446744073709551616 : Nat) : Int) := by
      rw [IntKind.wrap_u64]; simp
    rw [w, e1, u64_or_nat _ _ (by omega) (by omega)]
    congr 1
    exact (Nat.two_pow_add_eq_or_of_lt hc _).symm
  · rw [Nat.div_lt_iff_lt_mul hq, hpq]; exact hx
def UInv (ls es : List Nat) (q s i c : Nat) : Prop := es.length = q + i ∧ (∀ x ∈ es, x < 18446744073709551616) ∧ c < 2 ^ s ∧ lval 18446744073709551616 es + 18446744073709551616 ^ (q + i) * c = 18446744073709551616 ^ q * (2 ^ s * lval 18446744073709551616 (ls.take i))
theorem uinv_step {ls es : List Nat} {q s i c : Nat} (h : UInv ls es q s i c) (hx : ls.getD i 0 < 18446744073709551616) (hs : s < 64) :
    UInv ls (es ++ [(ls.getD i 0 * 2 ^ s) % 18446744073709551616 + c]) q s (i + 1) (ls.getD i 0 / 2 ^ (64 - s)) := by
  obtain ⟨h1, h2, h3, h4⟩ := h
  obtain ⟨_, b1, b2, b3⟩ := shl_or _ s c hx hs h3
  refine ⟨by simp [h1]; omega, ?_, b3, ?_⟩
  · intro x hxm
    rw [List.mem_append] at hxm
    rcases hxm with hm | hm
    · exact h2 x hm
    · rw [List.mem_singleton] at hm; rw [hm]; exact b1
  · rw [lval_append, h1, lval_take_succ, show q + (i + 1) = (q + i) + 1 by omega, Nat.pow_succ]
    simp only [lval, Nat.mul_zero, Nat.add_zero]
    have e1 : 18446744073709551616 ^ (q + i) * 18446744073709551616 * (ls.getD i 0 / 2 ^ (64 - s)) = 18446744073709551616 ^ (q + i) * (18446744073709551616 * (ls.getD i 0 / 2 ^ (64 - s))) := Nat.mul_assoc _ _ _
    have e2 : 18446744073709551616 ^ (q + i) * ((ls.getD i 0 * 2 ^ s) % 18446744073709551616 + c) + 18446744073709551616 ^ (q + i) * (18446744073709551616 * (ls.getD i 0 / 2 ^ (64 - s))) = 18446744073709551616 ^ (q + i) * (ls.getD i 0 * 2 ^ s) + 18446744073709551616 ^ (q + i) * c := by
      rw [← Nat.mul_add, ← b2, Nat.mul_add]
    have e3 : 18446744073709551616 ^ q * (2 ^ s * (lval 18446744073709551616 (ls.take i) + 18446744073709551616 ^ i * ls.getD i 0)) = 18446744073709551616 ^ q * (2 ^ s * lval 18446744073709551616 (ls.take i)) + 18446744073709551616 ^ (q + i) * (ls.getD i 0 * 2 ^ s) := by
      rw [Nat.mul_add, Nat.mul_add, Nat.pow_add]; simp only [Nat.mul_assoc, Nat.mul_comm, Nat.mul_left_comm]
    rw [e1, e3]
    omega
theorem uinv_end {ls es : List Nat} {q s c : Nat} (h : UInv ls es q s ls.length c) (hs : s < 64) : lval 18446744073709551616 (es ++ [c]) = lval 18446744073709551616 ls * 2 ^ (64 * q + s) ∧ ∀ x ∈ es ++ [c], x < 18446744073709551616 := by
  obtain ⟨h1, h2, h3, h4⟩ := h
  rw [List.take_of_length_le (Nat.le_refl _)] at h4
  have hp : (2 : Nat) ^ s < 18446744073709551616 := by
    have := Nat.pow_lt_pow_right (a := 2) (by decide) hs
    have e : (2 : Nat) ^ 64 = 18446744073709551616 := by decide
    omega
  refine ⟨?_, ?_⟩
  · rw [lval_append, h1]
    simp only [lval, Nat.mul_zero, Nat.add_zero]
    have e : (2 : Nat) ^ 64 = 18446744073709551616 := by decide
    rw [h4, Nat.pow_add, Nat.pow_mul, e]
    simp only [Nat.mul_assoc, Nat.mul_comm, Nat.mul_left_comm]
  · intro x hxm
    rw [List.mem_append] at hxm
    rcases hxm with hm | hm
    · exact h2 x hm
    · simp at hm; omega

theorem isN_trim {w : World} {v : Value} {L : List Nat} (h : Rd .u64 w v L) (hx : ∀ x ∈ L, x < 18446744073709551616) : IsN w (cutv v (trimLen L)) (lval 18446744073709551616 L) :=
  ⟨L.take (trimLen L), h.cut _ (trimLen_le _), fun x hm => hx x (List.mem_of_mem_take hm), lval_trim _ _, trim_take _⟩
theorem owns_zeros (w : World) (q : Nat) (hq : q ≤ maxLen) : (w.alloc (.cells (madeCells #[.int .u64 0] q) 57)).ownsRow w.heap.size 57 1 (.slice (some ⟨w.heap.size, 0, none⟩) q q) q ((List.replicate q 0).map fun x => Value.int .u64 (x : Nat)) := by
  refine ⟨by simp, .inr ⟨w.heap.size, q, madeCells #[.int .u64 0] q, rfl, Nat.le_refl _, heap_alloc_new w _, Nat.le_refl _, hq, by simp [madeCells], ?_⟩⟩
  apply List.ext_getElem
  · simp [madeCells]
  · intro i h1 h2
    simp [madeCells, Nat.mod_one]
theorem uinv_start (ls : List Nat) (q s : Nat) : UInv ls (List.replicate q 0) q s 0 0 := by
  have l : ∀ n, lval 18446744073709551616 (List.replicate n 0) = 0 := fun n => by
    induction n with
    | zero => rfl
    | succ n ih => simp [List.replicate_succ, lval, ih]
  refine ⟨by simp, ?_, Nat.two_pow_pos s, by rw [l]; simp [lval]⟩
  intro x hx
  rw [(List.mem_replicate.1 hx).2]; decide

set_option maxRecDepth 100000 in
set_option maxHeartbeats 8000000 in
/-- Up2 -/
theorem up2_far (va : Value) (a n : Nat) (w : World) (ha : IsN w va a) (la : a < BIG) (hn : n ≤ 1048576) : Calls Tryz.prog 80 #[va, .int .i64 n] w (SomeNF w (a * 2 ^ n)) := by
  obtain ⟨i0, hi0, hz0, hz1, hz2⟩ := info_parts info64
  obtain ⟨xs, rx, x1, x2, x3⟩ := ha
  have lx := len_n x3 (by rw [x2]; exact la)
  obtain ⟨ox, cx, rfl, hcx⟩ := rx.form
  obtain ⟨q, hq⟩ : ∃ q, q = n / 64 := ⟨_, rfl⟩
  obtain ⟨s, hs⟩ : ∃ s, s = n % 64 := ⟨_, rfl⟩
  have eq1 : (n : Int) / 64 = (q : Int) := by omega
  have es1 : (n : Int) % 64 = (s : Int) := by omega
  have en : n = 64 * q + s := by omega
  have hs64 : s < 64 := by omega
  have hq2 : q ≤ 16384 := by omega
  have HX := Lib.hid (And.intro hcx (And.intro x1 (And.intro x2 en)))
  clear rx hcx x1 x2 x3 la hq hs
  by_cases h0 : xs.length = 0
  · have E : Hid (a * 2 ^ n = 0) := by
      have : xs = [] := List.eq_nil_of_length_eq_zero h0
      have h := HX.out.2.2.1
      rw [this] at h
      unfold Hid; rw [← h]; simp [lval]
    rw [h0]
    clear h0 en
    go_enter Tryz.func80, Tryz.ntmps80
    go_wp2
    go_ret
    exact ⟨_, rfl, ⟨[], .inl ⟨rfl, rfl⟩, by simp, by rw [E.out]; rfl, rfl⟩, Below.refl _ _, fun _ _ => by simp [Value.ownBlock]⟩
  · have h0' : ((xs.length : Int) == 0) = false := by rw [beq_eq_false_iff_ne]; omega
    have mk : (Instr.makeSlice 69 (.int .i64 (q : Int)) (.int .i64 (q : Int))).run Tryz.prog w = .ok (.slice (some ⟨w.heap.size, 0, none⟩) q q) (w.alloc (.cells (madeCells #[.int .u64 0] q) 57)) := by
      have := run_make (w := w) 69 57 i0 (.int .u64 0) Tryz.underlying69 hi0 hz0 .i64 .i64 q q (by omega) (by omega) (by rw [hz2]; omega) (by omega)
      rw [this, hz1]; simp [Value.cells]
    clear h0 en
    go_enter Tryz.func80, Tryz.ntmps80
    go_wp2
    clear es1 eq1 mk
    go_loopw [5, 7, 8] (fun s5 s7 s8 wr => ∃ (i : Nat) (es : List Nat) (c : Nat), i ≤ xs.length ∧ s7 = .int .u64 c ∧ s8 = .int .i64 i ∧ Hid (UInv xs es q s i c) ∧ Hid (wr.ownsRow w.heap.size 57 1 s5 es.length (es.map fun x => Value.int .u64 (x : Nat))) ∧ Below w.heap.size w wr) (fun _ _ s8 _ => xs.length - (intOf s8).toNat)
    case atStart => exact ⟨0, List.replicate q 0, 0, Nat.zero_le _, rfl, rfl, uinv_start _ _ _, by simpa [Hid] using owns_zeros w q (by unfold maxLen; omega), (Below.refl _ _).alloc (Nat.le_refl _) _⟩
    case round =>
      obtain ⟨i, es, c, hi, rfl, rfl, HI, hown, hB⟩ := hrel
      have hBs := hB.size
      have esl : es.length ≤ 16384 + xs.length := by have := HI.out.1; omega
      by_cases hlt : i < xs.length
      · skip
        obtain ⟨bx, fx, rfl, hbx, hcellx⟩ := HX.out.1 i hlt
        have hcx : wr.cell? ⟨bx, fx + i, none⟩ = some (.int .u64 (xs.getD i 0 : Nat)) := (hB.cell (p := ⟨bx, fx + i, none⟩) hbx).trans hcellx
        have gx := getD_lt (by decide) HX.out.2.1 i
        have st := uinv_step HI.out gx hs64
        obtain ⟨b0, b1, _, _⟩ := shl_or _ s c gx hs64 HI.out.2.2.1
        obtain ⟨x, ex⟩ : ∃ x, x = xs.getD i 0 := ⟨_, rfl⟩
        rw [← ex] at hcx gx st b0 b1
        obtain ⟨d, hd⟩ : ∃ d, d = x * 2 ^ s % 18446744073709551616 + c := ⟨_, rfl⟩
        rw [← hd] at st b0 b1
        obtain ⟨c2, hc2⟩ : ∃ c2, c2 = x / 2 ^ (64 - s) := ⟨_, rfl⟩
        rw [← hc2] at st
        have ST := Lib.hid st
        clear st hd ex hcellx
        have HO := hown
        clear hown
        go_wp2_with (at_builtin; refine wpList_append_own _ rfl _ _ 69 rfl w.heap.size 57 i0 (.int .u64 0) 1 8 Tryz.underlying69 hi0 hz0 hz1 hz2 rfl (by decide) _ es.length (es.map fun x => Value.int .u64 (x : Nat)) rfl (HO.out.alloc _) ⟨wr.heap.size, 0, none⟩ 1 1 [.int .u64 (d : Nat)] rfl rfl ?c1 ?c2 ?c3 ?c4 ?c5 ?_)
        case c1 => exact (cell_one_new _ _ _)
        case c2 => simp [Value.oneCell']
        case c3 => unfold maxLen; omega
        case c4 => omega
        case c5 => simp; omega
        intro v' w9 hown1 hgrow _
        have hB9 : Below w.heap.size w w9 := (hB.alloc hBs _).grown hgrow (by simp; omega) (fun k hk => (HO.out.lt k hk).1)
        have hc9 : w9.cell? ⟨bx, fx + i, none⟩ = some (.int .u64 (x : Nat)) := (hB9.cell (p := ⟨bx, fx + i, none⟩) hbx).trans ((hB.cell (p := ⟨bx, fx + i, none⟩) hbx).symm.trans hcx)
        have h1 : Hid (w9.ownsRow w.heap.size 57 1 v' (es ++ [d]).length ((es ++ [d]).map fun x => Value.int .u64 (x : Nat))) := by
          have h1 := hown1
          simpa [Hid] using h1
        clear hown1 hgrow
        by_cases hs0 : s = 0
        · skip
          have hc0 : c2 = 0 := by rw [hc2, hs0]; exact Nat.div_eq_of_lt gx
          rw [hc0] at ST
          clear hc2 hc0
          go_wp2
          exact ⟨⟨i + 1, es ++ [d], 0, by omega, rfl, by go_num, ST.out, h1, hB9⟩, by simp [intOf]; omega⟩
        · skip
          have hcI : (x : Int) / 2 ^ (64 - s) = (c2 : Int) := by rw [hc2]; simp
          clear hc2
          go_wp2
          exact ⟨⟨i + 1, es ++ [d], c2, by omega, rfl, by go_num, ST.out, h1, hB9⟩, by simp [intOf]; omega⟩
      · skip
        have hie : i = xs.length := by omega
        subst hie
        obtain ⟨p1, p2⟩ := uinv_end HI.out hs64
        have P1 := Lib.hid p1
        have P2 := Lib.hid p2
        have HO := hown
        clear hown p1 p2
        go_wp2_with (first | (at_builtin; refine wpList_append_own _ rfl _ _ 69 rfl w.heap.size 57 i0 (.int .u64 0) 1 8 Tryz.underlying69 hi0 hz0 hz1 hz2 rfl (by decide) _ es.length (es.map fun x => Value.int .u64 (x : Nat)) rfl (HO.out.alloc _) ⟨wr.heap.size, 0, none⟩ 1 1 [.int .u64 (c : Nat)] rfl rfl ?c1 ?c2 ?c3 ?c4 ?c5 ?_) | fail)
        case c1 => exact (cell_one_new _ _ _)
        case c2 => simp [Value.oneCell']
        case c3 => unfold maxLen; omega
        case c4 => omega
        case c5 => simp; omega
        intro v' w9 hown1 hgrow _
        obtain ⟨L, hL⟩ : ∃ L, L = es ++ [c] := ⟨_, rfl⟩
        have RD : Hid (Rd .u64 w9 v' L) := by
          rw [hL]
          refine own_rd (base := w.heap.size) (e := 57) ?_
          have h1 := hown1
          simpa using h1
        have ll : L.length ≤ 1048578 := by rw [hL]; simp; omega
        rw [← hL] at P1 P2
        have hB9 : Below w.heap.size w w9 := (hB.alloc hBs _).grown hgrow (by simp; omega) (fun k hk => (HO.out.lt k hk).1)
        have HN : Hid (IsN w9 (cutv v' (trimLen L)) (a * 2 ^ n)) := by
          have h := isN_trim RD.out P2.out
          rw [P1.out, HX.out.2.2.1, ← HX.out.2.2.2] at h
          exact h
        have FR := Lib.hid (fun b' (hb' : b' < w.heap.size) => own_far hown1 hb')
        clear hL hown1 hgrow
        go_wp2_with (first | (go_at_call 64; (with_reducible refine (trim_any v' L _ (by omega) RD.out).mono ?_); rintro e w' ⟨rfl, rfl⟩) | fail)
        go_ret
        exact ⟨_, rfl, HN.out, hB9, fun b' hb' => cutv_far (FR.out b' hb')⟩
theorem up2_any (va : Value) (a n : Nat) (w : World) (ha : IsN w va a) (la : a < BIG) (hn : n ≤ 1048576) : Calls Tryz.prog 80 #[va, .int .i64 n] w (SomeN w (a * 2 ^ n)) :=
  (up2_far va a n w ha la hn).mono fun _ _ h => h.some
end Go.Proofs.YtldchepfcgbpiaaGreat
namespace Go.Proofs.YtldchepfcgbpiaaGreat
open Go.RowKit

theorem bcell {W w1 : World} (hb : Below W.heap.size W w1) : (∀ b o, b < W.heap.size → w1.cell? ⟨b, o, none⟩ = W.cell? ⟨b, o, none⟩) ∧ (∀ b o, b < W.heap.size → w1.frozen? ⟨b, o, none⟩ = W.frozen? ⟨b, o, none⟩) :=
  ⟨fun b o h => hb.cell (p := ⟨b, o, none⟩) h, fun b o h => hb.frozen (p := ⟨b, o, none⟩) h⟩
theorem bsz {W w1 : World} (hb : Below W.heap.size W w1) {n : Nat} (h : n < W.heap.size) : n < w1.heap.size := Nat.lt_of_lt_of_le h hb.size
theorem shr_hi {n : Int} (h0 : -9223372036854775808 ≤ n) (h1 : n ≤ 9223372036854775807) : n / 9223372036854775808 = hi n := by unfold hi; omega
theorem u64_lo (n : Int) : IntKind.u64.wrap n = lo n := by rw [IntKind.wrap_u64]; rfl
/-- wide.From -/
theorem from_at (n : Int) (w : World) (h0 : -9223372036854775808 ≤ n) (h1 : n ≤ 9223372036854775807) : Calls Tryz.prog 72 #[.int .i64 n] w fun e w' => e = .returned (Wv n) ∧ w.alloc (.cells #[.int .i64 (hi n), .int .u64 (lo n)] 59) = w' := by
  have e1 := shr_hi h0 h1
  have e2 := u64_lo n
  go_enter Tryz.func72, Tryz.ntmps72
  go_wp2
  exact bodyPost_ret (v := Wv n) (by simp [results, Tryz.results72, go_sem]) rfl ⟨rfl, rfl⟩
theorem from_any (n : Int) (w : World) (h0 : -9223372036854775808 ≤ n) (h1 : n ≤ 9223372036854775807) : Calls Tryz.prog 72 #[.int .i64 n] w fun e w' => e = .returned (Wv n) ∧ Below w.heap.size w w' :=
  (from_at n w h0 h1).mono fun _ _ ⟨he, hw⟩ => ⟨he, hw ▸ (Below.refl _ _).alloc (Nat.le_refl _) _⟩
/-- Is a an int64? -/
def isS (a : Int) : Bool := decide (-9223372036854775808 ≤ a ∧ a ≤ 9223372036854775807)
def sm (a : Int) : Int := if isS a = true then a else 0
theorem isS_mk {a : Int} (h : -9223372036854775808 ≤ a ∧ a ≤ 9223372036854775807) : isS a = true := by unfold isS; exact decide_eq_true h
end Go.Proofs.YtldchepfcgbpiaaGreat
namespace Go.Proofs.YtldchepfcgbpiaaGreat
open Go.RowKit

abbrev Sv (s : Int) : Value := .agg #[.int .u64 (hi s), .int .u64 (lo s)]
theorem sv0 : Sv 0 = .agg #[.int .u64 0, .int .u64 0] := rfl


theorem less_lo (s o : Int) : (lo s - lo o) % 18446744073709551616 = lo (ws (s - o)) := by rw [ws_lo]; unfold lo; omega
theorem less_hi (s o : Int) : (hi s - hi o - bor (lo s) (lo o)) % 18446744073709551616 = hi (ws (s - o)) := by
  rw [ws_hi]; unfold hi lo bor; split <;> omega
/-- less -/
theorem less_any (s o : Int) (w : World) (h : U s) (k : U o) : Calls Tryz.prog 93 #[Sv s, Sv o] w fun e w' => e = .returned (Sv (ws (s - o))) ∧ Below w.heap.size w w' := by
  obtain ⟨a0, a1⟩ := lo_bd s
  obtain ⟨b0, b1⟩ := lo_bd o
  have b2 : lo o < 18446744073709551616 := by omega
  obtain ⟨c0, c1⟩ := h
  obtain ⟨d0, d1⟩ := k
  have d2 : hi o < 18446744073709551616 := by omega
  obtain ⟨k0, k1⟩ := bor_bd (lo s) (lo o)
  have e1 := less_lo s o
  have e2 := less_hi s o
  generalize ws (s - o) = t at *
  go_enter Tryz.func93, Tryz.ntmps93
  go_wp2_with (first | simp only [sub64_0 (lo s) (lo o) a0 b0 b2] | simp only [sub64_b _ _ _ c0 d0 d2 k0 k1])
  refine bodyPost_ret (v := Sv t) (by simp [results, Tryz.results93, go_sem]) rfl ⟨rfl, ?_⟩
  exact (((Below.refl _ _).alloc (Nat.le_refl _) _).alloc (by simp) _).alloc (by simp; omega) _

/-- left -/
theorem left_any (s : Int) (n : Nat) (w : World) (h : U s) (h1 : n ≤ 127) : Calls Tryz.prog 68 #[Sv s, .int .i64 n] w fun e w' => e = .returned (Sv (ws (s * 2 ^ n))) ∧ Below w.heap.size w w' := by
  obtain ⟨a0, a1⟩ := lo_bd s
  by_cases g : 64 ≤ n
  · have e1 := left64_hi s n g
    have e2 := left64_lo s n g
    have e3 : (((n : Int) - 64).toNat) = n - 64 := by omega
    have H := Lib.hid (And.intro e1 (And.intro e2.symm e3))
    clear e1 e2 e3
    generalize ws (s * 2 ^ n) = t at *
    go_enter Tryz.func68, Tryz.ntmps68
    go_wp2
    refine bodyPost_ret (v := Sv t) (by simp [results, Tryz.results68, go_sem, H.out.1, H.out.2.1]) rfl ⟨rfl, ?_⟩
    exact ((Below.refl _ _).alloc (Nat.le_refl _) _).alloc (by simp) _
  · have g' : n < 64 := by omega
    have e1 := left_hi s n (by omega) h.1
    have e2 := left_lo s n
    have e3 : ((64 - (n : Int)).toNat) = 64 - n := by omega
    have H := Lib.hid (And.intro e1 (And.intro e2 e3))
    clear e1 e2 e3
    generalize ws (s * 2 ^ n) = t at *
    go_enter Tryz.func68, Tryz.ntmps68
    go_wp2
    go_region
    go_wp2
    refine bodyPost_ret (v := Sv t) (by simp [results, Tryz.results68, go_sem, H.out.1, H.out.2.1]) rfl ⟨rfl, ?_⟩
    exact (((Below.refl _ _).alloc (Nat.le_refl _) _).alloc (by simp) _).drew

/-- compare -/
theorem compare_any (a b : Int) (w : World) : Calls Tryz.prog 104 #[Sv a, Sv b] w fun e w' => e = .returned (.int .i64 (sg a b)) ∧ Below w.heap.size w w' := by
  by_cases h : hi a = hi b
  · have H := Lib.hid (sg_lo h)
    have g : (hi a != hi b) = false := by simp [h]
    have K := Lib.hid h
    clear h
    go_enter Tryz.func104, Tryz.ntmps104
    go_wp2_with (go_at_call 105; refine (compare_u64 _ _ _).mono ?_; rintro e w' ⟨rfl, rfl⟩)
    go_ret
    exact ⟨by rw [H.out]; rfl, ((Below.refl _ _).alloc (Nat.le_refl _) _).alloc (by simp) _⟩
  · have H := Lib.hid (sg_hi h)
    have g : (hi a != hi b) = true := by simp [h]
    clear h
    go_enter Tryz.func104, Tryz.ntmps104
    go_wp2_with (go_at_call 105; refine (compare_u64 _ _ _).mono ?_; rintro e w' ⟨rfl, rfl⟩)
    go_ret
    exact ⟨by rw [H.out]; rfl, ((Below.refl _ _).alloc (Nat.le_refl _) _).alloc (by simp) _⟩

/-- length -/
theorem length_any (s : Int) (w : World) (h : U s) : Calls Tryz.prog 66 #[Sv s] w fun e w' => e = .returned (.int .i64 (bl s)) ∧ w.alloc (.cells #[.int .u64 (hi s), .int .u64 (lo s)] 107) = w' := by
  obtain ⟨a0, a1⟩ := lo_bd s
  by_cases g : hi s = 0
  · have H := Lib.hid (bl_low g)
    have g' : (hi s != 0) = false := by simp [g]
    have K := Lib.hid g
    clear g h
    go_enter Tryz.func66, Tryz.ntmps66
    go_wp2_with (go_at_call 94; refine (Tryz.bits_Len64 (lo s) _ a0 a1).mono ?_; rintro e w' ⟨rfl, rfl⟩)
    go_ret
    exact ⟨by rw [← H.out]; rfl, rfl⟩
  · have H := Lib.hid (bl_high h g)
    have g' : (hi s != 0) = true := by simp [g]
    obtain ⟨c0, c1⟩ := h
    have l := bitLen_64 (hi s) c0 c1
    clear g
    go_enter Tryz.func66, Tryz.ntmps66
    go_wp2_with (go_at_call 94; refine (Tryz.bits_Len64 (hi s) _ c0 c1).mono ?_; rintro e w' ⟨rfl, rfl⟩)
    go_ret
    exact ⟨by rw [← H.out]; rfl, rfl⟩
end Go.Proofs.YtldchepfcgbpiaaGreat
namespace Go.Proofs.YtldchepfcgbpiaaGreat
open Go.RowKit

theorem svtop : Sv 170141183460469231731687303715884105728 = .agg #[.int .u64 9223372036854775808, .int .u64 0] := by
  have e1 : hi 170141183460469231731687303715884105728 = 9223372036854775808 := by decide
  have e2 : lo 170141183460469231731687303715884105728 = 0 := by decide
  show Value.agg #[.int .u64 (hi _), .int .u64 (lo _)] = _
  rw [e1, e2]


set_option maxHeartbeats 1000000 in
/-- negated -/
theorem negated_any (s : Int) (w : World) (h : U s) : Calls Tryz.prog 95 #[Sv s] w fun e w' => e = .returned (.tuple #[Wv (told (-s)), .int .i64 (over (-s))]) ∧ Below w.heap.size w w' := by
  have CH := Lib.hid (fun W => svtop ▸ compare_any s 170141183460469231731687303715884105728 W)
  have DH := Lib.hid (fun W => Int.zero_sub s ▸ sv0 ▸ less_any 0 s W (by decide) h)
  by_cases g : (0 : Int) < sg s 170141183460469231731687303715884105728
  · have r := Lib.hid (And.intro (told_out (neg_high g)) (over_out (neg_high g)))
    generalize sg s 170141183460469231731687303715884105728 = c at *
    clear h
    go_enter Tryz.func95, Tryz.ntmps95
    go_wp2_with (go_at_call 104; (with_reducible refine (CH.out _).mono ?_); rintro e w' ⟨rfl, hb⟩; obtain ⟨hc, hf⟩ := bcell hb; have hz0 : w.heap.size < w'.heap.size := bsz hb (by first | omega | (simp; done) | (simp; omega)); have hz1 : w.heap.size + 1 < w'.heap.size := bsz hb (by first | omega | (simp; done) | (simp; omega)))
    refine bodyPost_ret (v := .tuple #[.agg #[.int .i64 0, .int .u64 0], .int .i64 3]) (by simp [results, Tryz.results95, go_sem, hc]) rfl ⟨by rw [r.out.1, r.out.2] <;> rfl, ?_⟩
    repeat (first | exact Below.refl _ _ | apply Below.drew | refine Below.setCell ?_ (by first | (simp; done) | (simp; omega) | omega) _ | refine Below.alloc ?_ (by first | (simp; done) | (simp; omega) | omega) _ | refine Below.trans ?_ (hb.mono (by first | (simp; done) | (simp; omega) | omega)))
  · obtain ⟨r1, r2, r3⟩ := neg_low h g
    have r := Lib.hid (And.intro (told_in r1) (over_in r1))
    have H := Lib.hid (And.intro r2 r3)
    clear h r1 r2 r3
    generalize sg s 170141183460469231731687303715884105728 = c at *
    go_enter Tryz.func95, Tryz.ntmps95
    go_wp2_with (first | (go_at_call 104; (with_reducible refine (CH.out _).mono ?_); rintro e w' ⟨rfl, hb⟩; obtain ⟨hc, hf⟩ := bcell hb; have hz0 : w.heap.size < w'.heap.size := bsz hb (by first | omega | (simp; done) | (simp; omega)); have hz1 : w.heap.size + 1 < w'.heap.size := bsz hb (by first | omega | (simp; done) | (simp; omega))) | (go_at_call 93; (with_reducible refine (DH.out _).mono ?_); rintro e w2 ⟨rfl, hb2⟩; obtain ⟨hc2, hf2⟩ := bcell hb2; have hz2 : w.heap.size < w2.heap.size := bsz hb2 (by first | omega | (simp; done) | (simp; omega)); have hz3 : w.heap.size + 1 < w2.heap.size := bsz hb2 (by first | omega | (simp; done) | (simp; omega))))
    refine bodyPost_ret (v := .tuple #[Wv (-s), .int .i64 0]) (by simp [results, Tryz.results95, go_sem, hc, hz1, hc2, hz3, H.out.1, H.out.2]) rfl ⟨by rw [r.out.1, r.out.2] <;> rfl, ?_⟩
    repeat (first | exact Below.refl _ _ | apply Below.drew | refine Below.setCell ?_ (by first | (simp; done) | (simp; omega) | omega) _ | refine Below.alloc ?_ (by first | (simp; done) | (simp; omega) | omega) _ | refine Below.trans ?_ (hb2.mono (by first | (simp; done) | (simp; omega) | omega)) | refine Below.trans ?_ (hb.mono (by first | (simp; done) | (simp; omega) | omega)))

set_option maxHeartbeats 1000000 in
/-- signed -/
theorem signed_any (s : Int) (neg : Bool) (w : World) (h : U s) : Calls Tryz.prog 67 #[Sv s, .bool neg] w fun e w' => e = .returned (.tuple #[Wv (told (sd neg s)), .int .i64 (over (sd neg s))]) ∧ Below w.heap.size w w' := by
  cases neg with
  | true =>
    have CH := Lib.hid (fun W => negated_any s W h)
    have e0 := Lib.hid (show sd true s = -s from rfl)
    clear h
    generalize sd true s = t at *
    go_enter Tryz.func67, Tryz.ntmps67
    go_wp2_with (go_at_call 95; (with_reducible refine (CH.out _).mono ?_); rintro e w' ⟨rfl, hb⟩; obtain ⟨hc, hf⟩ := bcell hb; have hz0 : w.heap.size < w'.heap.size := bsz hb (by first | omega | (simp; done) | (simp; omega)); have hz1 : w.heap.size + 1 < w'.heap.size := bsz hb (by first | omega | (simp; done) | (simp; omega)))
    refine bodyPost_ret (v := .tuple #[Wv (told (-s)), .int .i64 (over (-s))]) (by simp [results, Tryz.results67, go_sem, hc]) rfl ⟨by rw [e0.out], ?_⟩
    repeat (first | exact Below.refl _ _ | apply Below.drew | refine Below.setCell ?_ (by first | (simp; done) | (simp; omega) | omega) _ | refine Below.alloc ?_ (by first | (simp; done) | (simp; omega) | omega) _ | refine Below.trans ?_ (hb.mono (by first | (simp; done) | (simp; omega) | omega)))
  | false =>
    have e0 := Lib.hid (show sd false s = s from rfl)
    by_cases g : 9223372036854775808 ≤ hi s
    · have r := Lib.hid (And.intro (told_out (pos_high g)) (over_out (pos_high g)))
      clear h
      generalize sd false s = t at *
      go_enter Tryz.func67, Tryz.ntmps67
      go_wp2
      refine bodyPost_ret (v := .tuple #[.agg #[.int .i64 0, .int .u64 0], .int .i64 3]) (by simp [results, Tryz.results67, go_sem]) rfl ⟨by rw [e0.out, r.out.1, r.out.2] <;> rfl, ?_⟩
      repeat (first | exact Below.refl _ _ | apply Below.drew | refine Below.setCell ?_ (by first | (simp; done) | (simp; omega) | omega) _ | refine Below.alloc ?_ (by first | (simp; done) | (simp; omega) | omega) _)
    · have g' : hi s < 9223372036854775808 := by omega
      obtain ⟨r1, r2⟩ := pos_low h g'
      have r := Lib.hid (And.intro (told_in r1) (And.intro (over_in r1) r2))
      have g0 := h.1
      clear h r1 r2 g
      generalize sd false s = t at *
      go_enter Tryz.func67, Tryz.ntmps67
      go_wp2
      refine bodyPost_ret (v := .tuple #[Wv s, .int .i64 0]) (by simp [results, Tryz.results67, go_sem]) rfl ⟨by rw [e0.out, r.out.1, r.out.2.1] <;> rfl, ?_⟩
      repeat (first | exact Below.refl _ _ | apply Below.drew | refine Below.setCell ?_ (by first | (simp; done) | (simp; omega) | omega) _ | refine Below.alloc ?_ (by first | (simp; done) | (simp; omega) | omega) _)

set_option maxHeartbeats 1000000 in
/-- sizeOf -/
theorem sizeOf_any (a : Int) (w : World) (ha : R a) : Calls Tryz.prog 65 #[Wv a] w fun e w' => e = .returned (Sv (ab a)) ∧ Below w.heap.size w w' := by
  have DH := Lib.hid (fun W => Int.zero_sub (ws a) ▸ sv0 ▸ less_any 0 (ws a) W (by decide) (U_ws a))
  have l1 := lo_ws a
  have l2 := u64_hi_ws a
  cases g : ng a with
  | true =>
    have E := Lib.hid (ab_of_neg ha g)
    have LH := Lib.hid (And.intro l1 l2)
    clear ha l1 l2
    generalize ws a = u at *
    go_enter Tryz.func65, Tryz.ntmps65
    go_wp2_with (first | (go_at_call 69; (with_reducible refine (below_any a _).mono ?_); rintro e w' ⟨rfl, rfl⟩) | (rw [LH.out.1, LH.out.2]; go_at_call 93; (with_reducible refine (DH.out _).mono ?_); rintro e w2 ⟨rfl, hb⟩; obtain ⟨hc, hf⟩ := bcell hb; have hz0 : w.heap.size < w2.heap.size := bsz hb (by first | omega | (simp; done) | (simp; omega)); have hz1 : w.heap.size + 1 < w2.heap.size := bsz hb (by first | omega | (simp; done) | (simp; omega))))
    refine bodyPost_ret (v := Sv (ws (-u))) (by simp [results, Tryz.results65, go_sem, hc]) rfl ⟨by rw [E.out] <;> rfl, ?_⟩
    repeat (first | exact Below.refl _ _ | apply Below.drew | refine Below.setCell ?_ (by first | (simp; done) | (simp; omega) | omega) _ | refine Below.alloc ?_ (by first | (simp; done) | (simp; omega) | omega) _ | refine Below.trans ?_ (hb.mono (by first | (simp; done) | (simp; omega) | omega)))
  | false =>
    have E := Lib.hid (ab_of_pos ha g)
    have LH := Lib.hid (And.intro l1 l2)
    clear ha l1 l2
    generalize ws a = u at *
    go_enter Tryz.func65, Tryz.ntmps65
    go_wp2_with (first | (go_at_call 69; (with_reducible refine (below_any a _).mono ?_); rintro e w' ⟨rfl, rfl⟩))
    refine bodyPost_ret (v := Sv u) (by simp [results, Tryz.results65, go_sem, LH.out.1, LH.out.2]) rfl ⟨by rw [E.out] <;> rfl, ?_⟩
    repeat (first | exact Below.refl _ _ | apply Below.drew | refine Below.setCell ?_ (by first | (simp; done) | (simp; omega) | omega) _ | refine Below.alloc ?_ (by first | (simp; done) | (simp; omega) | omega) _)
end Go.Proofs.YtldchepfcgbpiaaGreat
namespace Go.Proofs.YtldchepfcgbpiaaGreat

theorem pow128 : (2 : Int) ^ 128 = 340282366920938463463374607431768211456 := by decide
theorem pow_mono {m n : Nat} (h : m ≤ n) : (2 : Int) ^ m ≤ 2 ^ n := by
  obtain ⟨k, rfl⟩ := Nat.exists_eq_add_of_le h
  rw [Int.pow_add]
  have h1 : (0 : Int) < 2 ^ m := Int.pow_pos (by decide)
  have h2 : (0 : Int) < 2 ^ k := Int.pow_pos (by decide)
  have := Int.mul_le_mul_of_nonneg_left (show (1 : Int) ≤ 2 ^ k by omega) (show (0 : Int) ≤ 2 ^ m by omega)
  omega
end Go.Proofs.YtldchepfcgbpiaaGreat
namespace Go.Proofs.YtldchepfcgbpiaaGreat
open Go.RowKit
/-- The four variables of divide. -/
def DivAt (w0 : World) (n d q r : Int) (w : World) : Prop :=
  w.cell? ⟨w0.heap.size, 0, none⟩ = some (.int .u64 (hi n)) ∧ w.cell? ⟨w0.heap.size, 1, none⟩ = some (.int .u64 (lo n)) ∧
  w.cell? ⟨w0.heap.size + 1, 0, none⟩ = some (.int .u64 (hi d)) ∧ w.cell? ⟨w0.heap.size + 1, 1, none⟩ = some (.int .u64 (lo d)) ∧
  w.cell? ⟨w0.heap.size + 1 + 1, 0, none⟩ = some (.int .u64 (hi q)) ∧ w.cell? ⟨w0.heap.size + 1 + 1, 1, none⟩ = some (.int .u64 (lo q)) ∧
  w.cell? ⟨w0.heap.size + 1 + 1 + 1, 0, none⟩ = some (.int .u64 (hi r)) ∧ w.cell? ⟨w0.heap.size + 1 + 1 + 1, 1, none⟩ = some (.int .u64 (lo r)) ∧
  w.frozen? ⟨w0.heap.size + 1 + 1, 0, none⟩ = false ∧ w.frozen? ⟨w0.heap.size + 1 + 1, 1, none⟩ = false ∧
  w.frozen? ⟨w0.heap.size + 1 + 1 + 1, 0, none⟩ = false ∧ w.frozen? ⟨w0.heap.size + 1 + 1 + 1, 1, none⟩ = false ∧
  Below w0.heap.size w0 w ∧ w0.heap.size + 1 + 1 + 1 < w.heap.size
theorem cell_on {W W' : World} (hb : Below W.heap.size W W') {p : Addr} {v : Value} (h : W.cell? p = some v) : W'.cell? p = some v := (hb.cell (World.block_lt_of_cell? W _ h)).trans h
theorem frozen_on {W W' : World} (hb : Below W.heap.size W W') {p : Addr} {v : Value} (h : W.cell? p = some v) {b : Bool} (hf : W.frozen? p = b) : W'.frozen? p = b := (hb.frozen (World.block_lt_of_cell? W _ h)).trans hf
theorem DivAt.below {w0 : World} {n d q r : Int} {W W' : World} (h : DivAt w0 n d q r W) (hb : Below W.heap.size W W') : DivAt w0 n d q r W' := by
  obtain ⟨c1, c2, c3, c4, c5, c6, c7, c8, f1, f2, f3, f4, b, z⟩ := h
  obtain ⟨hc, hf⟩ := bcell hb
  refine ⟨?_, ?_, ?_, ?_, ?_, ?_, ?_, ?_, ?_, ?_, ?_, ?_, b.trans (hb.mono (by omega)), bsz hb z⟩
  all_goals first | (rw [hc _ _ (by omega)]; assumption) | (rw [hf _ _ (by omega)]; assumption)
theorem DivAt.alloc {w0 : World} {n d q r : Int} {W : World} (h : DivAt w0 n d q r W) (o : Obj) : DivAt w0 n d q r (W.alloc o) :=
  h.below ((Below.refl _ _).alloc (Nat.le_refl _) o)
theorem DivAt.drew {w0 : World} {n d q r : Int} {W : World} (h : DivAt w0 n d q r W) : DivAt w0 n d q r W.drew := by
  obtain ⟨c1, c2, c3, c4, c5, c6, c7, c8, f1, f2, f3, f4, b, z⟩ := h
  exact ⟨c1, c2, c3, c4, c5, c6, c7, c8, f1, f2, f3, f4, b.drew, z⟩
theorem DivAt.put {w0 : World} {n d q r : Int} {W : World} (h : DivAt w0 n d q r W) (q' r' : Int) :
    DivAt w0 n d q' r' ((((W.setCell ⟨w0.heap.size + 1 + 1, 0, none⟩ (.int .u64 (hi q'))).setCell ⟨w0.heap.size + 1 + 1, 1, none⟩ (.int .u64 (lo q'))).setCell ⟨w0.heap.size + 1 + 1 + 1, 0, none⟩ (.int .u64 (hi r'))).setCell ⟨w0.heap.size + 1 + 1 + 1, 1, none⟩ (.int .u64 (lo r'))) := by
  obtain ⟨c1, c2, c3, c4, c5, c6, c7, c8, f1, f2, f3, f4, b, z⟩ := h
  refine ⟨by simp [go_sem, *], by simp [go_sem, *], by simp [go_sem, *], by simp [go_sem, *], by simp [go_sem, *], by simp [go_sem, *], by simp [go_sem, *], by simp [go_sem, *], by simp [go_sem, *], by simp [go_sem, *], by simp [go_sem, *], by simp [go_sem, *], ?_, by simp [go_sem, *]⟩
  exact (((b.setCell (by simp; omega) _).setCell (by simp; omega) _).setCell (by simp; omega) _).setCell (by simp; omega) _
end Go.Proofs.YtldchepfcgbpiaaGreat
