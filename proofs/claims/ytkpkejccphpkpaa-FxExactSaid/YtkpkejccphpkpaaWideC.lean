/-
  What the calls of package wide do, said of whole numbers: From, Small, Neg, and the statements' own small functions.
-/
import Derived.Test.YtkpkejccphpkpaaWideB
namespace Go.Proofs.Ytkpkejccphpkpaa
open Go.RowKit

theorem bcell {W w1 : World} (hb : Below W.heap.size W w1) : (∀ b o, b < W.heap.size → w1.cell? ⟨b, o, none⟩ = W.cell? ⟨b, o, none⟩) ∧ (∀ b o, b < W.heap.size → w1.frozen? ⟨b, o, none⟩ = W.frozen? ⟨b, o, none⟩) :=
  ⟨fun b o h => hb.cell (p := ⟨b, o, none⟩) h, fun b o h => hb.frozen (p := ⟨b, o, none⟩) h⟩
theorem bsz {W w1 : World} (hb : Below W.heap.size W w1) {n : Nat} (h : n < W.heap.size) : n < w1.heap.size := Nat.lt_of_lt_of_le h hb.size
theorem hi_small {n : Int} (h0 : -9223372036854775808 ≤ n) (h1 : n ≤ 9223372036854775807) : hi n = if n < 0 then -1 else 0 := by unfold hi; split <;> omega

/-- wide.Neg -/
theorem neg_any (a : Int) (w : World) (ha : R a) : Calls Try.prog 121 #[Wv a] w fun e w' => e = .returned (.tuple #[Wv (told (-a)), .int .i64 (over (-a))]) ∧ Below w.heap.size w w' := by
  have C := Lib.hid (fun W => sub_any 0 a W (by decide) ha)
  have e0 := Lib.hid (Int.zero_sub a)
  rw [wv0] at C
  go_enter Try.func121, Try.ntmps121
  go_wp2_with (go_at_call 134; refine (C.out _).mono ?_; rintro e w' ⟨rfl, hb⟩; obtain ⟨hc, hf⟩ := bcell hb)
  refine bodyPost_ret (v := .tuple #[Wv (told (-a)), .int .i64 (over (-a))]) (by simp [results, Try.results121, go_sem, hc]) rfl ⟨rfl, ?_⟩
  exact (((((Below.refl _ _).alloc (Nat.le_refl _) _).alloc (by simp) _).trans (hb.mono (by simp; omega))).setCell (by simp) _).setCell (by simp) _

theorem shr_hi {n : Int} (h0 : -9223372036854775808 ≤ n) (h1 : n ≤ 9223372036854775807) : n / 9223372036854775808 = hi n := by unfold hi; omega
theorem u64_lo (n : Int) : IntKind.u64.wrap n = lo n := by rw [IntKind.wrap_u64]; rfl
/-- wide.From -/
theorem from_at (n : Int) (w : World) (h0 : -9223372036854775808 ≤ n) (h1 : n ≤ 9223372036854775807) : Calls Try.prog 75 #[.int .i64 n] w fun e w' => e = .returned (Wv n) ∧ w.alloc (.cells #[.int .i64 (hi n), .int .u64 (lo n)] 25) = w' := by
  have e1 := shr_hi h0 h1
  have e2 := u64_lo n
  go_enter Try.func75, Try.ntmps75
  go_wp2
  exact bodyPost_ret (v := Wv n) (by simp [results, Try.results75, go_sem]) rfl ⟨rfl, rfl⟩
theorem from_any (n : Int) (w : World) (h0 : -9223372036854775808 ≤ n) (h1 : n ≤ 9223372036854775807) : Calls Try.prog 75 #[.int .i64 n] w fun e w' => e = .returned (Wv n) ∧ Below w.heap.size w w' :=
  (from_at n w h0 h1).mono fun _ _ ⟨he, hw⟩ => ⟨he, hw ▸ (Below.refl _ _).alloc (Nat.le_refl _) _⟩
/-- Is a an int64? -/
def isS (a : Int) : Bool := decide (-9223372036854775808 ≤ a ∧ a ≤ 9223372036854775807)
def sm (a : Int) : Int := if isS a = true then a else 0
theorem isS_bd {a : Int} (h : isS a = true) : -9223372036854775808 ≤ a ∧ a ≤ 9223372036854775807 := by unfold isS at h; exact of_decide_eq_true h
theorem isS_mk {a : Int} (h : -9223372036854775808 ≤ a ∧ a ≤ 9223372036854775807) : isS a = true := by unfold isS; exact decide_eq_true h
theorem small_back {a : Int} (h : isS a = true) : wrap64 (lo a) = a := by have := isS_bd h; unfold wrap64 lo; omega
theorem small_not {a : Int} (h : isS a = false) : (hi a == hi (wrap64 (lo a))) = false := by
  have : ¬ (-9223372036854775808 ≤ a ∧ a ≤ 9223372036854775807) := by unfold isS at h; exact of_decide_eq_false h
  simp only [beq_eq_false_iff_ne, ne_eq]; unfold wrap64 lo hi; omega
theorem R_small {a : Int} (h0 : -9223372036854775808 ≤ a) (h1 : a ≤ 9223372036854775807) : R a := by rw [R_iff]; omega
/-- wide.Small -/
theorem small_any (a : Int) (w : World) : Calls Try.prog 112 #[Wv a] w fun e w' => e = .returned (.tuple #[.int .i64 (sm a), .bool (isS a)]) ∧ Below w.heap.size w w' := by
  cases g : isS a with
  | true =>
    have B := Lib.hid (isS_bd g)
    have e1 := small_back g
    have e2 := Lib.hid (show sm a = a from if_pos g)
    clear g
    go_enter Try.func112, Try.ntmps112
    go_wp2
    go_region_held3 (fun w' => w'.cell? ⟨w.heap.size, 0, none⟩ = some (.int .i64 (hi a)) ∧ w'.cell? ⟨w.heap.size, 1, none⟩ = some (.int .u64 (lo a))) (simp [go_sem])
      (first
      | (rw [e1]; go_at_call 75; refine (from_at a _ B.out.1 B.out.2).mono ?_; rintro e w' ⟨rfl, rfl⟩)
      | (go_at_call 75; refine (from_at a _ B.out.1 B.out.2).mono ?_; rintro e w' ⟨rfl, rfl⟩))
    go_wp2
    go_ret2
    exact ⟨by rw [e2.out] <;> rfl, by repeat (first | exact Below.refl _ _ | apply Below.drew | refine Below.alloc ?_ (by simp) _)⟩
  | false =>
    have e3 := small_not g
    obtain ⟨m, em⟩ : ∃ m, wrap64 (lo a) = m := ⟨_, rfl⟩
    have B : Hid (-9223372036854775808 ≤ m ∧ m ≤ 9223372036854775807) := by subst em; unfold wrap64 Hid; omega
    have e2 := Lib.hid (show sm a = 0 from if_neg (by simp [g]))
    rw [em] at e3
    clear g
    go_enter Try.func112, Try.ntmps112
    go_wp2
    go_region_held3 (fun w' => w'.cell? ⟨w.heap.size, 0, none⟩ = some (.int .i64 (hi a)) ∧ w'.cell? ⟨w.heap.size, 1, none⟩ = some (.int .u64 (lo a))) (simp [go_sem])
      (first
      | (go_at_call 75; refine (from_at m _ B.out.1 B.out.2).mono ?_; rintro e w' ⟨rfl, rfl⟩)
      | (rw [em]; go_at_call 75; refine (from_at m _ B.out.1 B.out.2).mono ?_; rintro e w' ⟨rfl, rfl⟩))
    go_wp2
    go_ret2
    exact ⟨by rw [e2.out] <;> rfl, by repeat (first | exact Below.refl _ _ | apply Below.drew | refine Below.alloc ?_ (by simp) _)⟩
theorem tmod_64 (i n : Int) (h0 : 1 ≤ n) (h1 : n ≤ 9223372036854775807) : wrap64 ((IntKind.u64.wrap i).tmod n) = (i % 18446744073709551616) % n := by
  rw [IntKind.wrap_u64, Int.tmod_eq_emod_of_nonneg (by omega)]
  have := Int.emod_nonneg (i % 18446744073709551616) (show n ≠ 0 by omega)
  have := Int.emod_lt_of_pos (i % 18446744073709551616) (show 0 < n by omega)
  exact IntWalk.wrap64_in _ ⟨by omega, by omega⟩
theorem within_any (i n : Int) (w : World) (h0 : 1 ≤ n) (h1 : n ≤ 9223372036854775807) : Calls Try.prog 84 #[.int .i64 i, .int .i64 n] w fun e w' => e = .returned (.int .i64 ((i % 18446744073709551616) % n)) ∧ w = w' := by
  have E := Lib.hid (tmod_64 i n h0 h1)
  go_enter Try.func84, Try.ntmps84
  go_wp2
  go_ret
  exact ⟨by rw [← E.out]; rfl, rfl⟩
end Go.Proofs.Ytkpkejccphpkpaa
