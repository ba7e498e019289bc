/-
  What the calls on sizes (whole numbers of 128 bits without a sign) do.
-/
import Derived.Test.YtkpkejccphpkpaaWideC
import Derived.Test.YtkpkejccphpkpaaNumB
import Derived.Test.YtkpkejccphpkpaaShelf
namespace Go.Proofs.Ytkpkejccphpkpaa
open Go.RowKit

abbrev Sv (s : Int) : Value := .agg #[.int .u64 (hi s), .int .u64 (lo s)]
theorem sv0 : Sv 0 = .agg #[.int .u64 0, .int .u64 0] := rfl

/-- odd -/
theorem odd_any (s : Int) (w : World) : Calls Try.prog 69 #[Sv s] w fun e w' => e = .returned (.bool (s % 2 == 1)) ∧ Below w.heap.size w w' := by
  obtain ⟨a0, a1⟩ := lo_bd s
  have e1 := Lib.hid (show lo s % 2 = s % 2 by unfold lo; omega)
  go_enter Try.func69, Try.ntmps69
  go_wp2
  go_ret
  exact ⟨by rw [← e1.out]; rfl, (Below.refl _ _).alloc (Nat.le_refl _) _⟩

theorem next_lo (s : Int) : (lo s + 1) % 18446744073709551616 = lo (s + 1) := by unfold lo; omega
theorem next_hi {s : Int} (h : U (s + 1)) : IntKind.u64.wrap (hi s + (lo s + 1) / 18446744073709551616) = hi (s + 1) := by
  rw [U_iff] at h; rw [IntKind.wrap_u64]; unfold hi lo; omega
/-- next -/
theorem next_any (s : Int) (w : World) (h : U (s + 1)) : Calls Try.prog 70 #[Sv s] w fun e w' => e = .returned (Sv (s + 1)) ∧ Below w.heap.size w w' := by
  obtain ⟨a0, a1⟩ := lo_bd s
  have e1 := next_lo s
  have e2 := next_hi h
  generalize s + 1 = t at *
  clear h
  go_enter Try.func70, Try.ntmps70
  go_wp2_with (simp only [add64_0 (lo s) 1 a0 (by decide)])
  refine bodyPost_ret (v := Sv t) (by simp [results, Try.results70, go_sem]) rfl ⟨rfl, ?_⟩
  exact ((Below.refl _ _).alloc (Nat.le_refl _) _).alloc (by simp) _

theorem less_lo (s o : Int) : (lo s - lo o) % 18446744073709551616 = lo (ws (s - o)) := by rw [ws_lo]; unfold lo; omega
theorem less_hi (s o : Int) : (hi s - hi o - bor (lo s) (lo o)) % 18446744073709551616 = hi (ws (s - o)) := by
  rw [ws_hi]; unfold hi lo bor; split <;> omega
/-- less -/
theorem less_any (s o : Int) (w : World) (h : U s) (k : U o) : Calls Try.prog 104 #[Sv s, Sv o] w fun e w' => e = .returned (Sv (ws (s - o))) ∧ Below w.heap.size w w' := by
  obtain ⟨a0, a1⟩ := lo_bd s
  obtain ⟨b0, b1⟩ := lo_bd o
  have b2 : lo o < 18446744073709551616 := by omega
  obtain ⟨c0, c1⟩ := h
  obtain ⟨d0, d1⟩ := k
  have d2 : hi o < 18446744073709551616 := by omega
  obtain ⟨k0, k1⟩ := bor_bd (lo s) (lo o)
  have e1 := less_lo s o
  have e2 := less_hi s o
  generalize ws (s - o) = t at *
  go_enter Try.func104, Try.ntmps104
  go_wp2_with (first | simp only [sub64_0 (lo s) (lo o) a0 b0 b2] | simp only [sub64_b _ _ _ c0 d0 d2 k0 k1])
  refine bodyPost_ret (v := Sv t) (by simp [results, Try.results104, go_sem]) rfl ⟨rfl, ?_⟩
  exact (((Below.refl _ _).alloc (Nat.le_refl _) _).alloc (by simp) _).alloc (by simp; omega) _

/-- left -/
theorem left_any (s : Int) (n : Nat) (w : World) (h : U s) (h1 : n ≤ 127) : Calls Try.prog 67 #[Sv s, .int .i64 n] w fun e w' => e = .returned (Sv (ws (s * 2 ^ n))) ∧ Below w.heap.size w w' := by
  obtain ⟨a0, a1⟩ := lo_bd s
  by_cases g : 64 ≤ n
  · have e1 := left64_hi s n g
    have e2 := left64_lo s n g
    have e3 : (((n : Int) - 64).toNat) = n - 64 := by omega
    have H := Lib.hid (And.intro e1 (And.intro e2.symm e3))
    clear e1 e2 e3
    generalize ws (s * 2 ^ n) = t at *
    go_enter Try.func67, Try.ntmps67
    go_wp2
    refine bodyPost_ret (v := Sv t) (by simp [results, Try.results67, go_sem, H.out.1, H.out.2.1]) rfl ⟨rfl, ?_⟩
    exact ((Below.refl _ _).alloc (Nat.le_refl _) _).alloc (by simp) _
  · have g' : n < 64 := by omega
    have e1 := left_hi s n (by omega) h.1
    have e2 := left_lo s n
    have e3 : ((64 - (n : Int)).toNat) = 64 - n := by omega
    have H := Lib.hid (And.intro e1 (And.intro e2 e3))
    clear e1 e2 e3
    generalize ws (s * 2 ^ n) = t at *
    go_enter Try.func67, Try.ntmps67
    go_wp2
    go_region
    go_wp2
    refine bodyPost_ret (v := Sv t) (by simp [results, Try.results67, go_sem, H.out.1, H.out.2.1]) rfl ⟨rfl, ?_⟩
    exact (((Below.refl _ _).alloc (Nat.le_refl _) _).alloc (by simp) _).drew

/-- compare -/
theorem compare_any (a b : Int) (w : World) : Calls Try.prog 68 #[Sv a, Sv b] w fun e w' => e = .returned (.int .i64 (sg a b)) ∧ Below w.heap.size w w' := by
  by_cases h : hi a = hi b
  · have H := Lib.hid (sg_lo h)
    have g : (hi a != hi b) = false := by simp [h]
    have K := Lib.hid h
    clear h
    go_enter Try.func68, Try.ntmps68
    go_wp2_with (go_at_call 107; refine (compare_u64 _ _ _).mono ?_; rintro e w' ⟨rfl, rfl⟩)
    go_ret
    exact ⟨by rw [H.out]; rfl, ((Below.refl _ _).alloc (Nat.le_refl _) _).alloc (by simp) _⟩
  · have H := Lib.hid (sg_hi h)
    have g : (hi a != hi b) = true := by simp [h]
    clear h
    go_enter Try.func68, Try.ntmps68
    go_wp2_with (go_at_call 107; refine (compare_u64 _ _ _).mono ?_; rintro e w' ⟨rfl, rfl⟩)
    go_ret
    exact ⟨by rw [H.out]; rfl, ((Below.refl _ _).alloc (Nat.le_refl _) _).alloc (by simp) _⟩

/-- length -/
theorem length_any (s : Int) (w : World) (h : U s) : Calls Try.prog 105 #[Sv s] w fun e w' => e = .returned (.int .i64 (bl s)) ∧ w.alloc (.cells #[.int .u64 (hi s), .int .u64 (lo s)] 89) = w' := by
  obtain ⟨a0, a1⟩ := lo_bd s
  by_cases g : hi s = 0
  · have H := Lib.hid (bl_low g)
    have g' : (hi s != 0) = false := by simp [g]
    have K := Lib.hid g
    clear g h
    go_enter Try.func105, Try.ntmps105
    go_wp2_with (go_at_call 128; refine (Try.bits_Len64 (lo s) _ a0 a1).mono ?_; rintro e w' ⟨rfl, rfl⟩)
    go_ret
    exact ⟨by rw [← H.out]; rfl, rfl⟩
  · have H := Lib.hid (bl_high h g)
    have g' : (hi s != 0) = true := by simp [g]
    obtain ⟨c0, c1⟩ := h
    have l := bitLen_64 (hi s) c0 c1
    clear g
    go_enter Try.func105, Try.ntmps105
    go_wp2_with (go_at_call 128; refine (Try.bits_Len64 (hi s) _ c0 c1).mono ?_; rintro e w' ⟨rfl, rfl⟩)
    go_ret
    exact ⟨by rw [← H.out]; rfl, rfl⟩
end Go.Proofs.Ytkpkejccphpkpaa
