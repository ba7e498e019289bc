/-
  shape.Count and shape.Check.
-/
import Derived.Test.YteplhlmdaabpaaaSl
namespace Go.Proofs.Yteplhlmdaabpaaa
open Go.RowKit

set_option maxRecDepth 100000 in
set_option maxHeartbeats 2000000 in
theorem count_ok (v : Value) (ls : List Int) (w : World) (h : Ld w v ls) (hm : may ls = true) :
    Calls Try.prog 10 #[v] w fun e w' => e = .returned (.tuple #[.int .i64 (prod ls), .int .i64 0]) ∧ w = w' := by
  obtain ⟨o, c, rfl, _, hx⟩ := h
  have HX := Lib.hid hx
  have hl := may_len hm
  have HC := Lib.hid (may_cnt hm)
  have HP := Lib.hid (may_prod hm)
  clear hx hm
  go_enter Try.func10, Try.ntmps10
  go_wp2
  go_loop [4, 12] (fun s4 s12 => ∃ (k : Nat) (m : Int), k ≤ ls.length ∧ 1 ≤ m ∧ m ≤ 65536 ∧ s12 = .int .i64 k ∧ s4 = .int .i64 m ∧ Hid (cnt m (ls.drop k) = cnt 1 ls)) (fun _ s12 => ls.length - (intOf s12).toNat)
  case atStart => exact ⟨0, 1, Nat.zero_le _, by decide, by decide, rfl, rfl, rfl⟩
  case round =>
    obtain ⟨k, m, hk, m0, m1, rfl, rfl, HM⟩ := hrel
    by_cases hlt : k < ls.length
    · obtain ⟨b, f, rfl, hb, hc⟩ := HX.out k hlt
      have st := cnt_step hlt m
      rw [HM.out, HC.out] at st
      obtain ⟨d, hd⟩ : ∃ d, d = ls.getD k 0 := ⟨_, rfl⟩
      rw [← hd] at st hc
      have hp := HP.out
      have g : 1 ≤ d ∧ d ≤ 4096 ∧ d * m ≤ 65536 := Classical.byContradiction fun g => by rw [if_neg g] at st; omega
      rw [if_pos g] at st
      obtain ⟨g1, g2, g3⟩ := g
      have q : ¬ 65536 / m < d := by rw [quo_lt m0]; omega
      have m2 : 1 ≤ m * d := by have := Int.mul_le_mul m0 g1 (by decide) (by omega); omega
      have m3 : m * d ≤ 65536 := by rw [Int.mul_comm]; omega
      have ST := Lib.hid st
      clear st hd hp g3
      go_wp2
      refine ⟨⟨k + 1, m * d, by omega, m2, m3, by go_num, rfl, by unfold Hid; rw [← ST.out, HC.out]⟩, by simp [intOf]; omega⟩
    · obtain rfl : m = prod ls := by
        have := HM.out
        rw [List.drop_eq_nil_of_le (by omega), HC.out] at this
        exact this
      go_wp2
      go_ret2
      exact ⟨rfl, rfl⟩

set_option maxRecDepth 100000 in
set_option maxHeartbeats 2000000 in
theorem count_no (v : Value) (ls : List Int) (w : World) (h : Ld w v ls) (hm : may ls = false) :
    Calls Try.prog 10 #[v] w fun e w' => e = .returned (.tuple #[.int .i64 0, .int .i64 1]) ∧ w = w' := by
  obtain ⟨o, c, rfl, _, hx⟩ := h
  have HX := Lib.hid hx
  clear hx
  by_cases h4 : 4 < ls.length
  · clear hm
    go_enter Try.func10, Try.ntmps10
    go_wp2
    go_ret2
    exact ⟨rfl, rfl⟩
  have HC : Hid (cnt 1 ls = 0) := by rcases may_no hm with a | a
                                     · exact absurd a h4
                                     · exact a
  clear hm
  go_enter Try.func10, Try.ntmps10
  go_wp2
  go_loop [4, 12] (fun s4 s12 => ∃ (k : Nat) (m : Int), k ≤ ls.length ∧ 1 ≤ m ∧ m ≤ 65536 ∧ s12 = .int .i64 k ∧ s4 = .int .i64 m ∧ Hid (cnt m (ls.drop k) = cnt 1 ls)) (fun _ s12 => ls.length - (intOf s12).toNat)
  case atStart => exact ⟨0, 1, Nat.zero_le _, by decide, by decide, rfl, rfl, rfl⟩
  case round =>
    obtain ⟨k, m, hk, m0, m1, rfl, rfl, HM⟩ := hrel
    by_cases hlt : k < ls.length
    · obtain ⟨b, f, rfl, hb, hc⟩ := HX.out k hlt
      have st := cnt_step hlt m
      rw [HM.out, HC.out] at st
      obtain ⟨d, hd⟩ : ∃ d, d = ls.getD k 0 := ⟨_, rfl⟩
      rw [← hd] at st hc
      by_cases g1 : d < 1
      · clear st hd
        go_wp2
        go_ret2
        exact ⟨rfl, rfl⟩
      by_cases g2 : 4096 < d
      · clear st hd
        go_wp2
        go_ret2
        exact ⟨rfl, rfl⟩
      by_cases g3 : 65536 / m < d
      · clear st hd
        go_wp2
        go_ret2
        exact ⟨rfl, rfl⟩
      have g4 : d * m ≤ 65536 := Classical.byContradiction fun g => g3 ((quo_lt m0).2 g)
      rw [if_pos ⟨by omega, by omega, g4⟩] at st
      have m2 : 1 ≤ m * d := by have := Int.mul_le_mul m0 (show 1 ≤ d by omega) (by decide) (by omega); omega
      have m3 : m * d ≤ 65536 := by rw [Int.mul_comm]; omega
      have ST := Lib.hid st
      clear st hd g4
      go_wp2
      refine ⟨⟨k + 1, m * d, by omega, m2, m3, by go_num, rfl, by unfold Hid; rw [← ST.out, HC.out]⟩, by simp [intOf]; omega⟩
    · exfalso
      have := HM.out
      rw [List.drop_eq_nil_of_le (by omega), HC.out] at this
      simp [cnt] at this
      omega

set_option maxRecDepth 100000 in
theorem check_ok (v : Value) (ls : List Int) (w : World) (h : Ld w v ls) (hm : may ls = true) :
    Calls Try.prog 21 #[v] w fun e w' => e = .returned (.int .i64 0) ∧ w = w' := by
  have C := Lib.hid (count_ok v ls w h hm)
  clear h hm
  go_enter Try.func21, Try.ntmps21
  go_wp2_with (go_at_call 10; (with_reducible refine C.out.mono ?_); rintro e w' ⟨rfl, rfl⟩)
  go_ret
  exact ⟨rfl, rfl⟩
set_option maxRecDepth 100000 in
theorem check_no (v : Value) (ls : List Int) (w : World) (h : Ld w v ls) (hm : may ls = false) :
    Calls Try.prog 21 #[v] w fun e w' => e = .returned (.int .i64 1) ∧ w = w' := by
  have C := Lib.hid (count_no v ls w h hm)
  clear h hm
  go_enter Try.func21, Try.ntmps21
  go_wp2_with (go_at_call 10; (with_reducible refine C.out.mono ?_); rintro e w' ⟨rfl, rfl⟩)
  go_ret
  exact ⟨rfl, rfl⟩
end Go.Proofs.Yteplhlmdaabpaaa
