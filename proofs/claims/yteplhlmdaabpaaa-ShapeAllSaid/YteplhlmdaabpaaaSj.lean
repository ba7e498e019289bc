/-
  shape.Under.
-/
import Derived.Test.YteplhlmdaabpaaaSe
import Derived.Test.YteplhlmdaabpaaaSf
namespace Go.Proofs.Yteplhlmdaabpaaa
open Go.RowKit

set_option maxRecDepth 100000 in
set_option maxHeartbeats 4000000 in
theorem spreads_any (vs vt : Value) (s t : List Int) (w : World) (hs : Ld w vs s) (ht : Ld w vt t) (ms : may s = true) (mt : may t = true) :
    Calls Try.prog 38 #[vs, vt] w fun e w' => e = .returned (.bool (goes s t)) ∧ w = w' := by
  have ls := may_len ms
  have lt := may_len mt
  have OA := Lib.hid (fun (j : Nat) (j1 : 1 ≤ j) (j2 : j ≤ 1073741824) => over_any vs s w hs (by omega) j j1 j2)
  obtain ⟨os, cs, rfl, _, _⟩ := hs
  obtain ⟨ot, ct, rfl, _, hxt⟩ := ht
  have HT := Lib.hid hxt
  have E : Hid (goes s t = (decide (s.length ≤ t.length) && gN s t t.length)) := goes_is ms mt
  clear hxt ms mt
  by_cases h0 : t.length < s.length
  · have E0 : Hid (goes s t = false) := by
      rw [Hid, E.out]
      have : ¬ s.length ≤ t.length := by omega
      simp [this]
    go_enter Try.func38, Try.ntmps38
    go_wp2
    go_ret
    exact ⟨by rw [E0.out]; rfl, rfl⟩
  · have E1 : Hid (goes s t = gN s t t.length) := by
      rw [Hid, E.out]
      have : s.length ≤ t.length := by omega
      simp [this]
    clear E
    have HO : Hid (∀ k, k < t.length → ov t (t.length - k) = t.getD k 0) := fun k hk => ov_at hk
    have HG : Hid (gN s t t.length = true ↔ ∀ j, 1 ≤ j → j ≤ t.length → ov s j = 1 ∨ ov s j = ov t j) := gN_iff s t t.length
    generalize hn : t.length = n at *
    clear hn
    go_enter Try.func38, Try.ntmps38
    go_wp2
    go_loop [15] (fun s15 => ∃ k : Nat, k ≤ n ∧ s15 = .int .i64 k ∧ Hid (∀ j, n - k < j → j ≤ n → ov s j = 1 ∨ ov s j = ov t j)) (fun s15 => n - (intOf s15).toNat)
    case atStart => exact ⟨0, Nat.zero_le _, rfl, fun j h1 h2 => by omega⟩
    case round =>
      obtain ⟨k, hk, rfl, HK⟩ := hrel
      by_cases hlt : k < n
      · obtain ⟨b, f, rfl, hb, hc⟩ := HT.out k hlt
        obtain ⟨j, hj⟩ : ∃ j, j = n - k := ⟨_, rfl⟩
        have ej : (n : Int) - (k : Int) = (j : Int) := by omega
        have O1 := Lib.hid (OA.out j (by omega) (by omega))
        have ho := HO.out k hlt
        rw [← hj] at ho
        rw [← ho] at hc
        have HY : Hid (ov s j = 1 ∨ ov s j = ov t j → ∀ i, n - (k + 1) < i → i ≤ n → ov s i = 1 ∨ ov s i = ov t i) := fun g i h1 h2 => by
          by_cases e : i = j
          · subst e; exact g
          · exact HK.out i (by omega) h2
        have HN : Hid (¬ (ov s j = 1 ∨ ov s j = ov t j) → gN s t n = false) := fun g => by
          cases h : gN s t n with
          | false => rfl
          | true => exact absurd (HG.out.1 h j (by omega) (by omega)) g
        clear ho
        generalize ov s j = x at *
        generalize ov t j = d at *
        have HJ := Lib.hid hj
        clear hj
        by_cases g1 : x = 1
        · subst g1
          have R := Lib.hid (HY.out (.inl rfl))
          go_wp2_with (go_at_call 37; (with_reducible refine O1.out.mono ?_); rintro e w' ⟨rfl, rfl⟩)
          refine ⟨⟨k + 1, by omega, by go_num, R⟩, by simp [intOf]; omega⟩
        have b1 : (x != 1) = true := by rw [bne_iff_ne]; exact g1
        by_cases g2 : x = d
        · subst g2
          have R := Lib.hid (HY.out (.inr rfl))
          clear g1
          go_wp2_with (go_at_call 37; (with_reducible refine O1.out.mono ?_); rintro e w' ⟨rfl, rfl⟩)
          refine ⟨⟨k + 1, by omega, by go_num, R⟩, by simp [intOf]; omega⟩
        have b2 : (x != d) = true := by rw [bne_iff_ne]; exact g2
        have R := Lib.hid (HN.out (fun h => h.elim g1 g2))
        clear g1 g2
        go_wp2_with (go_at_call 37; (with_reducible refine O1.out.mono ?_); rintro e w' ⟨rfl, rfl⟩)
        go_ret
        exact ⟨by rw [E1.out, R.out]; rfl, rfl⟩
      · have R : Hid (gN s t n = true) := HG.out.2 fun j h1 h2 => HK.out j (by omega) h2
        go_wp2
        go_ret
        exact ⟨by rw [E1.out, R.out]; rfl, rfl⟩

set_option maxRecDepth 100000 in
set_option maxHeartbeats 2000000 in
theorem under_ok (vs vt vi : Value) (s t i : List Int) (w : World) (hs : Ld w vs s) (ht : Ld w vt t) (hi : Ld w vi i) (ms : may s = true) (mt : may t = true) (hg : goes s t = true) (hx : inx t i = true) :
    Calls Try.prog 30 #[vs, vt, vi] w fun e w' => e = .returned (.tuple #[.int .i64 (und s i), .int .i64 0]) ∧ w = w' := by
  have hl := inx_len hx
  have l4 := may_len mt
  have hst : s.length ≤ t.length := by
    have := hg
    rw [goes_is ms mt] at this
    simp only [Bool.and_eq_true, decide_eq_true_eq] at this
    exact this.1
  have CS := Lib.hid (check_ok vs s w hs ms)
  have CT := Lib.hid (check_ok vt t w ht mt)
  have G := Lib.hid (spreads_any vs vt s t w hs ht ms mt)
  have W := Lib.hid (within_any vi vt i t w hi ht (by omega))
  have U := Lib.hid (under_any vs vi s i w hs hi ms (by omega) (by omega) (under_inx ms mt hg hx))
  rw [hx] at W
  rw [hg] at G
  clear hs ht hi ms mt hg hx hl l4 hst
  go_enter Try.func30, Try.ntmps30
  go_wp2_with (first | (go_at_call 21; (with_reducible refine CS.out.mono ?_); rintro e w' ⟨rfl, rfl⟩) | (go_at_call 21; (with_reducible refine CT.out.mono ?_); rintro e w' ⟨rfl, rfl⟩) | (go_at_call 38; (with_reducible refine G.out.mono ?_); rintro e w' ⟨rfl, rfl⟩) | (go_at_call 34; (with_reducible refine W.out.mono ?_); rintro e w' ⟨rfl, rfl⟩) | (go_at_call 35; (with_reducible refine U.out.mono ?_); rintro e w' ⟨rfl, rfl⟩))
  go_ret2
  exact ⟨rfl, rfl⟩
set_option maxRecDepth 100000 in
set_option maxHeartbeats 2000000 in
theorem under_far (vs vt vi : Value) (s t i : List Int) (w : World) (hs : Ld w vs s) (ht : Ld w vt t) (hi : Ld w vi i) (ms : may s = true) (mt : may t = true) (hg : (goes s t && inx t i) = false) :
    Calls Try.prog 30 #[vs, vt, vi] w fun e w' => e = .returned (.tuple #[.int .i64 0, .int .i64 2]) ∧ w = w' := by
  have l4 := may_len mt
  have CS := Lib.hid (check_ok vs s w hs ms)
  have CT := Lib.hid (check_ok vt t w ht mt)
  have G := Lib.hid (spreads_any vs vt s t w hs ht ms mt)
  have W := Lib.hid (within_any vi vt i t w hi ht (by omega))
  cases g : goes s t with
  | false =>
    rw [g] at G
    clear hs ht hi ms mt hg l4 g
    go_enter Try.func30, Try.ntmps30
    go_wp2_with (first | (go_at_call 21; (with_reducible refine CS.out.mono ?_); rintro e w' ⟨rfl, rfl⟩) | (go_at_call 21; (with_reducible refine CT.out.mono ?_); rintro e w' ⟨rfl, rfl⟩) | (go_at_call 38; (with_reducible refine G.out.mono ?_); rintro e w' ⟨rfl, rfl⟩))
    go_ret2
    exact ⟨rfl, rfl⟩
  | true =>
    have hx : inx t i = false := by rw [g, Bool.true_and] at hg; exact hg
    rw [g] at G
    rw [hx] at W
    clear hs ht hi ms mt hg l4 g hx
    go_enter Try.func30, Try.ntmps30
    go_wp2_with (first | (go_at_call 21; (with_reducible refine CS.out.mono ?_); rintro e w' ⟨rfl, rfl⟩) | (go_at_call 21; (with_reducible refine CT.out.mono ?_); rintro e w' ⟨rfl, rfl⟩) | (go_at_call 38; (with_reducible refine G.out.mono ?_); rintro e w' ⟨rfl, rfl⟩) | (go_at_call 34; (with_reducible refine W.out.mono ?_); rintro e w' ⟨rfl, rfl⟩))
    go_ret2
    exact ⟨rfl, rfl⟩
set_option maxRecDepth 100000 in
set_option maxHeartbeats 2000000 in
theorem under_no (vs vt vi : Value) (s t : List Int) (w : World) (hs : Ld w vs s) (ht : Ld w vt t) (hm : (may s && may t) = false) :
    Calls Try.prog 30 #[vs, vt, vi] w fun e w' => e = .returned (.tuple #[.int .i64 0, .int .i64 1]) ∧ w = w' := by
  cases ms : may s with
  | false =>
    have C := Lib.hid (check_no vs s w hs ms)
    clear hs ht hm ms
    go_enter Try.func30, Try.ntmps30
    go_wp2_with (go_at_call 21; (with_reducible refine C.out.mono ?_); rintro e w' ⟨rfl, rfl⟩)
    go_ret2
    exact ⟨rfl, rfl⟩
  | true =>
    have mt : may t = false := by rw [ms, Bool.true_and] at hm; exact hm
    have C := Lib.hid (check_ok vs s w hs ms)
    have D := Lib.hid (check_no vt t w ht mt)
    clear hs ht hm ms mt
    go_enter Try.func30, Try.ntmps30
    go_wp2_with (first | (go_at_call 21; (with_reducible refine C.out.mono ?_); rintro e w' ⟨rfl, rfl⟩) | (go_at_call 21; (with_reducible refine D.out.mono ?_); rintro e w' ⟨rfl, rfl⟩))
    go_ret2
    exact ⟨rfl, rfl⟩
end Go.Proofs.Yteplhlmdaabpaaa
