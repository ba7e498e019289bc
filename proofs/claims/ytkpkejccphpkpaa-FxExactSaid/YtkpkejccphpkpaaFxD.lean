/-
  Sums and differences of words.
-/
import Derived.Test.YtkpkejccphpkpaaFxA
namespace Go.Proofs.Ytkpkejccphpkpaa
open Go.RowKit

theorem way_plus (w : World) : Calls Try.prog 111 #[.int .i64 0] w fun e w' => e = .returned (.func (.func 130) #[] #[]) ∧ w = w' := by
  go_enter Try.func111, Try.ntmps111
  go_wp2
  go_ret
  exact ⟨rfl, rfl⟩

theorem way_less (w : World) : Calls Try.prog 111 #[.int .i64 1] w fun e w' => e = .returned (.func (.func 131) #[] #[]) ∧ w = w' := by
  go_enter Try.func111, Try.ntmps111
  go_wp2
  go_ret
  exact ⟨rfl, rfl⟩

theorem way_times (w : World) : Calls Try.prog 111 #[.int .i64 2] w fun e w' => e = .returned (.func (.func 132) #[] #[]) ∧ w = w' := by
  go_enter Try.func111, Try.ntmps111
  go_wp2
  go_ret
  exact ⟨rfl, rfl⟩

theorem way_over (w : World) : Calls Try.prog 111 #[.int .i64 3] w fun e w' => e = .returned (.func (.func 133) #[] #[]) ∧ w = w' := by
  go_enter Try.func111, Try.ntmps111
  go_wp2
  go_ret
  exact ⟨rfl, rfl⟩

/-- fx.reckon, handed what is no word or no count of fraction bits -/
theorem reckon_form (o a b f : Int) (w : World) (h : (wd a && wd b && fb f) = false) : Calls Try.prog 80 #[.int .i64 o, .int .i64 a, .int .i64 b, .int .i64 f] w fun e w' => e = .returned (.tuple #[.int .i64 (0), .int .i64 (1)]) ∧ w = w' := by
  cases ga : wd a with
  | false =>
    have CA := fun W : World => check_any a W
    rw [ga] at CA
    have CA := Lib.hid CA
    clear h ga
    go_enter Try.func80, Try.ntmps80
    go_wp2_with (go_at_call 21; (with_reducible refine (CA.out _).mono ?_); rintro e w' ⟨rfl, rfl⟩)
    go_ret2
    exact ⟨rfl, rfl⟩
  | true =>
  cases gb : wd b with
  | false =>
    have CA := fun W : World => check_any a W
    rw [ga] at CA
    have CA := Lib.hid CA
    have CB := fun W : World => check_any b W
    rw [gb] at CB
    have CB := Lib.hid CB
    clear h ga gb
    go_enter Try.func80, Try.ntmps80
    go_wp2_with (first | (go_at_call 21; (with_reducible refine (CA.out _).mono ?_); rintro e w' ⟨rfl, rfl⟩) | (go_at_call 21; (with_reducible refine (CB.out _).mono ?_); rintro e w' ⟨rfl, rfl⟩))
    go_ret2
    exact ⟨rfl, rfl⟩
  | true =>
    have gf : fb f = false := by rw [ga, gb] at h; simpa using h
    have CA := fun W : World => check_any a W
    rw [ga] at CA
    have CA := Lib.hid CA
    have CB := fun W : World => check_any b W
    rw [gb] at CB
    have CB := Lib.hid CB
    have CF := fun W : World => checkf_any f W
    rw [gf] at CF
    have CF := Lib.hid CF
    clear h ga gb gf
    go_enter Try.func80, Try.ntmps80
    go_wp2_with (first | (go_at_call 21; (with_reducible refine (CA.out _).mono ?_); rintro e w' ⟨rfl, rfl⟩) | (go_at_call 21; (with_reducible refine (CB.out _).mono ?_); rintro e w' ⟨rfl, rfl⟩) | (go_at_call 22; (with_reducible refine (CF.out _).mono ?_); rintro e w' ⟨rfl, rfl⟩))
    go_ret2
    exact ⟨rfl, rfl⟩

theorem reckon_plus (a b f : Int) (w : World) (ga : wd a = true) (gb : wd b = true) (gf : fb f = true) : Calls Try.prog 80 #[.int .i64 0, .int .i64 a, .int .i64 b, .int .i64 f] w fun e w' => e = .returned (.tuple #[.int .i64 (tw (a + b)), .int .i64 (te (a + b))]) ∧ w = w' := by
  have WC := Lib.hid (fun W : World => wordplus_any a b f W ga gb)
  have CA := fun W : World => check_any a W
  rw [ga] at CA
  have CA := Lib.hid CA
  have CB := fun W : World => check_any b W
  rw [gb] at CB
  have CB := Lib.hid CB
  have CF := fun W : World => checkf_any f W
  rw [gf] at CF
  have CF := Lib.hid CF
  clear ga gb gf
  go_enter Try.func80, Try.ntmps80
  go_wp2_with (first | (go_at_call 21; (with_reducible refine (CA.out _).mono ?_); rintro e w' ⟨rfl, rfl⟩) | (go_at_call 21; (with_reducible refine (CB.out _).mono ?_); rintro e w' ⟨rfl, rfl⟩) | (go_at_call 22; (with_reducible refine (CF.out _).mono ?_); rintro e w' ⟨rfl, rfl⟩) | (go_at_call 111; (with_reducible refine (way_plus _).mono ?_); rintro e w' ⟨rfl, rfl⟩) | (go_at_call 130; (with_reducible refine (WC.out _).mono ?_); rintro e w' ⟨rfl, rfl⟩))
  go_ret2
  exact ⟨rfl, rfl⟩

theorem reckon_less (a b f : Int) (w : World) (ga : wd a = true) (gb : wd b = true) (gf : fb f = true) : Calls Try.prog 80 #[.int .i64 1, .int .i64 a, .int .i64 b, .int .i64 f] w fun e w' => e = .returned (.tuple #[.int .i64 (tw (a - b)), .int .i64 (te (a - b))]) ∧ w = w' := by
  have WC := Lib.hid (fun W : World => wordless_any a b f W ga gb)
  have CA := fun W : World => check_any a W
  rw [ga] at CA
  have CA := Lib.hid CA
  have CB := fun W : World => check_any b W
  rw [gb] at CB
  have CB := Lib.hid CB
  have CF := fun W : World => checkf_any f W
  rw [gf] at CF
  have CF := Lib.hid CF
  clear ga gb gf
  go_enter Try.func80, Try.ntmps80
  go_wp2_with (first | (go_at_call 21; (with_reducible refine (CA.out _).mono ?_); rintro e w' ⟨rfl, rfl⟩) | (go_at_call 21; (with_reducible refine (CB.out _).mono ?_); rintro e w' ⟨rfl, rfl⟩) | (go_at_call 22; (with_reducible refine (CF.out _).mono ?_); rintro e w' ⟨rfl, rfl⟩) | (go_at_call 111; (with_reducible refine (way_less _).mono ?_); rintro e w' ⟨rfl, rfl⟩) | (go_at_call 131; (with_reducible refine (WC.out _).mono ?_); rintro e w' ⟨rfl, rfl⟩))
  go_ret2
  exact ⟨rfl, rfl⟩

theorem fxadd_form (a b : Int) (w : World) (h : (wd a && wd b) = false) : Calls Try.prog 29 #[.int .i64 a, .int .i64 b] w fun e w' => e = .returned (.tuple #[.int .i64 (0), .int .i64 (1)]) ∧ w = w' := by
  have C := Lib.hid (fun W : World => reckon_form 0 a b 8 W (by rw [h]; rfl))
  clear h
  go_enter Try.func29, Try.ntmps29
  go_wp2_with (go_at_call 80; (with_reducible refine (C.out _).mono ?_); rintro e w' ⟨rfl, rfl⟩)
  go_ret2
  exact ⟨rfl, rfl⟩
theorem fxadd_any (a b : Int) (w : World) (ga : wd a = true) (gb : wd b = true) : Calls Try.prog 29 #[.int .i64 a, .int .i64 b] w fun e w' => e = .returned (.tuple #[.int .i64 (tw (a + b)), .int .i64 (te (a + b))]) ∧ w = w' := by
  have C := fun W : World => reckon_plus a b 8 W ga gb rfl

  have C := Lib.hid C
  clear ga gb
  go_enter Try.func29, Try.ntmps29
  go_wp2_with (go_at_call 80; (with_reducible refine (C.out _).mono ?_); rintro e w' ⟨rfl, rfl⟩)
  go_ret2
  exact ⟨rfl, rfl⟩

theorem fxsub_form (a b : Int) (w : World) (h : (wd a && wd b) = false) : Calls Try.prog 31 #[.int .i64 a, .int .i64 b] w fun e w' => e = .returned (.tuple #[.int .i64 (0), .int .i64 (1)]) ∧ w = w' := by
  have C := Lib.hid (fun W : World => reckon_form 1 a b 8 W (by rw [h]; rfl))
  clear h
  go_enter Try.func31, Try.ntmps31
  go_wp2_with (go_at_call 80; (with_reducible refine (C.out _).mono ?_); rintro e w' ⟨rfl, rfl⟩)
  go_ret2
  exact ⟨rfl, rfl⟩
theorem fxsub_any (a b : Int) (w : World) (ga : wd a = true) (gb : wd b = true) : Calls Try.prog 31 #[.int .i64 a, .int .i64 b] w fun e w' => e = .returned (.tuple #[.int .i64 (tw (a - b)), .int .i64 (te (a - b))]) ∧ w = w' := by
  have C := fun W : World => reckon_less a b 8 W ga gb rfl

  have C := Lib.hid C
  clear ga gb
  go_enter Try.func31, Try.ntmps31
  go_wp2_with (go_at_call 80; (with_reducible refine (C.out _).mono ?_); rintro e w' ⟨rfl, rfl⟩)
  go_ret2
  exact ⟨rfl, rfl⟩

theorem fxneg_form (a : Int) (w : World) (h : (wd a) = false) : Calls Try.prog 32 #[.int .i64 a] w fun e w' => e = .returned (.tuple #[.int .i64 (0), .int .i64 (1)]) ∧ w = w' := by
  have C := Lib.hid (fun W : World => reckon_form 1 0 a 8 W (by rw [show wd 0 = true from rfl, h]; rfl))
  clear h
  go_enter Try.func32, Try.ntmps32
  go_wp2_with (go_at_call 80; (with_reducible refine (C.out _).mono ?_); rintro e w' ⟨rfl, rfl⟩)
  go_ret2
  exact ⟨rfl, rfl⟩
theorem fxneg_any (a : Int) (w : World) (ga : wd a = true) : Calls Try.prog 32 #[.int .i64 a] w fun e w' => e = .returned (.tuple #[.int .i64 (tw ( - a)), .int .i64 (te ( - a))]) ∧ w = w' := by
  have C := fun W : World => reckon_less 0 a 8 W rfl ga rfl
  rw [Int.zero_sub] at C
  have C := Lib.hid C
  clear ga
  go_enter Try.func32, Try.ntmps32
  go_wp2_with (go_at_call 80; (with_reducible refine (C.out _).mono ?_); rintro e w' ⟨rfl, rfl⟩)
  go_ret2
  exact ⟨rfl, rfl⟩
end Go.Proofs.Ytkpkejccphpkpaa
