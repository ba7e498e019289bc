/-
  The roots' example.
-/
import Derived.Test.YtkpkejccphpkpaaRootB
import Derived.Test.YtkpkejccphpkpaaRtE
import Derived.Test.YtkpkejccphpkpaaFxG
namespace Go.Proofs.Ytkpkejccphpkpaa
open Go.RowKit
theorem rwakes_any (w : World) : Calls Try.prog 55 #[] w fun e w' => e = .returned (.bool true) ∧ Below w.heap.size w w' := by
  have hr : Nr (512 * 2 ^ (8 + 2)) 362 := ⟨by decide, by decide, fun _ => by decide⟩
  have SC := Lib.hid (fun W : World => sqrt_any 512 362 8 W rfl (by decide) rfl hr)
  have SC := Lib.hid (show ∀ W : World, Calls Try.prog 58 #[.int .i64 512, .int .i64 8] W fun e w' => e = .returned (.tuple #[.int .i64 362, .int .i64 0]) ∧ Below W.heap.size W w' from SC.out)
  clear hr
  go_enter Try.func55, Try.ntmps55
  go_wp2_with (first | (go_at_call 58; (with_reducible refine (SC.out _).mono ?_); rintro e w1 ⟨rfl, hb1⟩) | (go_at_call 54; (with_reducible refine (num3_any _ _).mono ?_); rintro e w' ⟨rfl, rfl⟩))
  go_ret
  exact ⟨rfl, hb1⟩
end Go.Proofs.Ytkpkejccphpkpaa
