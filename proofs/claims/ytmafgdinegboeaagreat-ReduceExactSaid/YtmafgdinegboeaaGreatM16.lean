/-
  What is played; told tensors as lists; small slices just laid.
-/
import Derived.BigQuiet
import Derived.Test.YtmafgdinegboeaaGreatM13
import Derived.Test.YtmafgdinegboeaaGreatM15
namespace Go.Proofs.YtmafgdinegboeaaGreat
open Go.RowKit Go.Shelf

/-- More words than are played? -/
def hv8 (m : Int) (s d : List Int) : Bool := decide (m < d.length) || decide (8 < s.length)
theorem hv8_no {m : Int} {s d : List Int} (h : hv8 m s d = false) : (d.length : Int) ≤ m ∧ s.length ≤ 8 := by
  unfold hv8 at h
  simp only [Bool.or_eq_false_iff, decide_eq_false_iff_not] at h
  omega
set_option maxRecDepth 100000 in
set_option maxHeartbeats 2000000 in
theorem heavy8_any (va vb : Value) (s d : List Int) (m : Int) (w : World) (ha : Ld w va s) (hb : Ld w vb d) (l1 : s.length ≤ 9223372036854775807) (_l2 : d.length ≤ 9223372036854775807) :
    Calls Tryz.prog 31 #[.agg #[va, vb], .int .i64 m] w fun e w' => e = .returned (.bool (hv8 m s d)) ∧ Below w.heap.size w w' := by
  obtain ⟨os, cs, rfl, _, _⟩ := ha
  obtain ⟨od, cd, rfl, _, _⟩ := hb
  obtain ⟨Q, hQ⟩ : ∃ Q, Q = hv8 m s d := ⟨_, rfl⟩
  rw [← hQ]
  unfold hv8 at hQ
  generalize s.length = ns at *
  generalize d.length = nd at *
  have hB0 : Below w.heap.size w (w.alloc (.cells #[.slice os ns cs, .slice od nd cd] 26)) := (Below.refl _ _).alloc (Nat.le_refl _) _
  by_cases g1 : m < nd
  · have E : Hid (Q = true) := by rw [hQ, decide_eq_true g1]; exact Lib.hid rfl
    clear hQ
    go_enter Tryz.func31, Tryz.ntmps31
    go_wp2
    go_ret
    exact ⟨by rw [E.out]; first | rfl | (show Ending.returned (.bool _) = _; congr 2; simp; omega), hB0⟩
  · by_cases g2 : 8 < ns
    · have E : Hid (Q = true) := by rw [hQ, decide_eq_true g2]; exact Lib.hid (by simp)
      clear hQ
      go_enter Tryz.func31, Tryz.ntmps31
      go_wp2
      go_ret
      exact ⟨by rw [E.out]; first | rfl | (show Ending.returned (.bool _) = _; congr 2; simp; omega), hB0⟩
    · have E : Hid (Q = false) := by rw [hQ, decide_eq_false g1, decide_eq_false g2]; exact Lib.hid rfl
      clear hQ
      go_enter Tryz.func31, Tryz.ntmps31
      go_wp2
      go_ret
      exact ⟨by rw [E.out]; first | rfl | (show Ending.returned (.bool _) = _; congr 2; simp; omega), hB0⟩
/-- A told tensor reads as its lists. -/
theorem someT_ld {w W : World} {er : Int} {sh ds : List Int} {e : Ending} (h : SomeT w er sh ds e W) : ∃ vs vd, e = .returned (.tuple #[.agg #[vs, vd], .int .i64 er]) ∧ Ld W vs sh ∧ Ld W vd ds ∧ Below w.heap.size w W := by
  obtain ⟨os, cs, od, cd, rfl, h1, h2, hb⟩ := h
  obtain ⟨_, _, e1, h3⟩ := Ld.of_owns h1
  obtain ⟨_, _, e2, h4⟩ := Ld.of_owns h2
  simp only [Value.slice.injEq] at e1 e2
  obtain ⟨rfl, _, rfl⟩ := e1
  obtain ⟨rfl, _, rfl⟩ := e2
  exact ⟨_, _, rfl, h3, h4, hb⟩
theorem ld2 {W : World} {n : Nat} {t : TypeId} {x y : Int} (h : W.heap.size = n) : Ld (W.alloc (.cells #[.int .i64 x, .int .i64 y] t)) (.slice (some ⟨n, 0, none⟩) 2 2) [x, y] := by
  subst h; exact Ld.of_blk (ls := [x, y]) (Blk.new W t _) (Nat.le_refl _)
theorem al_below {W : World} (o : Obj) : Below W.heap.size W (W.alloc o) := (Below.refl _ _).alloc (Nat.le_refl _) o
end Go.Proofs.YtmafgdinegboeaaGreat
