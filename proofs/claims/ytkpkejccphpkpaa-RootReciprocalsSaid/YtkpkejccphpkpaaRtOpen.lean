/-
  A list of package root's statements that came in, opened to the cells of its elements.
-/
import Derived.Test.YtkpkejccphpkpaaOpen
import Derived.Test.YtkpkejccphpkpaaRtE
namespace Go.Proofs.Ytkpkejccphpkpaa
open Go.ChangeShapes Go.WideShapes Go.ChangeAt Go.RowKit Go.Deep

theorem cOne : Try.prog.cellsOf 78 = 2 := by kernel_rfl

section
variable {H : Type} {enc : TypeId × Value → H} {w : World} {base : Nat} {spare : Nat → Bool} {held : Bool}
set_option maxRecDepth 100000 in
theorem open_rl {fuel : Nat} {cs : List Value} {x : DataW H × List MemPlace} (h : DataW.trod enc Try.prog w base spare held fuel 78 cs = some x) :
    ∃ e : Rl, e.ok ∧ cs = [.int .i64 e.a, .int .i64 e.f] := by
  obtain ⟨xs, n, _, _, hl, hxl, hf⟩ := DataW.trod_struct Try.underlying78 h
  rw [cOne] at hl
  match cs, hl with
  | [v0, v1], _ =>
    have hxl2 : xs.length = 2 := hxl
    match xs, hxl2 with
    | [x0, x1], _ =>
      have h0 : DataW.trod enc Try.prog w base spare held n 2 ((([v0, v1] : List Value).drop 0).take (Try.prog.cellsOf 2)) = some x0 := hf 0 _ rfl
      have h1 : DataW.trod enc Try.prog w base spare held n 3 ((([v0, v1] : List Value).drop 1).take (Try.prog.cellsOf 3)) = some x1 := hf 1 _ rfl
      simp only [c1, c3, List.drop_zero, List.drop_succ_cons, List.take_succ_cons, List.take_zero] at h0 h1
      obtain ⟨a, e0, _, wa⟩ := DataW.trod_int Try.underlying2 h0
      obtain ⟨f, e1, _, wf⟩ := DataW.trod_int Try.underlying3 h1
      simp only [List.cons.injEq, and_true] at e0 e1
      subst e0 e1
      exact ⟨⟨a, f⟩, ⟨wf_i64 wa, wf_i64 wf⟩, rfl⟩

/-- The list: nil or empty, or its elements' cells. -/
theorem open_rls {fuel : Nat} {v : Value} {x : DataW H × List MemPlace} (h : DataW.trod enc Try.prog w base spare held fuel 76 [v] = some x) :
    (∃ o cap, v = .slice o 0 cap) ∨ ∃ (b off len cap : Nat) (es : Nat → Rl), v = .slice (some ⟨b, off, none⟩) len cap ∧ len ≤ 9223372036854775807 ∧ b < w.heap.size ∧
      (∀ i, i < len → RlAt w b (off + i * 2) (es i)) ∧ (∀ i, i < len → (es i).ok) := by
  rcases open_slice Try.underlying76 h with ⟨hcs, _⟩ | ⟨a, len, cap, m, n, D, Pl, hcs, _, hl, hm, hmm, _, hi⟩
  · left
    simp only [List.cons.injEq, and_true] at hcs
    exact ⟨_, _, hcs⟩
  · simp only [List.cons.injEq, and_true] at hcs
    subst hcs
    by_cases h0 : len = 0
    · subst h0; exact .inl ⟨_, _, rfl⟩
    right
    have hle : len ≤ m := by rw [hmm]; split <;> omega
    rw [cOne] at hi
    have hall : ∀ i, i < len → ∃ e : Rl, e.ok ∧ ∀ j, j < 2 → w.cell? ((a.add (i * 2)).add j) = ([Value.int .i64 e.a, .int .i64 e.f] : List Value)[j]? := by
      intro i hik
      obtain ⟨cs', hc, ht⟩ := hi i (by omega)
      obtain ⟨e, he, rfl⟩ := open_rl ht
      exact ⟨e, he, (World.cells?_some hc).2.2⟩
    let es : Nat → Rl := fun i => if h : i < len then (hall i h).choose else ⟨0, 0⟩
    have hes : ∀ i, i < len → (es i).ok ∧ ∀ j, j < 2 → w.cell? ((a.add (i * 2)).add j) = ([Value.int .i64 (es i).a, .int .i64 (es i).f] : List Value)[j]? := by
      intro i hik
      have := (hall i hik).choose_spec
      simp only [es, dif_pos hik]
      exact this
    obtain ⟨b, off, spot⟩ := a
    have hspot : spot = none := by
      have := (hes 0 (by omega)).2 0 (by decide)
      simpa [Addr.add] using World.cell?_spot this
    subst hspot
    have cell : ∀ i, i < len → ∀ j, j < 2 → w.cell? ⟨b, off + i * 2 + j, none⟩ = ([Value.int .i64 (es i).a, .int .i64 (es i).f] : List Value)[j]? := by
      intro i hik j hj
      rw [← (hes i hik).2 j hj, Go.WideShapes.add_plain, Go.WideShapes.add_plain]
    refine ⟨b, off, len, cap, es, rfl, by unfold maxLen at hm; omega, ?_, fun i hik => ⟨?_, ?_⟩, fun i hik => (hes i hik).1⟩
    · exact World.block_lt_of_cell? w _ (by have := cell 0 (by omega) 0 (by decide); simpa using this)
    · exact cell i hik 0 (by decide)
    · exact cell i hik 1 (by decide)
end
end Go.Proofs.Ytkpkejccphpkpaa
