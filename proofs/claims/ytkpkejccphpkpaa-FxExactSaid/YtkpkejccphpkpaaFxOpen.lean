/-
  A list of package fx's statements that came in, opened to the cells of its elements.
-/
import Derived.Test.YtkpkejccphpkpaaOpen
import Derived.Test.YtkpkejccphpkpaaFxE
namespace Go.Proofs.Ytkpkejccphpkpaa
open Go.ChangeShapes Go.WideShapes Go.ChangeAt Go.RowKit Go.Deep

theorem cF : Try.prog.cellsOf 43 = 8 := by kernel_rfl

section
variable {H : Type} {enc : TypeId × Value → H} {w : World} {base : Nat} {spare : Nat → Bool} {held : Bool}
set_option maxRecDepth 100000 in
theorem open_fl {fuel : Nat} {cs : List Value} {x : DataW H × List MemPlace} (h : DataW.trod enc Try.prog w base spare held fuel 43 cs = some x) :
    ∃ e : Fl, e.ok ∧ cs = [.int .i64 e.a, .int .i64 e.b, .int .i64 e.f, .int .i64 e.n, .int .i64 e.d, .int .i64 (hi e.v), .int .u64 (lo e.v), .int .i64 e.k] := by
  obtain ⟨xs, n, _, _, hl, hxl, hf⟩ := DataW.trod_struct Try.underlying43 h
  rw [cF] at hl
  match cs, hl with
  | [v0, v1, v2, v3, v4, v5, v6, v7], _ =>
    have hxl2 : xs.length = 7 := hxl
    match xs, hxl2 with
    | [x0, x1, x2, x3, x4, x5, x6], _ =>
      have h0 : DataW.trod enc Try.prog w base spare held n 2 ((([v0, v1, v2, v3, v4, v5, v6, v7] : List Value).drop 0).take (Try.prog.cellsOf 2)) = some x0 := hf 0 _ rfl
      have h1 : DataW.trod enc Try.prog w base spare held n 2 ((([v0, v1, v2, v3, v4, v5, v6, v7] : List Value).drop 1).take (Try.prog.cellsOf 2)) = some x1 := hf 1 _ rfl
      have h2 : DataW.trod enc Try.prog w base spare held n 3 ((([v0, v1, v2, v3, v4, v5, v6, v7] : List Value).drop 2).take (Try.prog.cellsOf 3)) = some x2 := hf 2 _ rfl
      have h3 : DataW.trod enc Try.prog w base spare held n 2 ((([v0, v1, v2, v3, v4, v5, v6, v7] : List Value).drop 3).take (Try.prog.cellsOf 2)) = some x3 := hf 3 _ rfl
      have h4 : DataW.trod enc Try.prog w base spare held n 2 ((([v0, v1, v2, v3, v4, v5, v6, v7] : List Value).drop 4).take (Try.prog.cellsOf 2)) = some x4 := hf 4 _ rfl
      have h5 : DataW.trod enc Try.prog w base spare held n 25 ((([v0, v1, v2, v3, v4, v5, v6, v7] : List Value).drop 5).take (Try.prog.cellsOf 25)) = some x5 := hf 5 _ rfl
      have h6 : DataW.trod enc Try.prog w base spare held n 3 ((([v0, v1, v2, v3, v4, v5, v6, v7] : List Value).drop 7).take (Try.prog.cellsOf 3)) = some x6 := hf 6 _ rfl
      simp only [cW, c1, c3, List.drop_zero, List.drop_succ_cons, List.take_succ_cons, List.take_zero] at h0 h1 h2 h3 h4 h5 h6
      obtain ⟨a, e0, _, wa⟩ := DataW.trod_int Try.underlying2 h0
      obtain ⟨b, e1, _, wb⟩ := DataW.trod_int Try.underlying2 h1
      obtain ⟨f, e2, _, wf⟩ := DataW.trod_int Try.underlying3 h2
      obtain ⟨m, e3, _, wm⟩ := DataW.trod_int Try.underlying2 h3
      obtain ⟨d, e4, _, wd⟩ := DataW.trod_int Try.underlying2 h4
      obtain ⟨v, rv, e5⟩ := open_wide h5
      obtain ⟨k, e6, _, wk⟩ := DataW.trod_int Try.underlying3 h6
      simp only [List.cons.injEq, and_true] at e0 e1 e2 e3 e4 e5 e6
      obtain ⟨rfl, rfl⟩ := e5
      subst e0 e1 e2 e3 e4 e6
      exact ⟨⟨a, b, f, m, d, v, k⟩, ⟨wf_i64 wa, wf_i64 wb, wf_i64 wf, wf_i64 wm, wf_i64 wd, rv, wf_i64 wk⟩, rfl⟩

/-- The list: nil or empty, or its elements' cells. -/
theorem open_fls {fuel : Nat} {v : Value} {x : DataW H × List MemPlace} (h : DataW.trod enc Try.prog w base spare held fuel 41 [v] = some x) :
    (∃ o cap, v = .slice o 0 cap) ∨ ∃ (b off len cap : Nat) (es : Nat → Fl), v = .slice (some ⟨b, off, none⟩) len cap ∧ len ≤ 9223372036854775807 ∧ b < w.heap.size ∧
      (∀ i, i < len → FlAt w b (off + i * 8) (es i)) ∧ (∀ i, i < len → (es i).ok) := by
  rcases open_slice Try.underlying41 h with ⟨hcs, _⟩ | ⟨a, len, cap, m, n, D, Pl, hcs, _, hl, hm, hmm, _, hi⟩
  · left
    simp only [List.cons.injEq, and_true] at hcs
    exact ⟨_, _, hcs⟩
  · simp only [List.cons.injEq, and_true] at hcs
    subst hcs
    by_cases h0 : len = 0
    · subst h0; exact .inl ⟨_, _, rfl⟩
    right
    have hle : len ≤ m := by rw [hmm]; split <;> omega
    rw [cF] at hi
    have hall : ∀ i, i < len → ∃ e : Fl, e.ok ∧ ∀ j, j < 8 → w.cell? ((a.add (i * 8)).add j) = ([Value.int .i64 e.a, .int .i64 e.b, .int .i64 e.f, .int .i64 e.n, .int .i64 e.d, .int .i64 (Go.Proofs.Ytkpkejccphpkpaa.hi e.v), .int .u64 (lo e.v), .int .i64 e.k] : List Value)[j]? := by
      intro i hik
      obtain ⟨cs', hc, ht⟩ := hi i (by omega)
      obtain ⟨e, he, rfl⟩ := open_fl ht
      exact ⟨e, he, (World.cells?_some hc).2.2⟩
    let es : Nat → Fl := fun i => if h : i < len then (hall i h).choose else ⟨0, 0, 0, 0, 0, 0, 0⟩
    have hes : ∀ i, i < len → (es i).ok ∧ ∀ j, j < 8 → w.cell? ((a.add (i * 8)).add j) = ([Value.int .i64 (es i).a, .int .i64 (es i).b, .int .i64 (es i).f, .int .i64 (es i).n, .int .i64 (es i).d, .int .i64 (Go.Proofs.Ytkpkejccphpkpaa.hi (es i).v), .int .u64 (lo (es i).v), .int .i64 (es i).k] : List Value)[j]? := by
      intro i hik
      have := (hall i hik).choose_spec
      simp only [es, dif_pos hik]
      exact this
    obtain ⟨b, off, spot⟩ := a
    have hspot : spot = none := by
      have := (hes 0 (by omega)).2 0 (by decide)
      simpa [Addr.add] using World.cell?_spot this
    subst hspot
    have cell : ∀ i, i < len → ∀ j, j < 8 → w.cell? ⟨b, off + i * 8 + j, none⟩ = ([Value.int .i64 (es i).a, .int .i64 (es i).b, .int .i64 (es i).f, .int .i64 (es i).n, .int .i64 (es i).d, .int .i64 (Go.Proofs.Ytkpkejccphpkpaa.hi (es i).v), .int .u64 (lo (es i).v), .int .i64 (es i).k] : List Value)[j]? := by
      intro i hik j hj
      rw [← (hes i hik).2 j hj, Go.WideShapes.add_plain, Go.WideShapes.add_plain]
    refine ⟨b, off, len, cap, es, rfl, by unfold maxLen at hm; omega, ?_, fun i hik => ⟨?_, ?_, ?_, ?_, ?_, ?_, ?_, ?_⟩, fun i hik => (hes i hik).1⟩
    · exact World.block_lt_of_cell? w _ (by have := cell 0 (by omega) 0 (by decide); simpa using this)
    · exact cell i hik 0 (by decide)
    · exact cell i hik 1 (by decide)
    · exact cell i hik 2 (by decide)
    · exact cell i hik 3 (by decide)
    · exact cell i hik 4 (by decide)
    · exact cell i hik 5 (by decide)
    · exact cell i hik 6 (by decide)
    · exact cell i hik 7 (by decide)
end
end Go.Proofs.Ytkpkejccphpkpaa
