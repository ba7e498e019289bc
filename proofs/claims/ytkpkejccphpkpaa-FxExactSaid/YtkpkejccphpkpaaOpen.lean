/-
  A list of pairs that came in, opened to the cells of its elements.
-/
import Derived.Test.YtkpkejccphpkpaaLawA
import Derived.Deep.Slices
import Derived.Deep.Fields
import Derived.ProofKit
import Derived.Carry
namespace Go.Proofs.Ytkpkejccphpkpaa
open Go.ChangeShapes Go.WideShapes Go.ChangeAt Go.RowKit Go.Deep

theorem Try.own : ownKnob Try.prog.godebug = none := by kernel_rfl
theorem Try.laidOut : laidOutB Try.prog = true := by kernel_rfl
theorem wf_u64 {x : Int} (h : (Lit.int .u64 x).wf = true) : 0 ≤ x ∧ x ≤ 18446744073709551615 := by
  simp [Lit.wf, IntKind.min, IntKind.max, IntKind.signed, IntKind.bits] at h
  exact ⟨by omega, by omega⟩
theorem wf_i64 {x : Int} (h : (Lit.int .i64 x).wf = true) : -9223372036854775808 ≤ x ∧ x ≤ 9223372036854775807 := by
  simp [Lit.wf, IntKind.min, IntKind.max, IntKind.signed, IntKind.bits] at h
  exact ⟨by omega, by omega⟩
theorem c1 : Try.prog.cellsOf 2 = 1 := by kernel_rfl
theorem c2 : Try.prog.cellsOf 23 = 1 := by kernel_rfl
theorem c3 : Try.prog.cellsOf 3 = 1 := by kernel_rfl
theorem cW : Try.prog.cellsOf 25 = 2 := by kernel_rfl
theorem cT : Try.prog.cellsOf 27 = 7 := by kernel_rfl

section
variable {H : Type} {enc : TypeId × Value → H} {w : World} {base : Nat} {spare : Nat → Bool} {held : Bool}
set_option maxRecDepth 100000 in
theorem open_wide {fuel : Nat} {cs : List Value} {x : DataW H × List MemPlace} (h : DataW.trod enc Try.prog w base spare held fuel 25 cs = some x) : ∃ a, R a ∧ cs = [.int .i64 (hi a), .int .u64 (lo a)] := by
  obtain ⟨xs, n, _, _, hl, hxl, hf⟩ := DataW.trod_struct Try.underlying25 h
  rw [cW] at hl
  match cs, hl with
  | [u, v], _ =>
    have hxl2 : xs.length = 2 := hxl
    match xs, hxl2 with
    | [x0, x1], _ =>
      have h0 : DataW.trod enc Try.prog w base spare held n 2 ((([u, v] : List Value).drop 0).take (Try.prog.cellsOf 2)) = some x0 := hf 0 _ rfl
      have h1 : DataW.trod enc Try.prog w base spare held n 23 ((([u, v] : List Value).drop 1).take (Try.prog.cellsOf 23)) = some x1 := hf 1 _ rfl
      simp only [c1, c2, List.drop_zero, List.drop_succ_cons, List.take_succ_cons, List.take_zero] at h0 h1
      obtain ⟨hh, e0, _, w0⟩ := DataW.trod_int Try.underlying2 h0
      obtain ⟨ll, e1, _, w1⟩ := DataW.trod_int Try.underlying23 h1
      simp only [List.cons.injEq, and_true] at e0 e1
      subst e0 e1
      obtain ⟨l0, l1⟩ := wf_u64 w1
      obtain ⟨h2, h3⟩ := wf_i64 w0
      refine ⟨hh * 18446744073709551616 + ll, ⟨?_, ?_⟩, ?_⟩
      · rw [hi_mk _ _ l0 l1]; exact h2
      · rw [hi_mk _ _ l0 l1]; exact h3
      · rw [hi_mk _ _ l0 l1, lo_mk _ _ l0 l1]

set_option maxRecDepth 100000 in
theorem open_two {fuel : Nat} {cs : List Value} {x : DataW H × List MemPlace} (h : DataW.trod enc Try.prog w base spare held fuel 27 cs = some x) :
    ∃ e : El, e.ok ∧ cs = [.int .i64 (hi e.a), .int .u64 (lo e.a), .int .i64 (hi e.b), .int .u64 (lo e.b), .int .i64 e.x, .int .i64 e.y, .int .i64 e.n] := by
  obtain ⟨xs, n, _, _, hl, hxl, hf⟩ := DataW.trod_struct Try.underlying27 h
  rw [cT] at hl
  match cs, hl with
  | [v0, v1, v2, v3, v4, v5, v6], _ =>
    have hxl2 : xs.length = 5 := hxl
    match xs, hxl2 with
    | [x0, x1, x2, x3, x4], _ =>
      have h0 : DataW.trod enc Try.prog w base spare held n 25 ((([v0, v1, v2, v3, v4, v5, v6] : List Value).drop 0).take (Try.prog.cellsOf 25)) = some x0 := hf 0 _ rfl
      have h1 : DataW.trod enc Try.prog w base spare held n 25 ((([v0, v1, v2, v3, v4, v5, v6] : List Value).drop 2).take (Try.prog.cellsOf 25)) = some x1 := hf 1 _ rfl
      have h2 : DataW.trod enc Try.prog w base spare held n 2 ((([v0, v1, v2, v3, v4, v5, v6] : List Value).drop 4).take (Try.prog.cellsOf 2)) = some x2 := hf 2 _ rfl
      have h3 : DataW.trod enc Try.prog w base spare held n 2 ((([v0, v1, v2, v3, v4, v5, v6] : List Value).drop 5).take (Try.prog.cellsOf 2)) = some x3 := hf 3 _ rfl
      have h4 : DataW.trod enc Try.prog w base spare held n 3 ((([v0, v1, v2, v3, v4, v5, v6] : List Value).drop 6).take (Try.prog.cellsOf 3)) = some x4 := hf 4 _ rfl
      simp only [cW, c1, c3, List.drop_zero, List.drop_succ_cons, List.take_succ_cons, List.take_zero] at h0 h1 h2 h3 h4
      obtain ⟨a, ra, e0⟩ := open_wide h0
      obtain ⟨b, rb, e1⟩ := open_wide h1
      obtain ⟨x, e2, _, wx⟩ := DataW.trod_int Try.underlying2 h2
      obtain ⟨y, e3, _, wy⟩ := DataW.trod_int Try.underlying2 h3
      obtain ⟨m, e4, _, wm⟩ := DataW.trod_int Try.underlying3 h4
      simp only [List.cons.injEq, and_true] at e0 e1 e2 e3 e4
      obtain ⟨rfl, rfl⟩ := e0
      obtain ⟨rfl, rfl⟩ := e1
      subst e2 e3 e4
      exact ⟨⟨a, b, x, y, m⟩, ⟨ra, rb, wf_i64 wx, wf_i64 wy, wf_i64 wm⟩, rfl⟩

/-- The list: nil or empty, or its elements' cells. -/
theorem open_list {fuel : Nat} {v : Value} {x : DataW H × List MemPlace} (h : DataW.trod enc Try.prog w base spare held fuel 22 [v] = some x) :
    (∃ o cap, v = .slice o 0 cap) ∨ ∃ (b off len cap : Nat) (es : Nat → El), v = .slice (some ⟨b, off, none⟩) len cap ∧ len ≤ 9223372036854775807 ∧ b < w.heap.size ∧
      (∀ i, i < len → TwoAt w b (off + i * 7) (es i)) ∧ (∀ i, i < len → (es i).ok) := by
  rcases open_slice Try.underlying22 h with ⟨hcs, _⟩ | ⟨a, len, cap, m, n, D, Pl, hcs, _, hl, hm, hmm, _, hi⟩
  · left
    simp only [List.cons.injEq, and_true] at hcs
    exact ⟨_, _, hcs⟩
  · simp only [List.cons.injEq, and_true] at hcs
    subst hcs
    by_cases h0 : len = 0
    · subst h0; exact .inl ⟨_, _, rfl⟩
    right
    have hle : len ≤ m := by rw [hmm]; split <;> omega
    rw [cT] at hi
    have hall : ∀ i, i < len → ∃ e : El, e.ok ∧ ∀ j, j < 7 → w.cell? ((a.add (i * 7)).add j) = [Value.int .i64 (Go.Proofs.Ytkpkejccphpkpaa.hi e.a), .int .u64 (lo e.a), .int .i64 (Go.Proofs.Ytkpkejccphpkpaa.hi e.b), .int .u64 (lo e.b), .int .i64 e.x, .int .i64 e.y, .int .i64 e.n][j]? := by
      intro i hik
      obtain ⟨cs', hc, ht⟩ := hi i (by omega)
      obtain ⟨e, he, rfl⟩ := open_two ht
      exact ⟨e, he, (World.cells?_some hc).2.2⟩
    let es : Nat → El := fun i => if h : i < len then (hall i h).choose else ⟨0, 0, 0, 0, 0⟩
    have hes : ∀ i, i < len → (es i).ok ∧ ∀ j, j < 7 → w.cell? ((a.add (i * 7)).add j) = [Value.int .i64 (Go.Proofs.Ytkpkejccphpkpaa.hi (es i).a), .int .u64 (lo (es i).a), .int .i64 (Go.Proofs.Ytkpkejccphpkpaa.hi (es i).b), .int .u64 (lo (es i).b), .int .i64 (es i).x, .int .i64 (es i).y, .int .i64 (es i).n][j]? := by
      intro i hik
      have := (hall i hik).choose_spec
      simp only [es, dif_pos hik]
      exact this
    obtain ⟨b, off, spot⟩ := a
    have hspot : spot = none := by
      have := (hes 0 (by omega)).2 0 (by decide)
      simpa [Addr.add] using World.cell?_spot this
    subst hspot
    have cell : ∀ i, i < len → ∀ j, j < 7 → w.cell? ⟨b, off + i * 7 + j, none⟩ = [Value.int .i64 (Go.Proofs.Ytkpkejccphpkpaa.hi (es i).a), .int .u64 (lo (es i).a), .int .i64 (Go.Proofs.Ytkpkejccphpkpaa.hi (es i).b), .int .u64 (lo (es i).b), .int .i64 (es i).x, .int .i64 (es i).y, .int .i64 (es i).n][j]? := by
      intro i hik j hj
      rw [← (hes i hik).2 j hj, Go.WideShapes.add_plain, Go.WideShapes.add_plain]
    refine ⟨b, off, len, cap, es, rfl, by unfold maxLen at hm; omega, ?_, fun i hik => ⟨?_, ?_, ?_, ?_, ?_, ?_, ?_⟩, fun i hik => (hes i hik).1⟩
    · exact World.block_lt_of_cell? w _ (by have := cell 0 (by omega) 0 (by decide); simpa using this)
    · exact cell i hik 0 (by decide)
    · exact cell i hik 1 (by decide)
    · exact cell i hik 2 (by decide)
    · exact cell i hik 3 (by decide)
    · exact cell i hik 4 (by decide)
    · exact cell i hik 5 (by decide)
    · exact cell i hik 6 (by decide)
end
end Go.Proofs.Ytkpkejccphpkpaa
