/-
  A list of shapes and indexes that came in, opened to the cells of its elements.
-/
import Derived.Test.YteplhlmdaabpaaaSk
import Derived.Deep.Slices
import Derived.Deep.Fields
import Derived.ProofKit
import Derived.Carry
namespace Go.Proofs.Yteplhlmdaabpaaa
open Go.ChangeShapes Go.WideShapes Go.ChangeAt Go.RowKit Go.Deep

theorem Try.own : ownKnob Try.prog.godebug = none := by kernel_rfl
theorem Try.laidOut : laidOutB Try.prog = true := by kernel_rfl
theorem s_i64 {x : Int} (h : (Lit.int .i64 x).wf = true) : -9223372036854775808 ≤ x ∧ x ≤ 9223372036854775807 := by
  simp [Lit.wf, IntKind.min, IntKind.max, IntKind.signed, IntKind.bits] at h
  exact ⟨by omega, by omega⟩
theorem cS1 : Try.prog.cellsOf 23 = 1 := by kernel_rfl
theorem cS2 : Try.prog.cellsOf 3 = 1 := by kernel_rfl
theorem cS4 : Try.prog.cellsOf 25 = 4 := by kernel_rfl

/-- An element: three lists and a place. -/
structure Tw where
  S : Value
  T : Value
  I : Value
  s : List Int
  t : List Int
  i : List Int
  n : Int
def Tw.ok (w : World) (e : Tw) : Prop := Ld w e.S e.s ∧ Ld w e.T e.t ∧ Ld w e.I e.i ∧ e.s.length ≤ 9223372036854775807 ∧ e.t.length ≤ 9223372036854775807 ∧ e.i.length ≤ 9223372036854775807 ∧ -9223372036854775808 ≤ e.n ∧ e.n ≤ 9223372036854775807
def TwAt (w : World) (b p : Nat) (e : Tw) : Prop := w.cell? ⟨b, p, none⟩ = some e.S ∧ w.cell? ⟨b, p + 1, none⟩ = some e.T ∧ w.cell? ⟨b, p + 2, none⟩ = some e.I ∧ w.cell? ⟨b, p + 3, none⟩ = some (.int .i64 e.n)
theorem TwAt.below {w W : World} {b p : Nat} {e : Tw} (h : TwAt w b p e) (hB : Below w.heap.size w W) (hb : b < w.heap.size) : TwAt W b p e :=
  ⟨(hB.cell (p := ⟨b, p, none⟩) hb).trans h.1, (hB.cell (p := ⟨b, p + 1, none⟩) hb).trans h.2.1, (hB.cell (p := ⟨b, p + 2, none⟩) hb).trans h.2.2.1, (hB.cell (p := ⟨b, p + 3, none⟩) hb).trans h.2.2.2⟩

section
variable {H : Type} {enc : TypeId × Value → H} {w : World} {base : Nat} {spare : Nat → Bool} {held : Bool}
set_option maxRecDepth 100000 in
theorem open_ints {fuel : Nat} {v : Value} {x : DataW H × List MemPlace} (h : DataW.trod enc Try.prog w base spare held fuel 23 [v] = some x) : ∃ ls, Ld w v ls ∧ ls.length ≤ 9223372036854775807 := by
  rcases open_slice1 Try.underlying23 cS2 h with ⟨hcs, _⟩ | ⟨a, len, cap, m, n, V, D, Pl, hcs, _, hl, hm, hmm, _, hi⟩
  · simp only [List.cons.injEq, and_true] at hcs
    subst hcs
    exact ⟨[], Ld.nil w, by simp⟩
  · simp only [List.cons.injEq, and_true] at hcs
    subst hcs
    have hle : len ≤ m := by rw [hmm]; split <;> omega
    have hall : ∀ i, i < len → ∃ y : Int, w.cell? (a.add i) = some (.int .i64 y) := by
      intro i hik
      obtain ⟨hc, ht⟩ := hi i (by omega)
      obtain ⟨y, e0, _, _⟩ := DataW.trod_int Try.underlying3 ht
      simp only [List.cons.injEq, and_true] at e0
      exact ⟨y, by rw [hc, e0]⟩
    let ys : Nat → Int := fun i => if h : i < len then (hall i h).choose else 0
    have hys : ∀ i, i < len → w.cell? (a.add i) = some (.int .i64 (ys i)) := by
      intro i hik
      have := (hall i hik).choose_spec
      simp only [ys, dif_pos hik]
      exact this
    have hlen : ((List.range len).map ys).length = len := by simp
    refine ⟨(List.range len).map ys, ⟨some a, cap, by rw [hlen], by rw [hlen]; exact hl, fun i hi2 => ?_⟩, by rw [hlen]; unfold maxLen at hm; omega⟩
    rw [hlen] at hi2
    obtain ⟨b, off, spot⟩ := a
    have hc := hys i hi2
    have hspot : spot = none := by simpa [Addr.add] using World.cell?_spot (hys 0 (by omega))
    subst hspot
    rw [Go.WideShapes.add_plain] at hc
    have hg : ((List.range len).map ys).getD i 0 = ys i := by simp [List.getD, hi2]
    exact ⟨b, off, rfl, World.block_lt_of_cell? w _ hc, by rw [hg]; exact hc⟩

set_option maxRecDepth 100000 in
theorem open_tw {fuel : Nat} {cs : List Value} {x : DataW H × List MemPlace} (h : DataW.trod enc Try.prog w base spare held fuel 25 cs = some x) :
    ∃ e : Tw, e.ok w ∧ cs = [e.S, e.T, e.I, .int .i64 e.n] := by
  obtain ⟨xs, n, _, _, hl, hxl, hf⟩ := DataW.trod_struct Try.underlying25 h
  rw [cS4] at hl
  match cs, hl with
  | [v0, v1, v2, v3], _ =>
    have hxl2 : xs.length = 4 := hxl
    match xs, hxl2 with
    | [x0, x1, x2, x3], _ =>
      have h0 : DataW.trod enc Try.prog w base spare held n 23 ((([v0, v1, v2, v3] : List Value).drop 0).take (Try.prog.cellsOf 23)) = some x0 := hf 0 _ rfl
      have h1 : DataW.trod enc Try.prog w base spare held n 23 ((([v0, v1, v2, v3] : List Value).drop 1).take (Try.prog.cellsOf 23)) = some x1 := hf 1 _ rfl
      have h2 : DataW.trod enc Try.prog w base spare held n 23 ((([v0, v1, v2, v3] : List Value).drop 2).take (Try.prog.cellsOf 23)) = some x2 := hf 2 _ rfl
      have h3 : DataW.trod enc Try.prog w base spare held n 3 ((([v0, v1, v2, v3] : List Value).drop 3).take (Try.prog.cellsOf 3)) = some x3 := hf 3 _ rfl
      simp only [cS1, cS2, List.drop_zero, List.drop_succ_cons, List.take_succ_cons, List.take_zero] at h0 h1 h2 h3
      obtain ⟨s, hs, ls⟩ := open_ints h0
      obtain ⟨t, ht, lt⟩ := open_ints h1
      obtain ⟨i, hi, li⟩ := open_ints h2
      obtain ⟨y, e3, _, wy⟩ := DataW.trod_int Try.underlying3 h3
      simp only [List.cons.injEq, and_true] at e3
      subst e3
      exact ⟨⟨v0, v1, v2, s, t, i, y⟩, ⟨hs, ht, hi, ls, lt, li, s_i64 wy⟩, rfl⟩

/-- The list: nil or empty, or its elements' cells. -/
theorem open_tws {fuel : Nat} {v : Value} {x : DataW H × List MemPlace} (h : DataW.trod enc Try.prog w base spare held fuel 22 [v] = some x) :
    (∃ o cap, v = .slice o 0 cap) ∨ ∃ (b off len cap : Nat) (es : Nat → Tw), v = .slice (some ⟨b, off, none⟩) len cap ∧ len ≤ 9223372036854775807 ∧ b < w.heap.size ∧
      (∀ i, i < len → TwAt w b (off + i * 4) (es i)) ∧ (∀ i, i < len → (es i).ok w) := by
  rcases open_slice Try.underlying22 h with ⟨hcs, _⟩ | ⟨a, len, cap, m, n, D, Pl, hcs, _, hl, hm, hmm, _, hi⟩
  · left
    simp only [List.cons.injEq, and_true] at hcs
    exact ⟨_, _, hcs⟩
  · simp only [List.cons.injEq, and_true] at hcs
    subst hcs
    by_cases h0 : len = 0
    · subst h0; exact .inl ⟨_, _, rfl⟩
    right
    have hle : len ≤ m := by rw [hmm]; split <;> omega
    rw [cS4] at hi
    have hall : ∀ i, i < len → ∃ e : Tw, e.ok w ∧ ∀ j, j < 4 → w.cell? ((a.add (i * 4)).add j) = ([e.S, e.T, e.I, .int .i64 e.n] : List Value)[j]? := by
      intro i hik
      obtain ⟨cs', hc, ht⟩ := hi i (by omega)
      obtain ⟨e, he, rfl⟩ := open_tw ht
      exact ⟨e, he, (World.cells?_some hc).2.2⟩
    let es : Nat → Tw := fun i => if h : i < len then (hall i h).choose else ⟨.bool false, .bool false, .bool false, [], [], [], 0⟩
    have hes : ∀ i, i < len → (es i).ok w ∧ ∀ j, j < 4 → w.cell? ((a.add (i * 4)).add j) = ([(es i).S, (es i).T, (es i).I, .int .i64 (es i).n] : List Value)[j]? := by
      intro i hik
      have := (hall i hik).choose_spec
      simp only [es, dif_pos hik]
      exact this
    obtain ⟨b, off, spot⟩ := a
    have hspot : spot = none := by
      have := (hes 0 (by omega)).2 0 (by decide)
      simpa [Addr.add] using World.cell?_spot this
    subst hspot
    have cell : ∀ i, i < len → ∀ j, j < 4 → w.cell? ⟨b, off + i * 4 + j, none⟩ = ([(es i).S, (es i).T, (es i).I, .int .i64 (es i).n] : List Value)[j]? := by
      intro i hik j hj
      rw [← (hes i hik).2 j hj, Go.WideShapes.add_plain, Go.WideShapes.add_plain]
    refine ⟨b, off, len, cap, es, rfl, by unfold maxLen at hm; omega, ?_, fun i hik => ⟨?_, ?_, ?_, ?_⟩, fun i hik => (hes i hik).1⟩
    · exact World.block_lt_of_cell? w _ (by have := cell 0 (by omega) 0 (by decide); simpa using this)
    · exact cell i hik 0 (by decide)
    · exact cell i hik 1 (by decide)
    · exact cell i hik 2 (by decide)
    · exact cell i hik 3 (by decide)
end

set_option maxRecDepth 100000 in
set_option maxHeartbeats 2000000 in
theorem long_any (oS oT oI : Option Addr) (ls lt li cS cT cI : Nat) (n : Int) (w : World) (h1 : ls ≤ 9223372036854775807) (h2 : lt ≤ 9223372036854775807) (h3 : li ≤ 9223372036854775807) (B : Bool) (hB : B = (decide (12 < ls) || decide (12 < lt) || decide (12 < li))) :
    Calls Try.prog 8 #[.agg #[.slice oS ls cS, .slice oT lt cT, .slice oI li cI, .int .i64 n]] w fun e w' => e = .returned (.bool B) ∧ w.alloc (.cells #[.slice oS ls cS, .slice oT lt cT, .slice oI li cI, .int .i64 n] 25) = w' := by
  have HB : Hid (B = (decide (12 < (ls : Int)) || decide (12 < (lt : Int)) || decide (12 < (li : Int)))) := by
    rw [Hid, hB]; simp only [Bool.or_assoc]; congr 1
    · simp
      omega
    · congr 1 <;> (simp; omega)
  clear hB
  go_enter Try.func8, Try.ntmps8
  go_wp2
  all_goals
    go_ret
    refine ⟨?_, rfl⟩
    rw [HB.out]
    first
      | rfl
      | (show Ending.returned (.bool _) = _; congr 2; simp; omega)
end Go.Proofs.Yteplhlmdaabpaaa
