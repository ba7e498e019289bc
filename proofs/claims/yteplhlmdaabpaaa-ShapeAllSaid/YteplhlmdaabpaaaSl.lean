/-
  Slices of whole numbers: what they read as; blocks of the call's own.
-/
import Derived.Test.YteplhlmdaabpaaaSi
import Derived.WalkKit
import Derived.WalkSpells
import Derived.Lib.Hide
import Derived.LoopTactic
import Derived.Below
import Derived.Laws.OwnMore
import Derived.Deep.AppendLies
import Derived.Deep.Draws
namespace Go.Proofs.Yteplhlmdaabpaaa
open Go.RowKit

/-- What a slice of whole numbers reads as. -/
def Ld (w : World) (v : Value) (ls : List Int) : Prop := ∃ o c, v = .slice o ls.length c ∧ ls.length ≤ c ∧
  ∀ i, i < ls.length → ∃ b f, o = some ⟨b, f, none⟩ ∧ b < w.heap.size ∧ w.cell? ⟨b, f + i, none⟩ = some (.int .i64 (ls.getD i 0))
theorem Ld.keep {w w' : World} {B : Nat} {v : Value} {ls : List Int} (h : Ld w v ls) (hB : w.heap.size ≤ B) (hb : Below B w w') : Ld w' v ls := by
  obtain ⟨o, c, rfl, hc, h⟩ := h
  refine ⟨o, c, rfl, hc, fun i hi => ?_⟩
  obtain ⟨b, f, ho, hl, hx⟩ := h i hi
  exact ⟨b, f, ho, Nat.lt_of_lt_of_le hl hb.size, (hb.cell (p := ⟨b, f + i, none⟩) (Nat.lt_of_lt_of_le hl hB)).trans hx⟩
theorem Ld.below {w w' : World} {v : Value} {ls : List Int} (h : Ld w v ls) (hb : Below w.heap.size w w') : Ld w' v ls := h.keep (Nat.le_refl _) hb
theorem Ld.nil (w : World) : Ld w (.slice none 0 0) [] := ⟨none, 0, rfl, Nat.le_refl _, fun i hi => by simp at hi⟩
/-- The same slice, in an earlier world of which it lay below. -/
theorem Ld.form {w : World} {v : Value} {ls : List Int} (h : Ld w v ls) : ∃ o c, v = .slice o ls.length c ∧ ls.length ≤ c ∧
  ∀ i, i < ls.length → ∃ b f, o = some ⟨b, f, none⟩ ∧ b < w.heap.size ∧ w.cell? ⟨b, f + i, none⟩ = some (.int .i64 (ls.getD i 0)) := h

/-- A block that is known whole. -/
def Blk (w : World) (g : Nat) (t : TypeId) (cs : Array Value) : Prop := w.heap[g]? = some (.cells cs t (0, 0))
section
variable {w w' : World} {g : Nat} {t : TypeId} {cs : Array Value}
theorem Blk.lt (h : Blk w g t cs) : g < w.heap.size := by
  rcases Nat.lt_or_ge g w.heap.size with hlt | hge
  · exact hlt
  · unfold Blk at h; rw [Array.getElem?_eq_none hge] at h; cases h
theorem Blk.cell (h : Blk w g t cs) (i : Nat) : w.cell? ⟨g, i, none⟩ = cs[i]? := cell_of_row w g i cs t (0, 0) h
theorem Blk.frozen (h : Blk w g t cs) (i : Nat) : w.frozen? ⟨g, i, none⟩ = false := by
  unfold Blk at h
  simp [World.frozen?, h]
theorem Blk.new (w : World) (t : TypeId) (cs : Array Value) : Blk (w.alloc (.cells cs t)) w.heap.size t cs := heap_alloc_new w _
theorem Blk.drew (h : Blk w g t cs) : Blk w.drew g t cs := h
theorem Blk.alloc (h : Blk w g t cs) (o : Obj) : Blk (w.alloc o) g t cs := (Below.heap_alloc w o g h.lt).trans h
theorem Blk.set_ (h : Blk w g t cs) (i : Nat) (u : Value) : Blk (w.setCell ⟨g, i, none⟩ u) g t (cs.setIfInBounds i u) := by
  unfold Blk at h ⊢
  simp [World.setCell, Array.getElem?_modify, h]
theorem Blk.far (h : Blk w g t cs) {p : Addr} (hp : g ≠ p.block) (u : Value) : Blk (w.setCell p u) g t cs := (Below.heap_setCell w p u g hp).trans h
theorem Blk.below {B : Nat} (h : Blk w g t cs) (hb : Below B w w') (hg : g < B) : Blk w' g t cs := (hb.block g hg).trans h
end

/-- The cells of a list. -/
def ints (ls : List Int) : List Value := ls.map (Value.int .i64 ·)
theorem ints_at {ls : List Int} {i : Nat} (h : i < ls.length) : (ints ls).toArray[i]? = some (.int .i64 (ls.getD i 0)) := by
  simp [ints, List.getD, List.getElem?_eq_getElem h]
/-- A block that holds a list. -/
theorem Ld.of_blk {w : World} {g : Nat} {t : TypeId} {ls : List Int} (h : Blk w g t (ints ls).toArray) {c : Nat} (hc : ls.length ≤ c) : Ld w (.slice (some ⟨g, 0, none⟩) ls.length c) ls :=
  ⟨_, c, rfl, hc, fun i hi => ⟨g, 0, rfl, h.lt, by rw [Nat.zero_add, h.cell, ints_at hi]⟩⟩
theorem made_ints (n : Nat) : madeCells #[.int .i64 0] n = (ints (List.replicate n 0)).toArray := by
  apply Array.ext
  · simp [madeCells, ints]
  · intro i h1 h2
    simp [madeCells, ints, Nat.mod_one]
theorem ints_set (ls : List Int) (k : Nat) (v : Int) : (ints ls).toArray.setIfInBounds k (.int .i64 v) = (ints (ls.set k v)).toArray := by
  apply Array.ext
  · simp [ints]
  · intro i h1 h2
    by_cases e : k = i
    · subst e; simp [ints]
    · simp only [List.setIfInBounds_toArray, List.getElem_toArray, List.getElem_set, ints, List.getElem_map]
      simp [e]
theorem Blk.put {w : World} {g : Nat} {t : TypeId} {ls : List Int} (h : Blk w g t (ints ls).toArray) (k : Nat) (v : Int) : Blk (w.setCell ⟨g, k, none⟩ (.int .i64 v)) g t (ints (ls.set k v)).toArray := by
  rw [← ints_set]; exact h.set_ k _
theorem set_getD_self {ls : List Int} {k : Nat} {v : Int} (h : k < ls.length) : (ls.set k v).getD k 0 = v := by simp [List.getD, List.getElem?_set_self h]
theorem set_getD_ne {ls : List Int} {k j : Nat} {v : Int} (h : k ≠ j) : (ls.set k v).getD j 0 = ls.getD j 0 := by simp [List.getD, List.getElem?_set_ne h]
end Go.Proofs.Yteplhlmdaabpaaa
