/-
  What ShapeExact's round carries from call to call: a copy of the shape, too.
-/
import Derived.Test.YteplhlmdaabpaaaSp
namespace Go.Proofs.Yteplhlmdaabpaaa
open Go.RowKit

/-- The world w2 with the element boxed and the copy v made, and further. -/
def Oc (wr : World) (S T I : Value) (n : Int) (w2 : World) (v : Value) (s : List Int) (W : World) : Prop := On wr S T I n w2 ∧ Ld w2 v s ∧ Below w2.heap.size w2 W
section
variable {wr w2 W W' : World} {S T I v : Value} {n : Int} {s : List Int}
theorem Oc.start (h : On wr S T I n w2) (hv : Ld w2 v s) : Oc wr S T I n w2 v s w2 := ⟨h, hv, Below.refl _ _⟩
theorem Oc.on (h : Oc wr S T I n w2 v s W) : On wr S T I n W := h.1.next h.2.2
theorem Oc.ld (h : Oc wr S T I n w2 v s W) : Ld W v s := h.2.1.below h.2.2
theorem Oc.below (h : Oc wr S T I n w2 v s W) : Below wr.heap.size wr W := h.on.below
theorem Oc.size (h : Oc wr S T I n w2 v s W) : w2.heap.size ≤ W.heap.size := h.2.2.size
theorem Oc.next (h : Oc wr S T I n w2 v s W) (hb : Below W.heap.size W W') : Oc wr S T I n w2 v s W' := ⟨h.1, h.2.1, h.2.2.trans (hb.mono h.2.2.size)⟩
theorem Oc.grown {g : Nat} (h : Oc wr S T I n w2 v s W) (hg : W.grownBy W' (some g)) (hl : w2.heap.size ≤ g) : Oc wr S T I n w2 v s W' :=
  ⟨h.1, h.2.1, h.2.2.grown hg h.2.2.size (fun k e => by cases e; exact hl)⟩
end
theorem Blk.on {w w' : World} {g : Nat} {t : TypeId} {cs : Array Value} (h : Blk w g t cs) (hb : Below w.heap.size w w') : Blk w' g t cs := h.below hb h.lt
theorem ld_len {W : World} {g : Nat} {t : TypeId} {L : List Int} {n : Nat} (h : Blk W g t (ints L).toArray) (hl : L.length = n) : Ld W (.slice (some ⟨g, 0, none⟩) n n) L := by
  subst hl; exact Ld.of_blk h (Nat.le_refl _)
theorem numbers_len {W : World} {g : Nat} {L : List Int} {n : Nat} (h : Blk W g 3 (ints L).toArray) (hl : L.length = n) (h4 : n ≤ 65536) :
    Calls Try.prog 25 #[.slice (some ⟨g, 0, none⟩) n n] W fun e w' => e = .returned (.tuple #[]) ∧ W.grownBy w' (some g) := by
  subst hl; exact numbers_any g L W h h4
end Go.Proofs.Yteplhlmdaabpaaa
