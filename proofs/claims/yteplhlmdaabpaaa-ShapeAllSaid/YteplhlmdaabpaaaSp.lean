/-
  What the shape laws' rounds carry from call to call.
-/
import Derived.Test.YteplhlmdaabpaaaSd
import Derived.Test.YteplhlmdaabpaaaSj
import Derived.Test.YteplhlmdaabpaaaSo
import Derived.Test.YteplhlmdaabpaaaSn
namespace Go.Proofs.Yteplhlmdaabpaaa
open Go.RowKit

/-- The box of an element. -/
def Bx (w : World) (B : Nat) (S T I : Value) (n : Int) : Prop := w.cell? ⟨B, 0, none⟩ = some S ∧ w.cell? ⟨B, 1, none⟩ = some T ∧ w.cell? ⟨B, 2, none⟩ = some I ∧ w.cell? ⟨B, 3, none⟩ = some (.int .i64 n)
/-- The world wr with the element boxed, and further. -/
def On (wr : World) (S T I : Value) (n : Int) (W : World) : Prop := Bx W wr.heap.size S T I n ∧ Below wr.heap.size wr W ∧ wr.heap.size < W.heap.size
theorem On.start (wr : World) (S T I : Value) (n : Int) (t : TypeId) : On wr S T I n (wr.alloc (.cells #[S, T, I, .int .i64 n] t)) := by
  have h := Blk.new wr t #[S, T, I, .int .i64 n]
  exact ⟨⟨h.cell 0, h.cell 1, h.cell 2, h.cell 3⟩, (Below.refl _ _).alloc (Nat.le_refl _) _, by simp⟩
theorem On.next {wr W W' : World} {S T I : Value} {n : Int} (h : On wr S T I n W) (hb : Below W.heap.size W W') : On wr S T I n W' := by
  obtain ⟨⟨a, b, c, d⟩, e, f⟩ := h
  exact ⟨⟨(hb.cell (p := ⟨_, 0, none⟩) f).trans a, (hb.cell (p := ⟨_, 1, none⟩) f).trans b, (hb.cell (p := ⟨_, 2, none⟩) f).trans c, (hb.cell (p := ⟨_, 3, none⟩) f).trans d⟩, e.trans (hb.mono e.size), Nat.lt_of_lt_of_le f hb.size⟩
theorem On.alloc {wr W : World} {S T I : Value} {n : Int} (h : On wr S T I n W) (o : Obj) : On wr S T I n (W.alloc o) := h.next ((Below.refl _ _).alloc (Nat.le_refl _) o)
theorem On.below {wr W : World} {S T I : Value} {n : Int} (h : On wr S T I n W) : Below wr.heap.size wr W := h.2.1

/-- Spread's answers, of any two lists. -/
def sxe (a b : List Int) : Int := if (may a && may b) = true then spe a b else 1
def sxv (a b : List Int) : List Int := if (may a && may b) = true then spv a b else []
theorem sxe_sym (a b : List Int) : sxe a b = sxe b a := by unfold sxe; rw [Bool.and_comm, spe_sym]
theorem sxv_sym (a b : List Int) : sxv a b = sxv b a := by unfold sxv; rw [Bool.and_comm, spv_sym]
theorem sxv_len (a b : List Int) : (sxv a b).length ≤ 4 := by
  unfold sxv
  split
  · rename_i h
    simp only [Bool.and_eq_true] at h
    exact spv_len (may_len h.1) (may_len h.2)
  · simp
theorem spreadx_any (va vb : Value) (a b : List Int) (w : World) (ha : Ld w va a) (hb : Ld w vb b) :
    Calls Try.prog 27 #[va, vb] w (SomeL w (sxe a b) (sxv a b)) := by
  cases h : (may a && may b) with
  | false =>
    refine (spread_no va vb a b w ha hb h).mono ?_
    rintro e w' ⟨rfl, rfl⟩
    unfold sxe sxv
    rw [h]
    exact ⟨_, rfl, Ld.nil _, Below.refl _ _⟩
  | true =>
    have h2 := h
    simp only [Bool.and_eq_true] at h2
    unfold sxe sxv
    rw [if_pos h, if_pos h]
    exact spread_any va vb a b w ha hb h2.1 h2.2
theorem long_below (oS oT oI : Option Addr) (ls lt li cS cT cI : Nat) (n : Int) (w : World) (h1 : ls ≤ 9223372036854775807) (h2 : lt ≤ 9223372036854775807) (h3 : li ≤ 9223372036854775807) (B : Bool) (hB : B = (decide (12 < ls) || decide (12 < lt) || decide (12 < li))) :
    Calls Try.prog 8 #[.agg #[.slice oS ls cS, .slice oT lt cT, .slice oI li cI, .int .i64 n]] w fun e w' => e = .returned (.bool B) ∧ Below w.heap.size w w' := by
  refine (long_any oS oT oI ls lt li cS cT cI n w h1 h2 h3 B hB).mono ?_
  rintro e w' ⟨rfl, rfl⟩
  exact ⟨rfl, (Below.refl _ _).alloc (Nat.le_refl _) _⟩
end Go.Proofs.Yteplhlmdaabpaaa
