/-
  Shapes as lists of whole numbers: counts, strides, indexes, places; plain mathematics.
  Shapes as lists of whole numbers: steps of an index, spread shapes, what stands under an index; plain mathematics.
  Reducing, in numbers: what is left of a shape, where a place goes, sums by places.
  Greatest words by places, and where they stand: plain mathematics.
  Reducing, in numbers: axes, rising; a shape with ones for its axes; where an index stands under it.
  Slices of whole numbers: what they read as; blocks of the call's own.
  shape.Count and shape.Check.
  shape.Index: an index within a shape, the place under it.
  slices.Backward over whole numbers: the iterator's contract, for every loop body that keeps the slice.
  shape.Strides.
  shape.Spread.
  shape.Under.
  The laws' own helpers: lists held against one another, copied, written over; numbers brought within bounds.
  Lists of words: alike? all words?
  The program's look for numbers that are no words.
  Views as lists of whole numbers: where an index stands; plain mathematics.
  Views as lists of whole numbers: which may be; axes; what transposed, sliced, widened, reshaped views are; plain mathematics.
  Lists held against one another, looked through, cloned: slices.Index, Contains, Equal, Clone; the reference's In.
  view.stays, Check.
  shape.Strides where it refuses; shape.At.
  view.areAll, sameCount, plain, Of.
  A range over a function whose iterator tells something of each element besides: what the element's memory holds when it is handed over.
  shape.All: the copy, the function value.
  A range over a function whose iterator ranges over a function itself: it is told what a round leaves as it lay.
  shape.All over any list; its iterator, whose round may write whatever but the boxes and the copy.
  view.Transpose.
  view.places: where a view's indexes stand, one behind the other.
  A region that draws its order of evaluation, within a round of a loop over an iterator: as outside of one, where no statement defers.
  The reference's Transpose.
  view.Slice.
  The reference's Slice.
  The reference's shapes: counts, what may be, strides, places, indexes.
  The reference's shapes: places and indexes, spread shapes.
  The reference's shapes: spread shapes, what stands under an index.
  view.Widen.
  view.Copy.
  Whole numbers of 128 bits, as a wide number's two halves: hi a and lo a of a whole number a.
  What the calls of package wide do, said of whole numbers: the small ones.
-/
import Derived.Test.YtocoedpmcognpaaRows
import Derived.WalkKit
import Derived.WalkSpells
import Derived.Lib.Hide
import Derived.LoopTactic
import Derived.Below
import Derived.Laws.OwnMore
import Derived.Deep.AppendLies
import Derived.Deep.Draws
import Derived.RangeFuncNested
import Derived.RangeFuncBound
import Derived.RangeFuncCalls
import Derived.RangeFuncLeaves
import Derived.RangeFuncBox
import Derived.Shelf.Abstract
import Derived.Shelf.RegionOpen
import Derived.OwnWalkIn
import Derived.TacticsInMore
import Derived.LoopNIn
import Derived.LoopIn
import Derived.Maps.AppendAt
import Derived.Laws.MakeOwn
import Derived.OwnWalk
import Derived.Outline
import Derived.WalkMore
import Derived.Deep.QuietTactic
import Derived.BigQuiet
import Derived.Laws.AppendOwn
import Derived.Lib.SliceRun
import Derived.RegionIn
import Derived.BigRegionIn
import Derived.Deep.RegionHeld3
import Derived.Deep.DrawnRows
import Derived.Deep.DeepCutAuto
import Derived.OrdersIn
import Derived.IntWalk
import Derived.StillTactics
import Derived.Laws.Pointers
import Derived.Laws.Externs
import Derived.Shelf.Spec.BitsCarry
import Derived.RowKit3
namespace Go.Proofs.Ytocoedpmcognpaa

def prod : List Int → Int
  | [] => 1
  | d :: r => d * prod r
/-- c times the dimensions, as far as each is one and the product is not too great; else 0. -/
def cnt (c : Int) : List Int → Int
  | [] => c
  | d :: r => if 1 ≤ d ∧ d ≤ 4096 ∧ d * c ≤ 65536 then cnt (c * d) r else 0
def may (ls : List Int) : Bool := decide (ls.length ≤ 4) && decide (cnt 1 ls ≠ 0)
/-- All from 1 to 4096. -/
def dms (ls : List Int) : Prop := ∀ d ∈ ls, 1 ≤ d ∧ d ≤ 4096
def pos (ls : List Int) : Prop := ∀ d ∈ ls, 1 ≤ d

theorem drop_getD {ls : List Int} {i : Nat} (h : i < ls.length) : ls.drop i = ls.getD i 0 :: ls.drop (i + 1) := by
  rw [List.drop_eq_getElem_cons h]; simp [List.getD, List.getElem?_eq_getElem h]
theorem getD_mem {ls : List Int} {i : Nat} (h : i < ls.length) : ls.getD i 0 ∈ ls := by
  simp [List.getD, List.getElem?_eq_getElem h]
theorem dms_pos {ls : List Int} (h : dms ls) : pos ls := fun d hd => (h d hd).1
theorem prod_pos : ∀ {ls : List Int}, pos ls → 1 ≤ prod ls
  | [], _ => Int.le_refl _
  | d :: r, h => by
    have h1 := h d (List.mem_cons_self ..)
    have h2 := prod_pos (ls := r) fun x hx => h x (List.mem_cons_of_mem _ hx)
    have := Int.mul_le_mul h1 h2 (by decide) (by omega)
    simpa [prod] using this
theorem cnt_cases : ∀ (ls : List Int) (c : Int), 1 ≤ c → c ≤ 65536 → cnt c ls = 0 ∨ (1 ≤ cnt c ls ∧ cnt c ls ≤ 65536 ∧ cnt c ls = c * prod ls ∧ dms ls)
  | [], c, h0, h1 => .inr ⟨h0, h1, by simp [cnt, prod], fun d hd => by cases hd⟩
  | d :: r, c, h0, h1 => by
    unfold cnt
    split
    · rename_i h
      obtain ⟨a, b, g⟩ := h
      have h2 := Int.mul_le_mul h0 a (by decide) (by omega)
      rw [Int.mul_comm] at g
      rcases cnt_cases r (c * d) (by omega) g with k | ⟨k1, k2, k3, k4⟩
      · exact .inl k
      · refine .inr ⟨k1, k2, by rw [k3, prod, Int.mul_assoc], fun x hx => ?_⟩
        rcases List.mem_cons.1 hx with rfl | hx
        · exact ⟨a, b⟩
        · exact k4 x hx
    · exact .inl rfl
theorem cnt_of : ∀ (ls : List Int) (c : Int), 1 ≤ c → dms ls → c * prod ls ≤ 65536 → cnt c ls = c * prod ls
  | [], c, _, _, _ => by simp [cnt, prod]
  | d :: r, c, h0, h, hp => by
    have h1 := h d (List.mem_cons_self ..)
    have hr : dms r := fun x hx => h x (List.mem_cons_of_mem _ hx)
    have h3 := prod_pos (dms_pos hr)
    have e : c * prod (d :: r) = c * d * prod r := by rw [prod, Int.mul_assoc]
    have h2 := Int.mul_le_mul h0 h1.1 (by decide) (by omega)
    have h4 := Int.mul_le_mul_of_nonneg_left h3 (show 0 ≤ c * d by omega)
    rw [e] at hp ⊢
    unfold cnt
    rw [if_pos ⟨h1.1, h1.2, by rw [Int.mul_comm]; omega⟩]
    exact cnt_of r (c * d) (by omega) hr hp
theorem may_iff (ls : List Int) : may ls = true ↔ ls.length ≤ 4 ∧ dms ls ∧ prod ls ≤ 65536 := by
  unfold may
  simp only [Bool.and_eq_true, decide_eq_true_eq]
  constructor
  · rintro ⟨a, b⟩
    rcases cnt_cases ls 1 (by decide) (by decide) with h | ⟨_, h2, h3, h4⟩
    · exact absurd h b
    · exact ⟨a, h4, by omega⟩
  · rintro ⟨a, b, c⟩
    refine ⟨a, ?_⟩
    rw [cnt_of ls 1 (by decide) b (by omega)]
    have := prod_pos (dms_pos b)
    omega
theorem may_cnt {ls : List Int} (h : may ls = true) : cnt 1 ls = prod ls := by
  obtain ⟨_, b, c⟩ := (may_iff ls).1 h
  rw [cnt_of ls 1 (by decide) b (by omega), Int.one_mul]
theorem may_prod {ls : List Int} (h : may ls = true) : 1 ≤ prod ls ∧ prod ls ≤ 65536 := by
  obtain ⟨_, b, c⟩ := (may_iff ls).1 h
  exact ⟨prod_pos (dms_pos b), c⟩
theorem may_len {ls : List Int} (h : may ls = true) : ls.length ≤ 4 := ((may_iff ls).1 h).1
theorem may_dms {ls : List Int} (h : may ls = true) : dms ls := ((may_iff ls).1 h).2.1
theorem may_no {ls : List Int} (h : may ls = false) : 4 < ls.length ∨ cnt 1 ls = 0 := by
  unfold may at h
  simp only [Bool.and_eq_false_iff, decide_eq_false_iff_not] at h
  rcases h with h | h
  · exact .inl (by omega)
  · exact .inr (by omega)
theorem may_yes {ls : List Int} (a : ls.length ≤ 4) (b : cnt 1 ls ≠ 0) : may ls = true := by
  unfold may; simp [a, b]
theorem may_not {ls : List Int} (b : cnt 1 ls = 0) : may ls = false := by
  unfold may; simp [b]
theorem may_long {ls : List Int} (b : 4 < ls.length) : may ls = false := by
  unfold may
  have : ¬ ls.length ≤ 4 := by omega
  simp [this]
theorem may_dim {ls : List Int} (h : may ls = true) {i : Nat} (hi : i < ls.length) : 1 ≤ ls.getD i 0 ∧ ls.getD i 0 ≤ 4096 := may_dms h _ (getD_mem hi)
/-- One step of a count. -/
theorem cnt_step {ls : List Int} {i : Nat} (h : i < ls.length) (c : Int) : cnt c (ls.drop i) = if 1 ≤ ls.getD i 0 ∧ ls.getD i 0 ≤ 4096 ∧ ls.getD i 0 * c ≤ 65536 then cnt (c * ls.getD i 0) (ls.drop (i + 1)) else 0 := by
  rw [drop_getD h]; rfl
theorem quo_lt {c d : Int} (hc : 1 ≤ c) : (65536 / c < d) ↔ ¬ d * c ≤ 65536 := by
  rw [Int.ediv_lt_iff_lt_mul (by omega)]; omega

end Go.Proofs.Ytocoedpmcognpaa
namespace Go.Proofs.Ytocoedpmcognpaa

/-- The dimension of which, itself counted, there are j to the end; 1: none. -/
def ov (s : List Int) (j : Nat) : Int := if s.length < j then 1 else s.getD (s.length - j) 0
def fa (a b : List Int) (j : Nat) : Bool := decide (ov a j = ov b j) || decide (ov a j = 1) || decide (ov b j = 1)
def fitN (a b : List Int) : Nat → Bool
  | 0 => true
  | n + 1 => fa a b (n + 1) && fitN a b n
def gr (x y : Int) : Int := if y = 1 then x else y
def spl (a b : List Int) : Nat → List Int
  | 0 => []
  | n + 1 => gr (ov a (n + 1)) (ov b (n + 1)) :: spl a b n
def mx (a b : List Int) : Nat := max a.length b.length
def fit (a b : List Int) : Bool := fitN a b (mx a b)
def spr (a b : List Int) : List Int := spl a b (mx a b)
/-- Spread's answers: the error, the shape. -/
def spe (a b : List Int) : Int := if fit a b then (if may (spr a b) then 0 else 5) else 2
def spv (a b : List Int) : List Int := if spe a b = 0 then spr a b else []

theorem ext_getD {a b : List Int} (h : a.length = b.length) (hg : ∀ k, k < a.length → a.getD k 0 = b.getD k 0) : a = b := by
  apply List.ext_getElem h
  intro i h1 h2
  have := hg i h1
  simpa [List.getD, List.getElem?_eq_getElem h1, List.getElem?_eq_getElem h2] using this
/-- Spread of s and t is t. -/
def goes (s t : List Int) : Bool := decide (spe s t = 0) && decide (spv s t = t)
end Go.Proofs.Ytocoedpmcognpaa
namespace Go.Proofs.Ytocoedpmcognpaa

end Go.Proofs.Ytocoedpmcognpaa
namespace Go.Proofs.Ytocoedpmcognpaa

end Go.Proofs.Ytocoedpmcognpaa
namespace Go.Proofs.Ytocoedpmcognpaa

end Go.Proofs.Ytocoedpmcognpaa
namespace Go.Proofs.Ytocoedpmcognpaa
open Go.RowKit

/-- What a slice of whole numbers reads as. -/
def Ld (w : World) (v : Value) (ls : List Int) : Prop := ∃ o c, v = .slice o ls.length c ∧ ls.length ≤ c ∧
  ∀ i, i < ls.length → ∃ b f, o = some ⟨b, f, none⟩ ∧ b < w.heap.size ∧ w.cell? ⟨b, f + i, none⟩ = some (.int .i64 (ls.getD i 0))
theorem Ld.keep {w w' : World} {B : Nat} {v : Value} {ls : List Int} (h : Ld w v ls) (hB : w.heap.size ≤ B) (hb : Below B w w') : Ld w' v ls := by
  obtain ⟨o, c, rfl, hc, h⟩ := h
  refine ⟨o, c, rfl, hc, fun i hi => ?_⟩
  obtain ⟨b, f, ho, hl, hx⟩ := h i hi
  exact ⟨b, f, ho, Nat.lt_of_lt_of_le hl hb.size, (hb.cell (p := ⟨b, f + i, none⟩) (Nat.lt_of_lt_of_le hl hB)).trans hx⟩
theorem Ld.below {w w' : World} {v : Value} {ls : List Int} (h : Ld w v ls) (hb : Below w.heap.size w w') : Ld w' v ls := h.keep (Nat.le_refl _) hb
theorem Ld.nil (w : World) : Ld w (.slice none 0 0) [] := ⟨none, 0, rfl, Nat.le_refl _, fun i hi => by simp at hi⟩
/-- A block that is known whole. -/
def Blk (w : World) (g : Nat) (t : TypeId) (cs : Array Value) : Prop := w.heap[g]? = some (.cells cs t (0, 0))
section
variable {w w' : World} {g : Nat} {t : TypeId} {cs : Array Value}
theorem Blk.lt (h : Blk w g t cs) : g < w.heap.size := by
  rcases Nat.lt_or_ge g w.heap.size with hlt | hge
  · exact hlt
  · unfold Blk at h; rw [Array.getElem?_eq_none hge] at h; cases h
theorem Blk.cell (h : Blk w g t cs) (i : Nat) : w.cell? ⟨g, i, none⟩ = cs[i]? := cell_of_row w g i cs t (0, 0) h
theorem Blk.frozen (h : Blk w g t cs) (i : Nat) : w.frozen? ⟨g, i, none⟩ = false := by
  unfold Blk at h
  simp [World.frozen?, h]
theorem Blk.new (w : World) (t : TypeId) (cs : Array Value) : Blk (w.alloc (.cells cs t)) w.heap.size t cs := heap_alloc_new w _
theorem Blk.drew (h : Blk w g t cs) : Blk w.drew g t cs := h
theorem Blk.alloc (h : Blk w g t cs) (o : Obj) : Blk (w.alloc o) g t cs := (Below.heap_alloc w o g h.lt).trans h
theorem Blk.set_ (h : Blk w g t cs) (i : Nat) (u : Value) : Blk (w.setCell ⟨g, i, none⟩ u) g t (cs.setIfInBounds i u) := by
  unfold Blk at h ⊢
  simp [World.setCell, Array.getElem?_modify, h]
theorem Blk.far (h : Blk w g t cs) {p : Addr} (hp : g ≠ p.block) (u : Value) : Blk (w.setCell p u) g t cs := (Below.heap_setCell w p u g hp).trans h
theorem Blk.below {B : Nat} (h : Blk w g t cs) (hb : Below B w w') (hg : g < B) : Blk w' g t cs := (hb.block g hg).trans h
end

/-- The cells of a list. -/
def ints (ls : List Int) : List Value := ls.map (Value.int .i64 ·)
theorem ints_at {ls : List Int} {i : Nat} (h : i < ls.length) : (ints ls).toArray[i]? = some (.int .i64 (ls.getD i 0)) := by
  simp [ints, List.getD, List.getElem?_eq_getElem h]
/-- A block that holds a list. -/
theorem Ld.of_blk {w : World} {g : Nat} {t : TypeId} {ls : List Int} (h : Blk w g t (ints ls).toArray) {c : Nat} (hc : ls.length ≤ c) : Ld w (.slice (some ⟨g, 0, none⟩) ls.length c) ls :=
  ⟨_, c, rfl, hc, fun i hi => ⟨g, 0, rfl, h.lt, by rw [Nat.zero_add, h.cell, ints_at hi]⟩⟩
theorem ints_set (ls : List Int) (k : Nat) (v : Int) : (ints ls).toArray.setIfInBounds k (.int .i64 v) = (ints (ls.set k v)).toArray := by
  apply Array.ext
  · simp [ints]
  · intro i h1 h2
    by_cases e : k = i
    · subst e; simp [ints]
    · simp only [List.setIfInBounds_toArray, List.getElem_toArray, List.getElem_set, ints, List.getElem_map]
      simp [e]
theorem Blk.put {w : World} {g : Nat} {t : TypeId} {ls : List Int} (h : Blk w g t (ints ls).toArray) (k : Nat) (v : Int) : Blk (w.setCell ⟨g, k, none⟩ (.int .i64 v)) g t (ints (ls.set k v)).toArray := by
  rw [← ints_set]; exact h.set_ k _
end Go.Proofs.Ytocoedpmcognpaa
namespace Go.Proofs.Ytocoedpmcognpaa
open Go.RowKit

set_option maxRecDepth 100000 in
set_option maxHeartbeats 2000000 in
theorem count_ok (v : Value) (ls : List Int) (w : World) (h : Ld w v ls) (hm : may ls = true) :
    Calls Try.prog 33 #[v] w fun e w' => e = .returned (.tuple #[.int .i64 (prod ls), .int .i64 0]) ∧ w = w' := by
  obtain ⟨o, c, rfl, _, hx⟩ := h
  have HX := Lib.hid hx
  have hl := may_len hm
  have HC := Lib.hid (may_cnt hm)
  have HP := Lib.hid (may_prod hm)
  clear hx hm
  go_enter Try.func33, Try.ntmps33
  go_wp2
  go_loop [4, 12] (fun s4 s12 => ∃ (k : Nat) (m : Int), k ≤ ls.length ∧ 1 ≤ m ∧ m ≤ 65536 ∧ s12 = .int .i64 k ∧ s4 = .int .i64 m ∧ Hid (cnt m (ls.drop k) = cnt 1 ls)) (fun _ s12 => ls.length - (intOf s12).toNat)
  case atStart => exact ⟨0, 1, Nat.zero_le _, by decide, by decide, rfl, rfl, rfl⟩
  case round =>
    obtain ⟨k, m, hk, m0, m1, rfl, rfl, HM⟩ := hrel
    by_cases hlt : k < ls.length
    · obtain ⟨b, f, rfl, hb, hc⟩ := HX.out k hlt
      have st := cnt_step hlt m
      rw [HM.out, HC.out] at st
      obtain ⟨d, hd⟩ : ∃ d, d = ls.getD k 0 := ⟨_, rfl⟩
      rw [← hd] at st hc
      have hp := HP.out
      have g : 1 ≤ d ∧ d ≤ 4096 ∧ d * m ≤ 65536 := Classical.byContradiction fun g => by rw [if_neg g] at st; omega
      rw [if_pos g] at st
      obtain ⟨g1, g2, g3⟩ := g
      have q : ¬ 65536 / m < d := by rw [quo_lt m0]; omega
      have m2 : 1 ≤ m * d := by have := Int.mul_le_mul m0 g1 (by decide) (by omega); omega
      have m3 : m * d ≤ 65536 := by rw [Int.mul_comm]; omega
      have ST := Lib.hid st
      clear st hd hp g3
      go_wp2
      refine ⟨⟨k + 1, m * d, by omega, m2, m3, by go_num, rfl, by unfold Hid; rw [← ST.out, HC.out]⟩, by simp [intOf]; omega⟩
    · obtain rfl : m = prod ls := by
        have := HM.out
        rw [List.drop_eq_nil_of_le (by omega), HC.out] at this
        exact this
      go_wp2
      go_ret2
      exact ⟨rfl, rfl⟩

set_option maxRecDepth 100000 in
set_option maxHeartbeats 2000000 in
theorem count_no (v : Value) (ls : List Int) (w : World) (h : Ld w v ls) (hm : may ls = false) :
    Calls Try.prog 33 #[v] w fun e w' => e = .returned (.tuple #[.int .i64 0, .int .i64 1]) ∧ w = w' := by
  obtain ⟨o, c, rfl, _, hx⟩ := h
  have HX := Lib.hid hx
  clear hx
  by_cases h4 : 4 < ls.length
  · clear hm
    go_enter Try.func33, Try.ntmps33
    go_wp2
    go_ret2
    exact ⟨rfl, rfl⟩
  have HC : Hid (cnt 1 ls = 0) := by rcases may_no hm with a | a
                                     · exact absurd a h4
                                     · exact a
  clear hm
  go_enter Try.func33, Try.ntmps33
  go_wp2
  go_loop [4, 12] (fun s4 s12 => ∃ (k : Nat) (m : Int), k ≤ ls.length ∧ 1 ≤ m ∧ m ≤ 65536 ∧ s12 = .int .i64 k ∧ s4 = .int .i64 m ∧ Hid (cnt m (ls.drop k) = cnt 1 ls)) (fun _ s12 => ls.length - (intOf s12).toNat)
  case atStart => exact ⟨0, 1, Nat.zero_le _, by decide, by decide, rfl, rfl, rfl⟩
  case round =>
    obtain ⟨k, m, hk, m0, m1, rfl, rfl, HM⟩ := hrel
    by_cases hlt : k < ls.length
    · obtain ⟨b, f, rfl, hb, hc⟩ := HX.out k hlt
      have st := cnt_step hlt m
      rw [HM.out, HC.out] at st
      obtain ⟨d, hd⟩ : ∃ d, d = ls.getD k 0 := ⟨_, rfl⟩
      rw [← hd] at st hc
      by_cases g1 : d < 1
      · clear st hd
        go_wp2
        go_ret2
        exact ⟨rfl, rfl⟩
      by_cases g2 : 4096 < d
      · clear st hd
        go_wp2
        go_ret2
        exact ⟨rfl, rfl⟩
      by_cases g3 : 65536 / m < d
      · clear st hd
        go_wp2
        go_ret2
        exact ⟨rfl, rfl⟩
      have g4 : d * m ≤ 65536 := Classical.byContradiction fun g => g3 ((quo_lt m0).2 g)
      rw [if_pos ⟨by omega, by omega, g4⟩] at st
      have m2 : 1 ≤ m * d := by have := Int.mul_le_mul m0 (show 1 ≤ d by omega) (by decide) (by omega); omega
      have m3 : m * d ≤ 65536 := by rw [Int.mul_comm]; omega
      have ST := Lib.hid st
      clear st hd g4
      go_wp2
      refine ⟨⟨k + 1, m * d, by omega, m2, m3, by go_num, rfl, by unfold Hid; rw [← ST.out, HC.out]⟩, by simp [intOf]; omega⟩
    · exfalso
      have := HM.out
      rw [List.drop_eq_nil_of_le (by omega), HC.out] at this
      simp [cnt] at this
      omega

end Go.Proofs.Ytocoedpmcognpaa
namespace Go.Proofs.Ytocoedpmcognpaa
open Go.RowKit



end Go.Proofs.Ytocoedpmcognpaa
namespace Go.Proofs.Ytocoedpmcognpaa
open Go.RowKit Go.Shelf
attribute [local go_sem] Oper.semAt_some

/-- Places, from the last one down. -/
def rs {n : Nat} : (j : Nat) → j ≤ n → List (Fin n)
  | 0, _ => []
  | j + 1, h => ⟨j, h⟩ :: rs j (by omega)
/-- What a round must keep: what lay there ahead, and the box. -/
def KeepB (n0 B : Nat) (W W' : World) : Prop := W'.heap[B]? = W.heap[B]? ∧ ∀ k, k < n0 → W'.heap[k]? = W.heap[k]?
theorem KeepB.refl (n0 B : Nat) (W : World) : KeepB n0 B W W := ⟨rfl, fun _ _ => rfl⟩
theorem KeepB.trans {n0 B : Nat} {a b c : World} (h : KeepB n0 B a b) (k : KeepB n0 B b c) : KeepB n0 B a c := ⟨k.1.trans h.1, fun i hi => (k.2 i hi).trans (h.2 i hi)⟩
theorem KeepB.cell {n0 B : Nat} {W W' : World} (h : KeepB n0 B W W') : W'.cell? ⟨B, 0, none⟩ = W.cell? ⟨B, 0, none⟩ := by simp [World.cell?, h.1]
theorem KeepB.put {n0 B : Nat} {w : World} (hn : n0 ≤ w.heap.size) (hB : B < w.heap.size) (W : World) (l : Nat) (o o' : Obj) (hl : w.heap.size ≤ l) (_ : W.heap[l]? = some o) (_ : o.isCells = false) (_ : o.isWalk = false) : KeepB n0 B W (W.putObj l o') :=
  ⟨World.putObj_heap_other (by omega), fun k h2 => World.putObj_heap_other (by omega)⟩
end Go.Proofs.Ytocoedpmcognpaa
namespace Go.Proofs.Ytocoedpmcognpaa
open Go.RowKit Go.Shelf
attribute [local go_sem] Oper.semAt_some

theorem Blk.kept {W W' : World} {row : Option Nat} {B : Nat} {t : TypeId} {cs : Array Value} (h : Blk W B t cs) (hg : W.grownBy W' row) (hne : some B ≠ row) : Blk W' B t cs := (hg.block B h.lt hne).trans h
theorem Blk.box {W : World} {B B' : Nat} {t : TypeId} {cs : Array Value} (h : Blk W B t cs) (hne : B ≠ B') (u : Value) : Blk (W.setCell ⟨B', 0, none⟩ u) B t cs := h.far (p := ⟨B', 0, none⟩) hne u
theorem KeepB.set {n0 B : Nat} {W : World} {p : Addr} (hp : p.block ≠ B) (hn : n0 ≤ p.block) (u : Value) : KeepB n0 B W (W.setCell p u) :=
  ⟨Below.heap_setCell W p u B (fun e => hp e.symm), fun k hk => Below.heap_setCell W p u k (by omega)⟩

end Go.Proofs.Ytocoedpmcognpaa
namespace Go.Proofs.Ytocoedpmcognpaa
open Go.RowKit

end Go.Proofs.Ytocoedpmcognpaa
namespace Go.Proofs.Ytocoedpmcognpaa
open Go.RowKit


end Go.Proofs.Ytocoedpmcognpaa
namespace Go.Proofs.Ytocoedpmcognpaa
open Go.RowKit
theorem below_drw {B : Nat} {w W : World} (h : Below B w W) (n : Nat) : Below B w (W.drewN n) := ⟨h.os, h.tape, h.output, h.size, h.block⟩

set_option maxRecDepth 100000 in
set_option maxHeartbeats 4000000 in
theorem eqn_any (va vb : Value) (a b : List Int) (w : World) (ha : Ld w va a) (hb : Ld w vb b) (la : a.length ≤ 17592186044416) (_lb : b.length ≤ 17592186044416) :
    Calls Try.prog 6 #[va, vb] w fun e w' => e = .returned (.bool (decide (a = b))) ∧ Below w.heap.size w w' := by
  obtain ⟨oa, ca, rfl, _, hxa⟩ := ha
  obtain ⟨ob, cb, rfl, _, hxb⟩ := hb
  have HA := Lib.hid hxa
  have HB := Lib.hid hxb
  clear hxa hxb
  by_cases hl : a.length = b.length
  · have HL := Lib.hid hl
    have HX : Hid ((∀ k, k < a.length → a.getD k 0 = b.getD k 0) → a = b) := ext_getD hl
    rw [← hl]
    clear hl _lb
    go_enter Try.func6, Try.ntmps6
    go_wp2
    go_loopw [5] (fun s5 wr => ∃ k : Nat, k ≤ a.length ∧ s5 = .int .i64 k ∧ Hid (∀ j, j < k → a.getD j 0 = b.getD j 0) ∧ Below w.heap.size w wr) (fun s5 _ => a.length - (intOf s5).toNat)
    case atStart => exact ⟨0, Nat.zero_le _, rfl, fun j hj => absurd hj (Nat.not_lt_zero _), Below.refl _ _⟩
    case round =>
      obtain ⟨k, hk, rfl, HK, hW⟩ := hrel
      by_cases hlt : k < a.length
      · obtain ⟨b1, f1, rfl, h1, c1⟩ := HA.out k hlt
        obtain ⟨b2, f2, rfl, h2, c2⟩ := HB.out k (by have := HL.out; omega)
        have c1' : wr.cell? ⟨b1, f1 + k, none⟩ = some (.int .i64 (a.getD k 0)) := (hW.cell (p := ⟨b1, f1 + k, none⟩) h1).trans c1
        have c2' : wr.cell? ⟨b2, f2 + k, none⟩ = some (.int .i64 (b.getD k 0)) := (hW.cell (p := ⟨b2, f2 + k, none⟩) h2).trans c2
        have HG : Hid (a.getD k 0 = b.getD k 0 → ∀ j, j < k + 1 → a.getD j 0 = b.getD j 0) := fun g j hj => by
          by_cases e : j = k
          · subst e; exact g
          · exact HK.out j (by omega)
        have HN : Hid (¬ a.getD k 0 = b.getD k 0 → decide (a = b) = false) := fun g => decide_eq_false (fun e => g (by rw [e]))
        clear c1 c2
        generalize a.getD k 0 = x at *
        generalize b.getD k 0 = y at *
        by_cases g : x = y
        · subst g
          have R := Lib.hid (HG.out rfl)
          go_wp2
          go_quiet (fail)
          go_wp2
          exact ⟨⟨k + 1, by omega, by go_num, R, by first | exact below_drw hW _ | exact hW⟩, by simp [intOf]; omega⟩
        · have R := Lib.hid (HN.out g)
          have g' : (x != y) = true := by rw [bne_iff_ne]; exact g
          clear g
          go_wp2
          go_quiet (fail)
          go_wp2
          go_ret
          exact ⟨by rw [R.out]; rfl, by first | exact below_drw hW _ | exact hW⟩
      · have e : Hid (decide (a = b) = true) := decide_eq_true (HX.out fun j hj => HK.out j (by omega))
        go_wp2
        go_ret
        exact ⟨by rw [e.out]; rfl, hW⟩
  · have e : Hid (decide (a = b) = false) := decide_eq_false (fun e => hl (by rw [e]))
    have hl2 : ((a.length : Int) != (b.length : Int)) = true := by rw [bne_iff_ne]; omega
    clear hl
    go_enter Try.func6, Try.ntmps6
    go_wp2
    go_ret
    exact ⟨by rw [e.out]; rfl, Below.refl _ _⟩

end Go.Proofs.Ytocoedpmcognpaa
namespace Go.Proofs.Ytocoedpmcognpaa
open Go.RowKit

set_option maxRecDepth 100000 in
set_option maxHeartbeats 4000000 in
theorem eqw_any (va vb : Value) (a b : List Int) (w : World) (ha : Ld w va a) (hb : Ld w vb b) (la : a.length ≤ 17592186044416) (_lb : b.length ≤ 17592186044416) :
    Calls Try.prog 23 #[va, vb] w fun e w' => e = .returned (.bool (decide (a = b))) ∧ Below w.heap.size w w' := by
  obtain ⟨oa, ca, rfl, _, hxa⟩ := ha
  obtain ⟨ob, cb, rfl, _, hxb⟩ := hb
  have HA := Lib.hid hxa
  have HB := Lib.hid hxb
  clear hxa hxb
  by_cases hl : a.length = b.length
  · have HL := Lib.hid hl
    have HX : Hid ((∀ k, k < a.length → a.getD k 0 = b.getD k 0) → a = b) := ext_getD hl
    rw [← hl]
    clear hl _lb
    go_enter Try.func23, Try.ntmps23
    go_wp2
    go_loopw [5] (fun s5 wr => ∃ k : Nat, k ≤ a.length ∧ s5 = .int .i64 k ∧ Hid (∀ j, j < k → a.getD j 0 = b.getD j 0) ∧ Below w.heap.size w wr) (fun s5 _ => a.length - (intOf s5).toNat)
    case atStart => exact ⟨0, Nat.zero_le _, rfl, fun j hj => absurd hj (Nat.not_lt_zero _), Below.refl _ _⟩
    case round =>
      obtain ⟨k, hk, rfl, HK, hW⟩ := hrel
      by_cases hlt : k < a.length
      · obtain ⟨b1, f1, rfl, h1, c1⟩ := HA.out k hlt
        obtain ⟨b2, f2, rfl, h2, c2⟩ := HB.out k (by have := HL.out; omega)
        have c1' : wr.cell? ⟨b1, f1 + k, none⟩ = some (.int .i64 (a.getD k 0)) := (hW.cell (p := ⟨b1, f1 + k, none⟩) h1).trans c1
        have c2' : wr.cell? ⟨b2, f2 + k, none⟩ = some (.int .i64 (b.getD k 0)) := (hW.cell (p := ⟨b2, f2 + k, none⟩) h2).trans c2
        have HG : Hid (a.getD k 0 = b.getD k 0 → ∀ j, j < k + 1 → a.getD j 0 = b.getD j 0) := fun g j hj => by
          by_cases e : j = k
          · subst e; exact g
          · exact HK.out j (by omega)
        have HN : Hid (¬ a.getD k 0 = b.getD k 0 → decide (a = b) = false) := fun g => decide_eq_false (fun e => g (by rw [e]))
        clear c1 c2
        generalize a.getD k 0 = x at *
        generalize b.getD k 0 = y at *
        by_cases g : x = y
        · subst g
          have R := Lib.hid (HG.out rfl)
          go_wp2
          go_quiet (fail)
          go_wp2
          exact ⟨⟨k + 1, by omega, by go_num, R, by first | exact below_drw hW _ | exact hW⟩, by simp [intOf]; omega⟩
        · have R := Lib.hid (HN.out g)
          have g' : (x != y) = true := by rw [bne_iff_ne]; exact g
          clear g
          go_wp2
          go_quiet (fail)
          go_wp2
          go_ret
          exact ⟨by rw [R.out]; rfl, by first | exact below_drw hW _ | exact hW⟩
      · have e : Hid (decide (a = b) = true) := decide_eq_true (HX.out fun j hj => HK.out j (by omega))
        go_wp2
        go_ret
        exact ⟨by rw [e.out]; rfl, hW⟩
  · have e : Hid (decide (a = b) = false) := decide_eq_false (fun e => hl (by rw [e]))
    have hl2 : ((a.length : Int) != (b.length : Int)) = true := by rw [bne_iff_ne]; omega
    clear hl
    go_enter Try.func23, Try.ntmps23
    go_wp2
    go_ret
    exact ⟨by rw [e.out]; rfl, Below.refl _ _⟩

/-- Words alone? -/
def wds (l : List Int) : Bool := l.all fun x => decide (-140737488355328 < x) && decide (x < 140737488355328)
theorem wds_at {l : List Int} (h : wds l = true) {k : Nat} (hk : k < l.length) : -140737488355328 < l.getD k 0 ∧ l.getD k 0 < 140737488355328 := by
  unfold wds at h
  rw [List.all_eq_true] at h
  have := h (l.getD k 0) (getD_mem hk)
  simpa using this
theorem wds_no {l : List Int} {k : Nat} (hk : k < l.length) (h : ¬ (-140737488355328 < l.getD k 0 ∧ l.getD k 0 < 140737488355328)) : wds l = false := by
  cases e : wds l with
  | false => rfl
  | true => exact absurd (wds_at e hk) h
theorem wds_yes {l : List Int} (h : ∀ k, k < l.length → -140737488355328 < l.getD k 0 ∧ l.getD k 0 < 140737488355328) : wds l = true := by
  unfold wds
  rw [List.all_eq_true]
  intro x hx
  obtain ⟨i, hi, rfl⟩ := List.mem_iff_getElem.1 hx
  have := h i hi
  simp only [List.getD, List.getElem?_eq_getElem hi, Option.getD_some] at this
  simpa using this
set_option maxRecDepth 100000 in
set_option maxHeartbeats 4000000 in
theorem may2_any (x : Int) (w : World) : Calls Try.prog 24 #[.int .i64 x] w fun e w' => e = .returned (.bool (decide (-140737488355328 < x) && decide (x < 140737488355328))) ∧ w = w' := by
  by_cases g1 : -140737488355328 < x
  · by_cases g2 : x < 140737488355328
    · have b1 := decide_eq_true g1
      have b2 := decide_eq_true g2
      rw [b1, b2]
      go_enter Try.func24, Try.ntmps24
      go_wp2
      go_ret
      exact ⟨rfl, rfl⟩
    · have b1 := decide_eq_true g1
      have b2 := decide_eq_false g2
      rw [b1, b2]
      go_enter Try.func24, Try.ntmps24
      go_wp2
      go_ret
      exact ⟨rfl, rfl⟩
  · have b1 := decide_eq_false g1
    rw [b1]
    go_enter Try.func24, Try.ntmps24
    go_wp2
    go_ret
    exact ⟨rfl, rfl⟩

set_option maxRecDepth 100000 in
set_option maxHeartbeats 4000000 in
theorem words_any (v : Value) (l : List Int) (w : World) (h : Ld w v l) (hl : l.length ≤ 9223372036854775807) : Calls Try.prog 15 #[v] w fun e w' => e = .returned (.bool (wds l)) ∧ w = w' := by
  obtain ⟨o, c, rfl, _, hx⟩ := h
  have HX := Lib.hid hx
  clear hx
  go_enter Try.func15, Try.ntmps15
  go_wp2
  go_loop [3] (fun s3 => ∃ k : Nat, k ≤ l.length ∧ s3 = .int .i64 k ∧ Hid (∀ j, j < k → -140737488355328 < l.getD j 0 ∧ l.getD j 0 < 140737488355328)) (fun s3 => l.length - (intOf s3).toNat)
  case atStart => exact ⟨0, Nat.zero_le _, rfl, fun j hj => absurd hj (Nat.not_lt_zero _)⟩
  case round =>
    obtain ⟨k, hk, rfl, HK⟩ := hrel
    by_cases hlt : k < l.length
    · obtain ⟨b, f, rfl, _, hc⟩ := HX.out k hlt
      have HY : Hid ((decide (-140737488355328 < l.getD k 0) && decide (l.getD k 0 < 140737488355328)) = true → ∀ j, j < k + 1 → -140737488355328 < l.getD j 0 ∧ l.getD j 0 < 140737488355328) := fun g j hj => by
        by_cases e : j = k
        · subst e; simpa using g
        · exact HK.out j (by omega)
      have HN : Hid ((decide (-140737488355328 < l.getD k 0) && decide (l.getD k 0 < 140737488355328)) = false → wds l = false) := fun g => wds_no hlt (fun e => by rw [decide_eq_true e.1, decide_eq_true e.2] at g; cases g)
      generalize l.getD k 0 = x at *
      have KM := Lib.hid (fun (W : World) => may2_any x W)
      cases gg : (decide (-140737488355328 < x) && decide (x < 140737488355328)) with
      | true =>
        rw [gg] at KM
        have R := Lib.hid (HY.out gg)
        clear gg
        go_wp2_with (go_at_call 24; (with_reducible refine (KM.out _).mono ?_); rintro e w' ⟨rfl, rfl⟩)
        exact ⟨⟨k + 1, by omega, by go_num, R⟩, by simp [intOf]; omega⟩
      | false =>
        rw [gg] at KM
        have R := Lib.hid (HN.out gg)
        clear gg
        go_wp2_with (go_at_call 24; (with_reducible refine (KM.out _).mono ?_); rintro e w' ⟨rfl, rfl⟩)
        go_ret
        exact ⟨by rw [R.out]; rfl, rfl⟩
    · obtain rfl : k = l.length := by omega
      have R := Lib.hid (wds_yes HK.out)
      clear hlt
      go_wp2
      go_ret
      exact ⟨by rw [R.out]; rfl, rfl⟩
end Go.Proofs.Ytocoedpmcognpaa
namespace Go.Proofs.Ytocoedpmcognpaa
open Go.RowKit

/-- A tensor? -/
def tnb (ts tds : List Int) : Bool := may ts && decide ((tds.length : Int) = prod ts) && wds tds
end Go.Proofs.Ytocoedpmcognpaa
namespace Go.Proofs.Ytocoedpmcognpaa

/-- How far the last index stands from the first one. -/
def far : List Int → List Int → Int
  | s :: r, d :: t => (d - 1) * s + far r t
  | _, _ => 0
end Go.Proofs.Ytocoedpmcognpaa
namespace Go.Proofs.Ytocoedpmcognpaa

end Go.Proofs.Ytocoedpmcognpaa
namespace Go.Proofs.Ytocoedpmcognpaa
open Go.RowKit

set_option maxRecDepth 100000 in
set_option maxHeartbeats 4000000 in
theorem equal_any (va vb : Value) (a b : List Int) (w : World) (ha : Ld w va a) (hb : Ld w vb b) (la : a.length ≤ 17592186044416) (_lb : b.length ≤ 17592186044416) :
    Calls Try.prog 27 #[va, vb] w fun e w' => e = .returned (.bool (decide (a = b))) ∧ Below w.heap.size w w' := by
  obtain ⟨oa, ca, rfl, _, hxa⟩ := ha
  obtain ⟨ob, cb, rfl, _, hxb⟩ := hb
  have HA := Lib.hid hxa
  have HB := Lib.hid hxb
  clear hxa hxb
  by_cases hl : a.length = b.length
  · have HL := Lib.hid hl
    have HX : Hid ((∀ k, k < a.length → a.getD k 0 = b.getD k 0) → a = b) := ext_getD hl
    rw [← hl]
    clear hl _lb
    go_enter Try.func27, Try.ntmps27
    go_wp2
    go_loopw [13] (fun s13 wr => ∃ k : Nat, k ≤ a.length ∧ s13 = .int .i64 k ∧ Hid (∀ j, j < k → a.getD j 0 = b.getD j 0) ∧ Below w.heap.size w wr) (fun s13 _ => a.length - (intOf s13).toNat)
    case atStart => exact ⟨0, Nat.zero_le _, rfl, fun j hj => absurd hj (Nat.not_lt_zero _), Below.refl _ _⟩
    case round =>
      obtain ⟨k, hk, rfl, HK, hW⟩ := hrel
      by_cases hlt : k < a.length
      · obtain ⟨b1, f1, rfl, h1, c1⟩ := HA.out k hlt
        obtain ⟨b2, f2, rfl, h2, c2⟩ := HB.out k (by have := HL.out; omega)
        have c1' : wr.cell? ⟨b1, f1 + k, none⟩ = some (.int .i64 (a.getD k 0)) := (hW.cell (p := ⟨b1, f1 + k, none⟩) h1).trans c1
        have c2' : wr.cell? ⟨b2, f2 + k, none⟩ = some (.int .i64 (b.getD k 0)) := (hW.cell (p := ⟨b2, f2 + k, none⟩) h2).trans c2
        have HG : Hid (a.getD k 0 = b.getD k 0 → ∀ j, j < k + 1 → a.getD j 0 = b.getD j 0) := fun g j hj => by
          by_cases e : j = k
          · subst e; exact g
          · exact HK.out j (by omega)
        have HN : Hid (¬ a.getD k 0 = b.getD k 0 → decide (a = b) = false) := fun g => decide_eq_false (fun e => g (by rw [e]))
        clear c1 c2
        generalize a.getD k 0 = x at *
        generalize b.getD k 0 = y at *
        by_cases g : x = y
        · subst g
          have R := Lib.hid (HG.out rfl)
          go_wp2
          go_quiet (fail)
          go_wp2
          exact ⟨⟨k + 1, by omega, by go_num, R, by first | exact below_drw hW _ | exact hW⟩, by simp [intOf]; omega⟩
        · have R := Lib.hid (HN.out g)
          have g' : (x != y) = true := by rw [bne_iff_ne]; exact g
          clear g
          go_wp2
          go_quiet (fail)
          go_wp2
          go_ret
          exact ⟨by rw [R.out]; rfl, by first | exact below_drw hW _ | exact hW⟩
      · have e : Hid (decide (a = b) = true) := decide_eq_true (HX.out fun j hj => HK.out j (by omega))
        go_wp2
        go_ret
        exact ⟨by rw [e.out]; rfl, hW⟩
  · have e : Hid (decide (a = b) = false) := decide_eq_false (fun e => hl (by rw [e]))
    have hl2 : ((a.length : Int) != (b.length : Int)) = true := by rw [bne_iff_ne]; omega
    clear hl
    go_enter Try.func27, Try.ntmps27
    go_wp2
    go_ret
    exact ⟨by rw [e.out]; rfl, Below.refl _ _⟩

end Go.Proofs.Ytocoedpmcognpaa
namespace Go.Proofs.Ytocoedpmcognpaa
open Go.RowKit


end Go.Proofs.Ytocoedpmcognpaa
namespace Go.Proofs.Ytocoedpmcognpaa
open Go.RowKit Go.Shelf
attribute [local go_sem] Oper.semAt_some


end Go.Proofs.Ytocoedpmcognpaa
namespace Go.Proofs.Ytocoedpmcognpaa
open Go.RowKit

/-- A box of three. -/
def Bv (W : World) (b : Nat) (x y z : Value) : Prop := W.cell? ⟨b, 0, none⟩ = some x ∧ W.cell? ⟨b, 1, none⟩ = some y ∧ W.cell? ⟨b, 2, none⟩ = some z
theorem Bv.new (w : World) (x y z : Value) (t : TypeId) : Bv (w.alloc (.cells #[x, y, z] t)) w.heap.size x y z := by
  have h := Blk.new w t #[x, y, z]
  exact ⟨h.cell 0, h.cell 1, h.cell 2⟩
theorem Bv.next {W W' : World} {b B : Nat} {x y z : Value} (h : Bv W b x y z) (hb : Below B W W') (hlt : b < B) : Bv W' b x y z :=
  ⟨(hb.cell (p := ⟨b, 0, none⟩) hlt).trans h.1, (hb.cell (p := ⟨b, 1, none⟩) hlt).trans h.2.1, (hb.cell (p := ⟨b, 2, none⟩) hlt).trans h.2.2⟩
/-- Two lists of the call's own, apart. -/
def Ov (w : World) (base : Nat) (vs vt : Value) (sh st : List Int) : Prop := w.ownsRow base 3 1 vs sh.length (ints sh) ∧ w.ownsRow base 3 1 vt st.length (ints st) ∧ ∀ g, vs.ownBlock = some g → ¬ vt.ownBlock = some g
theorem Below.keepOwn {w w' : World} {B base n : Nat} {e : TypeId} {v : Value} {xs : List Value} (h : w.ownsRow base e 1 v n xs) (hb : Below B w w') (hB : w.heap.size ≤ B) : w'.ownsRow base e 1 v n xs := by
  refine ⟨h.1, ?_⟩
  rcases h.2 with a | ⟨g, cap, cur, e1, e2, e3, rest⟩
  · exact .inl a
  · exact .inr ⟨g, cap, cur, e1, e2, (hb.block g (by have := (Array.getElem?_eq_some_iff.1 e3).1; omega)).trans e3, rest⟩
theorem own_base {w : World} {base base' n : Nat} {e : TypeId} {v : Value} {xs : List Value} (h : w.ownsRow base e 1 v n xs) (hb : base' ≤ base) : w.ownsRow base' e 1 v n xs := by
  refine ⟨h.1, ?_⟩
  rcases h.2 with a | ⟨g, cap, cur, e1, e2, rest⟩
  · exact .inl a
  · exact .inr ⟨g, cap, cur, e1, by omega, rest⟩
theorem Ov.kept {w w' : World} {base : Nat} {vs vt : Value} {sh st : List Int} {row : Option Nat} (h : Ov w base vs vt sh st) (hg : w.grownBy w' row) (h1 : ¬ vs.ownBlock = row ∨ row = none) (h2 : ¬ vt.ownBlock = row ∨ row = none) : Ov w' base vs vt sh st := by
  refine ⟨h.1.kept hg ?_, h.2.1.kept hg ?_, h.2.2⟩
  · rcases h1 with h1 | rfl
    · exact .inr h1
    · cases e : vs.ownBlock with
      | none => exact .inl rfl
      | some g => exact .inr (by simp)
  · rcases h2 with h2 | rfl
    · exact .inr h2
    · cases e : vt.ownBlock with
      | none => exact .inl rfl
      | some g => exact .inr (by simp)
theorem Ov.below {w w' : World} {base : Nat} {vs vt : Value} {sh st : List Int} (h : Ov w base vs vt sh st) (hb : Below w.heap.size w w') : Ov w' base vs vt sh st := ⟨Below.keepOwn h.1 hb (Nat.le_refl _), Below.keepOwn h.2.1 hb (Nat.le_refl _), h.2.2⟩
theorem Ov.base {w : World} {base base' : Nat} {vs vt : Value} {sh st : List Int} (h : Ov w base vs vt sh st) (hb : base' ≤ base) : Ov w base' vs vt sh st := ⟨own_base h.1 hb, own_base h.2.1 hb, h.2.2⟩
end Go.Proofs.Ytocoedpmcognpaa
namespace Go.Proofs.Ytocoedpmcognpaa
open Go Go.RowKit

variable {F : Fence} {n : Nat} {P : Program}
end Go.Proofs.Ytocoedpmcognpaa
namespace Go.Proofs.Ytocoedpmcognpaa
open Go.RowKit Go.Shelf
attribute [local go_sem] Oper.semAt_some


/-- What a round must keep: what lay there ahead, and the two boxes and the copy. -/
def KeepA (n1 n0 : Nat) (W W' : World) : Prop := ∀ k, n1 ≤ k → k < n0 → W'.heap[k]? = W.heap[k]?
theorem KeepA.refl (n1 n0 : Nat) (W : World) : KeepA n1 n0 W W := fun _ _ _ => rfl
theorem KeepA.trans {n1 n0 : Nat} {a b c : World} (h : KeepA n1 n0 a b) (k : KeepA n1 n0 b c) : KeepA n1 n0 a c := fun i h1 hi => (k i h1 hi).trans (h i h1 hi)
theorem KeepA.cell {n1 n0 b i : Nat} {W W' : World} (h : KeepA n1 n0 W W') (ha : n1 ≤ b) (hb : b < n0) : W'.cell? ⟨b, i, none⟩ = W.cell? ⟨b, i, none⟩ := by simp [World.cell?, h b ha hb]
theorem KeepA.below {n1 n0 : Nat} {W W' : World} (h : Below W.heap.size W W') (hn : n0 ≤ W.heap.size) : KeepA n1 n0 W W' := fun k _ hk => h.block k (by omega)
theorem KeepA.put {n1 n0 : Nat} {w : World} (hn : n0 ≤ w.heap.size) (W : World) (l : Nat) (o o' : Obj) (hl : w.heap.size ≤ l) (_ : W.heap[l]? = some o) (_ : o.isCells = false) (_ : o.isWalk = false) : KeepA n1 n0 W (W.putObj l o') := fun k _ h2 => World.putObj_heap_other (by omega)
theorem KeepA.size {n1 n0 : Nat} {W W' : World} (h : KeepA n1 n0 W W') (hlt : n1 < n0) (hn : n0 ≤ W.heap.size) : n0 ≤ W'.heap.size := by
  have h1 := h (n0 - 1) (by omega) (by omega)
  rw [Array.getElem?_eq_getElem (show n0 - 1 < W.heap.size by omega)] at h1
  have := (Array.getElem?_eq_some_iff.1 h1).1
  omega
theorem KeepA.ld {n1 n0 : Nat} {W W' : World} {v : Value} {ls : List Int} (h : KeepA n1 n0 W W') (hl : Ld W v ls) (hn : ∀ i, i < ls.length → ∃ o c b f, v = .slice o ls.length c ∧ o = some ⟨b, f, none⟩ ∧ n1 ≤ b ∧ b < n0) (hs : n0 ≤ W'.heap.size) : Ld W' v ls := by
  obtain ⟨o, c, rfl, hc, hx⟩ := hl
  refine ⟨o, c, rfl, hc, fun i hi => ?_⟩
  obtain ⟨b, f, e, _, hcell⟩ := hx i hi
  obtain ⟨o2, c2, b2, f2, e1, e2, e4, e3⟩ := hn i hi
  simp only [Value.slice.injEq] at e1
  obtain ⟨rfl, _, rfl⟩ := e1
  rw [e] at e2
  simp only [Option.some.injEq, Addr.mk.injEq, and_true] at e2
  obtain ⟨rfl, rfl⟩ := e2
  exact ⟨b, f, e, by omega, (h.cell e4 e3).trans hcell⟩

end Go.Proofs.Ytocoedpmcognpaa
namespace Go.Proofs.Ytocoedpmcognpaa
open Go Go.RowKit

variable {F : Fence} {n : Nat} {P : Program}
end Go.Proofs.Ytocoedpmcognpaa
namespace Go.Proofs.Ytocoedpmcognpaa
open Go.RowKit Go.Shelf
attribute [local go_sem] Oper.semAt_some

/-- What a round must keep: All's boxes, the copy. -/
def Kp3 (B1 B2 : Nat) (o : Option Addr) (W W' : World) : Prop := W'.heap[B1]? = W.heap[B1]? ∧ W'.heap[B2]? = W.heap[B2]? ∧ ∀ g, o = some ⟨g, 0, none⟩ → W'.heap[g]? = W.heap[g]?
theorem Kp3.refl (B1 B2 : Nat) (o : Option Addr) (W : World) : Kp3 B1 B2 o W W := ⟨rfl, rfl, fun _ _ => rfl⟩
theorem Kp3.trans {B1 B2 : Nat} {o : Option Addr} {a b c : World} (h : Kp3 B1 B2 o a b) (k : Kp3 B1 B2 o b c) : Kp3 B1 B2 o a c := ⟨k.1.trans h.1, k.2.1.trans h.2.1, fun g e => (k.2.2 g e).trans (h.2.2 g e)⟩
theorem Kp3.own {B1 B2 : Nat} {o : Option Addr} {c base : Nat} {ls : List Int} {W W' : World} (h : Kp3 B1 B2 o W W') (ho : W.ownsRow base 3 1 (.slice o ls.length c) ls.length (ints ls)) : W'.ownsRow base 3 1 (.slice o ls.length c) ls.length (ints ls) := by
  refine ⟨ho.1, ?_⟩
  rcases ho.2 with a | ⟨g, cap, cur, e1, e2, e3, rest⟩
  · exact .inl a
  · have e4 := e1
    simp only [Value.slice.injEq] at e4
    exact .inr ⟨g, cap, cur, e1, e2, (h.2.2 g e4.1).trans e3, rest⟩
theorem Kp3.below {B1 B2 : Nat} {o : Option Addr} {c base : Nat} {ls : List Int} {W W' : World} (hb : Below W.heap.size W W') (h1 : B1 < W.heap.size) (h2 : B2 < W.heap.size) (ho : W.ownsRow base 3 1 (.slice o ls.length c) ls.length (ints ls)) : Kp3 B1 B2 o W W' := by
  refine ⟨hb.block _ h1, hb.block _ h2, fun g e => hb.block g ?_⟩
  subst e
  exact (ho.lt g rfl).2
end Go.Proofs.Ytocoedpmcognpaa
namespace Go.Proofs.Ytocoedpmcognpaa
open Go.RowKit
attribute [local go_sem ↓] Go.wp_at_zero Go.wp_at_succ

theorem grown_set (W : World) (p : Addr) (z : Value) : W.grownBy (W.setCell p z) (some p.block) := ⟨rfl, rfl, rfl, by simp, fun j _ hne => Below.heap_setCell _ _ _ j (fun e => hne (by rw [e]))⟩
end Go.Proofs.Ytocoedpmcognpaa
namespace Go.Proofs.Ytocoedpmcognpaa
open Go.RowKit Go.Shelf
attribute [local go_sem] Oper.semAt_some

theorem OwnFrom.mono {β : Type} {B B' : Nat} {I : β → World → Prop} (h : OwnFrom B I) (hb : B ≤ B') : OwnFrom B' I := fun s W W' row hs hg hr => h s W W' row hs hg (fun r e => ⟨Nat.le_trans hb (hr r e).1, (hr r e).2⟩)

end Go.Proofs.Ytocoedpmcognpaa
namespace Go.Proofs.Ytocoedpmcognpaa
open Go Go.RowKit

end Go.Proofs.Ytocoedpmcognpaa
namespace Go.Proofs.Ytocoedpmcognpaa
open Go.RowKit
attribute [local go_sem ↓] Go.wp_at_zero Go.wp_at_succ

end Go.Proofs.Ytocoedpmcognpaa
namespace Go.Proofs.Ytocoedpmcognpaa
open Go.RowKit
attribute [local go_sem ↓] Go.wp_at_zero Go.wp_at_succ

theorem own_put {w : World} {base g c i : Nat} {ls : List Int} {e : TypeId} (h : w.ownsRow base e 1 (.slice (some ⟨g, 0, none⟩) ls.length c) ls.length (ints ls)) (_hi : i < ls.length) (v : Int) : (w.setCell ⟨g, i, none⟩ (.int .i64 v)).ownsRow base e 1 (.slice (some ⟨g, 0, none⟩) ls.length c) (ls.set i v).length (ints (ls.set i v)) := by
  rcases h.2 with ⟨hv, _⟩ | ⟨g', cap, cur, hv, hb, hh, hc, hm, hsz, ht⟩
  · cases hv
  · simp only [Value.slice.injEq, true_and, Option.some.injEq, Addr.mk.injEq, and_true] at hv
    obtain ⟨rfl, rfl⟩ := hv
    have hp : Blk (w.setCell ⟨g, i, none⟩ (.int .i64 v)) g e (cur.setIfInBounds i (.int .i64 v)) := Blk.set_ (show Blk w g e cur from hh) i _
    refine ⟨by simp [ints], .inr ⟨g, c, cur.setIfInBounds i (.int .i64 v), by rw [List.length_set], hb, hp, by rw [List.length_set]; exact hc, hm, by simpa using hsz, ?_⟩⟩
    rw [List.length_set, Nat.mul_one]
    rw [Nat.mul_one] at ht
    have : (cur.setIfInBounds i (.int .i64 v)).toList = cur.toList.set i (.int .i64 v) := by simp
    rw [this, List.take_set, ht]
    simp [ints, List.map_set]
theorem Ov.put {w : World} {base g c i : Nat} {vt : Value} {sh st : List Int} (h : Ov w base (.slice (some ⟨g, 0, none⟩) sh.length c) vt sh st) (hi : i < sh.length) (v : Int) : Ov (w.setCell ⟨g, i, none⟩ (.int .i64 v)) base (.slice (some ⟨g, 0, none⟩) sh.length c) vt (sh.set i v) st :=
  ⟨own_put h.1 hi v, h.2.1.kept (grown_set w ⟨g, i, none⟩ _) (.inr (h.2.2 g rfl)), h.2.2⟩
theorem Ov.alloc {w : World} {base : Nat} {vs vt : Value} {sh st : List Int} (h : Ov w base vs vt sh st) (o : Obj) : Ov (w.alloc o) base vs vt sh st := h.below ((Below.refl _ _).alloc (Nat.le_refl _) _)
theorem Ov.drew {w : World} {base : Nat} {vs vt : Value} {sh st : List Int} (h : Ov w base vs vt sh st) : Ov w.drew base vs vt sh st := h
theorem Below.box {w W : World} {B b : Nat} (h : Below B w W) (hb : B ≤ b) (x y z : Value) : Below B w (((W.setCell ⟨b, 0, none⟩ x).setCell ⟨b, 1, none⟩ y).setCell ⟨b, 2, none⟩ z) := ((h.setCell hb _).setCell hb _).setCell hb _
end Go.Proofs.Ytocoedpmcognpaa
namespace Go.Proofs.Ytocoedpmcognpaa
open Go.RowKit
attribute [local go_sem ↓] Go.wp_at_zero Go.wp_at_succ

end Go.Proofs.Ytocoedpmcognpaa
namespace Go.Proofs.Ytocoedpmcognpaa
open Go.RowKit

/-- The reference's count. -/
def rct (ls : List Int) : Int := if cnt 1 ls = 0 then 65537 else cnt 1 ls
theorem may_rct {ls : List Int} (h4 : ls.length ≤ 4) : decide (rct ls ≤ 65536) = may ls := by
  unfold rct
  rcases cnt_cases ls 1 (by decide) (by decide) with h | ⟨h1, h2, _, _⟩
  · rw [if_pos h, may_not h]; rfl
  · rw [if_neg (by omega), may_yes h4 (by omega)]; simpa using h2
theorem rct_may {ls : List Int} (h : may ls = true) : rct ls = prod ls := by
  unfold rct
  rw [may_cnt h, if_neg (by have := may_prod h; omega)]

set_option maxRecDepth 100000 in
set_option maxHeartbeats 4000000 in
theorem rcount_any (v : Value) (ls : List Int) (w : World) (h : Ld w v ls) (hd : dms ls) (l4 : ls.length ≤ 1073741824) :
    Calls Try.prog 14 #[v] w fun e w' => e = .returned (.int .i64 (rct ls)) ∧ w = w' := by
  obtain ⟨o, c, rfl, _, hx⟩ := h
  have HX := Lib.hid hx
  have HD := Lib.hid hd
  clear hx hd
  go_enter Try.func14, Try.ntmps14
  go_wp2
  go_loop [3, 4] (fun s3 s4 => ∃ (k : Nat) (m : Int), k ≤ ls.length ∧ 1 ≤ m ∧ m ≤ 65536 ∧ s4 = .int .i64 k ∧ s3 = .int .i64 m ∧ Hid (cnt m (ls.drop k) = cnt 1 ls)) (fun _ s4 => ls.length - (intOf s4).toNat)
  case atStart => exact ⟨0, 1, Nat.zero_le _, by decide, by decide, rfl, rfl, rfl⟩
  case round =>
    obtain ⟨k, m, hk, m0, m1, rfl, rfl, HM⟩ := hrel
    by_cases hlt : k < ls.length
    · obtain ⟨b, f, rfl, hb, hc⟩ := HX.out k hlt
      have st := cnt_step hlt m
      rw [HM.out] at st
      have dd := HD.out _ (getD_mem hlt)
      obtain ⟨d, hd⟩ : ∃ d, d = ls.getD k 0 := ⟨_, rfl⟩
      rw [← hd] at st hc dd
      obtain ⟨d1, d2⟩ := dd
      have dn : ¬ 65536 < d := by omega
      have md : m * d ≤ 65536 * 4096 := Int.mul_le_mul m1 d2 (by omega) (by decide)
      have m2 : 1 ≤ m * d := by have := Int.mul_le_mul m0 d1 (by decide) (by omega); omega
      by_cases g : m * d ≤ 65536
      · rw [if_pos ⟨d1, d2, by rw [Int.mul_comm]; exact g⟩] at st
        have ST := Lib.hid st
        have g' : ¬ 65536 < m * d := by omega
        clear st hd md
        go_wp2
        refine ⟨⟨k + 1, m * d, by omega, m2, g, by go_num, rfl, by unfold Hid; rw [← ST.out]⟩, by simp [intOf]; omega⟩
      · rw [if_neg (by rw [Int.mul_comm]; omega)] at st
        have E : Hid (rct ls = 65537) := by unfold rct; rw [if_pos st]; exact Lib.hid rfl
        have g' : 65536 < m * d := by omega
        clear st hd
        go_wp2
        go_ret
        exact ⟨by rw [E.out]; rfl, rfl⟩
    · have E : Hid (m = rct ls) := by
        have := HM.out
        rw [List.drop_eq_nil_of_le (by omega)] at this
        unfold rct
        rw [← this, if_neg (by show cnt m [] ≠ 0; simp [cnt]; omega)]
        exact Lib.hid rfl
      go_wp2
      go_ret
      exact ⟨by rw [← E.out]; rfl, rfl⟩

set_option maxRecDepth 100000 in
set_option maxHeartbeats 4000000 in
theorem rmay_any (v : Value) (ls : List Int) (w : World) (h : Ld w v ls) (l4 : ls.length ≤ 1073741824) :
    Calls Try.prog 13 #[v] w fun e w' => e = .returned (.bool (may ls)) ∧ w = w' := by
  by_cases h4 : 4 < ls.length
  · have E : Hid (may ls = false) := may_long h4
    obtain ⟨o, c, rfl, _, _⟩ := h
    go_enter Try.func13, Try.ntmps13
    go_wp2
    go_ret
    exact ⟨by rw [E.out]; rfl, rfl⟩
  have C := Lib.hid (fun hd => rcount_any v ls w h hd (by omega))
  obtain ⟨o, c, rfl, _, hx⟩ := h
  have HX := Lib.hid hx
  have HR : Hid (decide (rct ls ≤ 65536) = may ls) := may_rct (by omega)
  clear hx
  go_enter Try.func13, Try.ntmps13
  go_wp2
  go_loop [3] (fun s3 => ∃ k : Nat, k ≤ ls.length ∧ s3 = .int .i64 k ∧ Hid (∀ j, j < k → 1 ≤ ls.getD j 0 ∧ ls.getD j 0 ≤ 4096)) (fun s3 => ls.length - (intOf s3).toNat)
  case atStart => exact ⟨0, Nat.zero_le _, rfl, fun j hj => absurd hj (Nat.not_lt_zero _)⟩
  case round =>
    obtain ⟨k, hk, rfl, HK⟩ := hrel
    by_cases hlt : k < ls.length
    · obtain ⟨b, f, rfl, hb, hc⟩ := HX.out k hlt
      have HN : Hid (¬ (1 ≤ ls.getD k 0 ∧ ls.getD k 0 ≤ 4096) → may ls = false) := fun g => by
        cases h : may ls with
        | false => rfl
        | true => exact absurd (may_dim h hlt) g
      have HG : Hid (1 ≤ ls.getD k 0 ∧ ls.getD k 0 ≤ 4096 → ∀ j, j < k + 1 → 1 ≤ ls.getD j 0 ∧ ls.getD j 0 ≤ 4096) := fun g j hj => by
        by_cases e : j = k
        · subst e; exact g
        · exact HK.out j (by omega)
      generalize ls.getD k 0 = d at *
      by_cases g1 : d < 1
      · have R := Lib.hid (HN.out (by omega))
        go_wp2
        go_ret
        exact ⟨by rw [R.out]; rfl, rfl⟩
      by_cases g2 : 4096 < d
      · have R := Lib.hid (HN.out (by omega))
        go_wp2
        go_ret
        exact ⟨by rw [R.out]; rfl, rfl⟩
      have R := Lib.hid (HG.out (by omega))
      go_wp2
      refine ⟨⟨k + 1, by omega, by go_num, R⟩, by simp [intOf]; omega⟩
    · have hd : dms ls := by
        intro d hm
        obtain ⟨i, hi, rfl⟩ := List.mem_iff_getElem.1 hm
        have := HK.out i (by omega)
        simpa [List.getD, List.getElem?_eq_getElem hi] using this
      have C1 := Lib.hid (C.out hd)
      clear hd
      generalize rct ls = r at *
      go_wp2_with (go_at_call 14; (with_reducible refine C1.out.mono ?_); rintro e w' ⟨rfl, rfl⟩)
      go_ret
      exact ⟨by rw [← HR.out]; rfl, rfl⟩

end Go.Proofs.Ytocoedpmcognpaa
namespace Go.Proofs.Ytocoedpmcognpaa
open Go.RowKit



end Go.Proofs.Ytocoedpmcognpaa
namespace Go.Proofs.Ytocoedpmcognpaa
open Go.RowKit

end Go.Proofs.Ytocoedpmcognpaa
namespace Go.Proofs.Ytocoedpmcognpaa
open Go.RowKit
attribute [local go_sem ↓] Go.wp_at_zero Go.wp_at_succ

theorem blk_new1 (w : World) (o : Obj) (t : TypeId) (cs : Array Value) : Blk ((w.alloc o).alloc (.cells cs t)) (w.heap.size + 1) t cs := by
  have := Blk.new (w.alloc o) t cs
  rwa [World.size_alloc] at this
end Go.Proofs.Ytocoedpmcognpaa
namespace Go.Proofs.Ytocoedpmcognpaa
open Go.RowKit Go.Shelf
attribute [local go_sem] Oper.semAt_some

theorem blk2 {W : World} {b : Nat} {t : TypeId} {x y : Value} (h : Blk W b t #[x, y]) : W.cell? ⟨b, 0, none⟩ = some x ∧ W.cell? ⟨b, 1, none⟩ = some y ∧ W.frozen? ⟨b, 0, none⟩ = false ∧ W.frozen? ⟨b, 1, none⟩ = false :=
  ⟨h.cell 0, h.cell 1, h.frozen 0, h.frozen 1⟩
end Go.Proofs.Ytocoedpmcognpaa
namespace Go.Proofs.Ytocoedpmcognpaa

def hi (a : Int) : Int := a / 18446744073709551616
def lo (a : Int) : Int := a % 18446744073709551616
/-- a is a wide number. -/
def R (a : Int) : Prop := -9223372036854775808 ≤ hi a ∧ hi a ≤ 9223372036854775807
instance (a : Int) : Decidable (R a) := inferInstanceAs (Decidable (_ ∧ _))
/-- a is below 0. -/
def ng (a : Int) : Bool := decide (a < 0)

theorem lo_bd (a : Int) : 0 ≤ lo a ∧ lo a ≤ 18446744073709551615 := by unfold lo; omega
theorem hi_lo (a : Int) : a = hi a * 18446744073709551616 + lo a := by unfold hi lo; omega
theorem hi_neg (a : Int) : decide (hi a < 0) = ng a := by unfold hi ng; rw [Bool.eq_iff_iff]; simp only [decide_eq_true_eq]; omega
end Go.Proofs.Ytocoedpmcognpaa
namespace Go.Proofs.Ytocoedpmcognpaa
open Go.RowKit

abbrev Wv (a : Int) : Value := .agg #[.int .i64 (hi a), .int .u64 (lo a)]

theorem below_any (a : Int) (w : World) :
    Calls Try.prog 35 #[Wv a] w fun e w' => e = .returned (.bool (ng a)) ∧ w.alloc (.cells #[.int .i64 (hi a), .int .u64 (lo a)] 49) = w' := by
  have H := Lib.hid (hi_neg a)
  go_enter Try.func35, Try.ntmps35
  go_wp2
  go_ret
  exact ⟨by rw [H.out]; rfl, rfl⟩

theorem isNaN_i64 (a : Int) (w : World) : Calls Try.prog 59 #[.int .i64 a] w fun e w' => e = .returned (.bool false) ∧ w = w' := by
  go_enter Try.func59, Try.ntmps59
  go_wp2
  go_ret
  exact ⟨by simp, rfl⟩
theorem isNaN_u64 (a : Int) (w : World) : Calls Try.prog 56 #[.int .u64 a] w fun e w' => e = .returned (.bool false) ∧ w = w' := by
  go_enter Try.func56, Try.ntmps56
  go_wp2
  go_ret
  exact ⟨by simp, rfl⟩

/-- -1, 0, 1: as cmp.Compare tells it. -/
def sg (a b : Int) : Int := if a < b then -1 else if a > b then 1 else 0
theorem sg_lt {a b : Int} (h : a < b) : sg a b = -1 := by unfold sg; rw [if_pos h]
theorem sg_gt {a b : Int} (h : b < a) : sg a b = 1 := by unfold sg; rw [if_neg (by omega), if_pos h]
theorem sg_eq (a : Int) : sg a a = 0 := by unfold sg; rw [if_neg (by omega), if_neg (by omega)]

theorem compare_i64 (a b : Int) (w : World) : Calls Try.prog 53 #[.int .i64 a, .int .i64 b] w fun e w' => e = .returned (.int .i64 (sg a b)) ∧ w = w' := by
  rcases Int.lt_trichotomy a b with h | rfl | h
  · have H := Lib.hid (sg_lt h)
    go_enter Try.func53, Try.ntmps53
    go_wp2_with (go_at_call 59; refine (isNaN_i64 _ _).mono ?_; rintro e w' ⟨rfl, rfl⟩)
    go_ret
    exact ⟨by rw [H.out]; rfl, rfl⟩
  · have H := Lib.hid (sg_eq a)
    go_enter Try.func53, Try.ntmps53
    go_wp2_with (go_at_call 59; refine (isNaN_i64 _ _).mono ?_; rintro e w' ⟨rfl, rfl⟩)
    go_ret
    exact ⟨by rw [H.out]; rfl, rfl⟩
  · have H := Lib.hid (sg_gt h)
    go_enter Try.func53, Try.ntmps53
    go_wp2_with (go_at_call 59; refine (isNaN_i64 _ _).mono ?_; rintro e w' ⟨rfl, rfl⟩)
    go_ret
    exact ⟨by rw [H.out]; rfl, rfl⟩

theorem compare_u64 (a b : Int) (w : World) : Calls Try.prog 49 #[.int .u64 a, .int .u64 b] w fun e w' => e = .returned (.int .i64 (sg a b)) ∧ w = w' := by
  rcases Int.lt_trichotomy a b with h | rfl | h
  · have H := Lib.hid (sg_lt h)
    go_enter Try.func49, Try.ntmps49
    go_wp2_with (go_at_call 56; refine (isNaN_u64 _ _).mono ?_; rintro e w' ⟨rfl, rfl⟩)
    go_ret
    exact ⟨by rw [H.out]; rfl, rfl⟩
  · have H := Lib.hid (sg_eq a)
    go_enter Try.func49, Try.ntmps49
    go_wp2_with (go_at_call 56; refine (isNaN_u64 _ _).mono ?_; rintro e w' ⟨rfl, rfl⟩)
    go_ret
    exact ⟨by rw [H.out]; rfl, rfl⟩
  · have H := Lib.hid (sg_gt h)
    go_enter Try.func49, Try.ntmps49
    go_wp2_with (go_at_call 56; refine (isNaN_u64 _ _).mono ?_; rintro e w' ⟨rfl, rfl⟩)
    go_ret
    exact ⟨by rw [H.out]; rfl, rfl⟩

theorem sg_hi {a b : Int} (h : hi a ≠ hi b) : sg (hi a) (hi b) = sg a b := by
  unfold sg hi at *
  repeat' split <;> try omega
theorem sg_lo {a b : Int} (h : hi a = hi b) : sg (lo a) (lo b) = sg a b := by
  unfold sg lo hi at *
  repeat' split <;> try omega

/-- wide.Cmp -/
theorem cmp_any (a b : Int) (w : World) : Calls Try.prog 45 #[Wv a, Wv b] w fun e w' => e = .returned (.int .i64 (sg a b)) ∧ Below w.heap.size w w' := by
  by_cases h : hi a = hi b
  · have H := Lib.hid (sg_lo h)
    have g : (hi a != hi b) = false := by simp [h]
    have K := Lib.hid h
    clear h
    go_enter Try.func45, Try.ntmps45
    go_wp2_with (go_at_call 49; refine (compare_u64 _ _ _).mono ?_; rintro e w' ⟨rfl, rfl⟩)
    go_ret
    exact ⟨by rw [H.out]; rfl, ((Below.refl _ _).alloc (Nat.le_refl _) _).alloc (by simp) _⟩
  · have H := Lib.hid (sg_hi h)
    have g : (hi a != hi b) = true := by simp [h]
    clear h
    go_enter Try.func45, Try.ntmps45
    go_wp2_with (go_at_call 53; refine (compare_i64 _ _ _).mono ?_; rintro e w' ⟨rfl, rfl⟩)
    go_ret
    exact ⟨by rw [H.out]; rfl, ((Below.refl _ _).alloc (Nat.le_refl _) _).alloc (by simp) _⟩

theorem wv0 : Wv 0 = .agg #[.int .i64 0, .int .u64 0] := rfl
/-- wide.Sign -/
theorem sign_any (a : Int) (w : World) : Calls Try.prog 36 #[Wv a] w fun e w' => e = .returned (.int .i64 (sg a 0)) ∧ Below w.heap.size w w' := by
  have C := Lib.hid (fun W => cmp_any a 0 W)
  rw [wv0] at C
  go_enter Try.func36, Try.ntmps36
  go_wp2_with (go_at_call 45; refine (C.out _).mono ?_; rintro e w' ⟨rfl, hb⟩)
  go_ret
  exact ⟨rfl, ((Below.refl _ _).alloc (Nat.le_refl _) _).trans (hb.mono (by simp))⟩
end Go.Proofs.Ytocoedpmcognpaa
