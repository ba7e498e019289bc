/-
  Reducing, in numbers: what is left of a shape, where a place goes, sums by places.
  Greatest words by places, and where they stand: plain mathematics.
  Reducing, in numbers: axes, rising; a shape with ones for its axes; where an index stands under it.
  Views as lists of whole numbers: where an index stands; plain mathematics.
  Views as lists of whole numbers: which may be; axes; what transposed, sliced, widened, reshaped views are; plain mathematics.
  Slices of whole numbers: what they read as; blocks of the call's own.
  shape.Count and shape.Check.
  slices.Backward over whole numbers: the iterator's contract, for every loop body that keeps the slice.
  shape.Strides.
  shape.Index: an index within a shape, the place under it.
  The laws' own helpers: lists held against one another, copied, written over; numbers brought within bounds.
  Lists held against one another, looked through, cloned: slices.Index, Contains, Equal, Clone; the reference's In.
  view.stays, Check.
-/
import Derived.WalkKit
import Derived.WalkSpells
import Derived.Lib.Hide
import Derived.LoopTactic
import Derived.Below
import Derived.Laws.OwnMore
import Derived.Deep.AppendLies
import Derived.Deep.Draws
import Derived.RangeFuncNested
import Derived.RangeFuncBound
import Derived.RangeFuncCalls
import Derived.RangeFuncLeaves
import Derived.RangeFuncBox
import Derived.Shelf.Abstract
import Derived.Shelf.RegionOpen
import Derived.OwnWalkIn
import Derived.TacticsInMore
import Derived.LoopNIn
import Derived.LoopIn
import Derived.Maps.AppendAt
import Derived.Laws.MakeOwn
import Derived.OwnWalk
import Derived.Outline
import Derived.Deep.QuietTactic
import Derived.BigQuiet
import Derived.Laws.AppendOwn
import Derived.Lib.SliceRun
import Derived.WalkMore
import Derived.Test.YtmafgdinegboeaaGreatM12
namespace Go.Proofs.YtmafgdinegboeaaGreat

/-- What is left of a list without the axes (o: the first number's own). -/
def lf : List Int → List Int → Nat → List Int
  | [], _, _ => []
  | d :: r, ax, o => if (o : Int) ∈ ax then lf r ax (o + 1) else d :: lf r ax (o + 1)
theorem lf_snoc (ax : List Int) (d : Int) : ∀ (s : List Int) (o : Nat), lf (s ++ [d]) ax o = lf s ax o ++ (if ((o + s.length : Nat) : Int) ∈ ax then [] else [d])
  | [], o => by
    show (if (o : Int) ∈ ax then lf [] ax (o + 1) else d :: lf [] ax (o + 1)) = _
    simp only [List.length_nil, Nat.add_zero]
    split <;> rfl
  | e :: r, o => by
    have ih := lf_snoc ax d r (o + 1)
    rw [show o + 1 + r.length = o + (e :: r).length by simp; omega] at ih
    show (if (o : Int) ∈ ax then lf (r ++ [d]) ax (o + 1) else e :: lf (r ++ [d]) ax (o + 1)) = (if (o : Int) ∈ ax then lf r ax (o + 1) else e :: lf r ax (o + 1)) ++ _
    rw [ih]
    by_cases h : (o : Int) ∈ ax
    · rw [if_pos h, if_pos h]
    · rw [if_neg h, if_neg h]; rfl
theorem lf_step {s ax : List Int} {k : Nat} (h : k < s.length) : lf (s.take (k + 1)) ax 0 = lf (s.take k) ax 0 ++ (if (k : Int) ∈ ax then [] else [s.getD k 0]) := by
  rw [List.take_succ_eq_append_getElem h, lf_snoc ax s[k] (s.take k) 0, List.length_take, Nat.zero_add, Nat.min_eq_left (by omega)]
  rw [show s.getD k 0 = s[k] by simp [List.getD, List.getElem?_eq_getElem h]]
theorem lf_len_le (ax : List Int) : ∀ (s : List Int) (o : Nat), (lf s ax o).length ≤ s.length
  | [], _ => Nat.le_refl _
  | d :: r, o => by
    have := lf_len_le ax r (o + 1)
    unfold lf; split <;> simp <;> omega
theorem lf_mem {ax : List Int} : ∀ {s : List Int} {o : Nat} {x : Int}, x ∈ lf s ax o → x ∈ s
  | [], _, _, h => h
  | d :: r, o, x, h => by
    unfold lf at h
    split at h
    · exact List.mem_cons_of_mem _ (lf_mem h)
    · rcases List.mem_cons.1 h with rfl | h
      · exact List.mem_cons_self ..
      · exact List.mem_cons_of_mem _ (lf_mem h)
theorem lf_prod (ax : List Int) : ∀ (s : List Int) (o : Nat), pos s → 1 ≤ prod (lf s ax o) ∧ prod (lf s ax o) ≤ prod s
  | [], _, _ => ⟨Int.le_refl _, Int.le_refl _⟩
  | d :: r, o, h => by
    have ih := lf_prod ax r (o + 1) (fun x hx => h x (List.mem_cons_of_mem _ hx))
    have hd := h d (List.mem_cons_self ..)
    have h1 : prod r ≤ d * prod r := by
      have := Int.mul_le_mul_of_nonneg_right hd (show 0 ≤ prod r by omega)
      omega
    unfold lf; split
    · exact ⟨ih.1, Int.le_trans ih.2 h1⟩
    · refine ⟨?_, ?_⟩
      · show 1 ≤ d * prod (lf r ax (o + 1))
        have := Int.mul_le_mul hd ih.1 (by omega) (by omega)
        omega
      · show d * prod (lf r ax (o + 1)) ≤ d * prod r
        exact Int.mul_le_mul_of_nonneg_left ih.2 (by omega)
theorem lf_may {s : List Int} (ax : List Int) (h : may s = true) : may (lf s ax 0) = true := by
  obtain ⟨a, b, c⟩ := (may_iff s).1 h
  have hp := lf_prod ax s 0 (may_pos h)
  exact (may_iff _).2 ⟨Nat.le_trans (lf_len_le ax s 0) a, fun d hd => b d (lf_mem hd), by omega⟩
theorem lf_inx (ax : List Int) : ∀ {s i : List Int} (o : Nat), inx s i = true → inx (lf s ax o) (lf i ax o) = true
  | [], [], _, h => h
  | d :: r, e :: t, o, h => by
    have h' := h
    unfold inx at h'
    simp only [Bool.and_eq_true, decide_eq_true_eq] at h'
    have ih := lf_inx ax (o + 1) h'.2
    unfold lf; split
    · exact ih
    · unfold inx
      simp only [Bool.and_eq_true, decide_eq_true_eq]
      exact ⟨h'.1, ih⟩
  | [], _ :: _, _, h => by simp [inx] at h
  | _ :: _, [], _, h => by simp [inx] at h
/-- Where a place goes. -/
def into (s ax : List Int) (n : Nat) : Int := ix (lf s ax 0) (lf (atl s (n : Nat)) ax 0)
theorem into_bd {s : List Int} (ax : List Int) {n : Nat} (h : pos s) (hn : (n : Int) < prod s) : inx (lf s ax 0) (lf (atl s (n : Nat)) ax 0) = true ∧ 0 ≤ into s ax n ∧ into s ax n < prod (lf s ax 0) := by
  have hi := lf_inx ax 0 (atl_inx s (n : Nat) h (by omega) hn)
  exact ⟨hi, ix_bd hi⟩
/-- The sum of what goes to m, of the first n. -/
def smN (key d : Nat → Int) (m : Int) : Nat → Int
  | 0 => 0
  | n + 1 => smN key d m n + if key n = m then d n else 0
theorem smN_bd {key d : Nat → Int} {m B : Int} (h0 : 0 ≤ B) : ∀ {n : Nat}, (∀ k, k < n → -B ≤ d k ∧ d k ≤ B) → -(B * n) ≤ smN key d m n ∧ smN key d m n ≤ B * n
  | 0, _ => by simp [smN]
  | n + 1, h => by
    have ih := smN_bd (key := key) (m := m) h0 (n := n) (fun k hk => h k (by omega))
    have hd := h n (by omega)
    unfold smN
    rw [show ((n + 1 : Nat) : Int) = (n : Int) + 1 by omega, Int.mul_add, Int.mul_one]
    split <;> omega
end Go.Proofs.YtmafgdinegboeaaGreat
namespace Go.Proofs.YtmafgdinegboeaaGreat

/-- The greatest word of what goes to k, of the first n (the words in order; st: where a word stands along the axis). -/
def mxv (key st d : Nat → Int) : Nat → Int → Int
  | 0, _ => 0
  | n + 1, k => if key n = k ∧ (st n = 0 ∨ mxv key st d n k < d n) then d n else mxv key st d n k
/-- Where it stands first. -/
def mxp (key st d : Nat → Int) : Nat → Int → Int
  | 0, _ => 0
  | n + 1, k => if key n = k ∧ (st n = 0 ∨ mxv key st d n k < d n) then st n else mxp key st d n k
end Go.Proofs.YtmafgdinegboeaaGreat
namespace Go.Proofs.YtmafgdinegboeaaGreat

/-- Rising numbers of axes, above the one before. -/
def axb (n : Int) : List Int → Int → Bool
  | [], _ => true
  | a :: r, l => decide (l < a) && decide (a < n) && axb n r a
theorem axb_drop {n l : Int} {ax : List Int} {k : Nat} (h : k < ax.length) : axb n (ax.drop k) l = (decide (l < ax.getD k 0) && decide (ax.getD k 0 < n) && axb n (ax.drop (k + 1)) (ax.getD k 0)) := by
  rw [drop_getD h]; rfl
theorem axb_step {n l : Int} {ax : List Int} {k : Nat} (h : k < ax.length) (h1 : l < ax.getD k 0) (h2 : ax.getD k 0 < n) : axb n (ax.drop k) l = axb n (ax.drop (k + 1)) (ax.getD k 0) := by
  rw [axb_drop h, decide_eq_true h1, decide_eq_true h2]; rfl
theorem axb_stop {n l : Int} {ax : List Int} {k : Nat} (h : k < ax.length) (h1 : ¬ (l < ax.getD k 0 ∧ ax.getD k 0 < n)) : axb n (ax.drop k) l = false := by
  rw [axb_drop h]
  by_cases a : l < ax.getD k 0
  · rw [decide_eq_false (show ¬ ax.getD k 0 < n from fun b => h1 ⟨a, b⟩)]; simp
  · rw [decide_eq_false a]; rfl
theorem axb_one {n a : Nat} (h : a < n) : axb (n : Int) [(a : Int)] (-1) = true := by
  unfold axb axb
  rw [decide_eq_true (by omega), decide_eq_true (by omega)]; rfl
/-- A shape with ones for its axes. -/
def ons : List Int → List Int → Nat → List Int
  | [], _, _ => []
  | d :: r, ax, o => (if (o : Int) ∈ ax then 1 else d) :: ons r ax (o + 1)
theorem ons_len (ax : List Int) : ∀ (s : List Int) (o : Nat), (ons s ax o).length = s.length
  | [], _ => rfl
  | d :: r, o => by simp [ons, ons_len ax r (o + 1)]
theorem ons_getD (ax : List Int) : ∀ (s : List Int) (o k : Nat), k < s.length → (ons s ax o).getD k 0 = if ((o + k : Nat) : Int) ∈ ax then 1 else s.getD k 0
  | [], _, k, h => by simp at h
  | d :: r, o, 0, _ => by simp [ons]
  | d :: r, o, k + 1, h => by
    have := ons_getD ax r (o + 1) k (by simpa using h)
    rw [show o + (k + 1) = o + 1 + k by omega]
    simpa [ons] using this
theorem ons_prod (ax : List Int) : ∀ (s : List Int) (o : Nat), prod (ons s ax o) = prod (lf s ax o)
  | [], _ => rfl
  | d :: r, o => by
    have ih := ons_prod ax r (o + 1)
    unfold ons lf
    split
    · show 1 * prod (ons r ax (o + 1)) = _
      rw [Int.one_mul, ih]
    · show d * prod (ons r ax (o + 1)) = d * prod (lf r ax (o + 1))
      rw [ih]
theorem ons_ix (ax : List Int) : ∀ (s i : List Int) (o : Nat), inx s i = true → ix (ons s ax o) (msk (ons s ax o) i) = ix (lf s ax o) (lf i ax o)
  | [], [], _, _ => rfl
  | d :: r, x :: t, o, h => by
    unfold inx at h
    simp only [Bool.and_eq_true, decide_eq_true_eq] at h
    have ih := ons_ix ax r t (o + 1) h.2
    unfold ons lf
    by_cases e : (o : Int) ∈ ax
    · rw [if_pos e, if_pos e]
      show (if (1 : Int) < 1 then x else 0) * prod (ons r ax (o + 1)) + ix (ons r ax (o + 1)) (msk (ons r ax (o + 1)) t) = ix (lf r ax (o + 1)) (if _ then lf t ax (o + 1) else x :: lf t ax (o + 1))
      rw [if_pos e, ih]; simp
    · rw [if_neg e, if_neg e]
      show (if 1 < d then x else 0) * prod (ons r ax (o + 1)) + ix (ons r ax (o + 1)) (msk (ons r ax (o + 1)) t) = ix (d :: lf r ax (o + 1)) (if _ then lf t ax (o + 1) else x :: lf t ax (o + 1))
      rw [if_neg e, ih]
      show _ = x * prod (lf r ax (o + 1)) + ix (lf r ax (o + 1)) (lf t ax (o + 1))
      rw [ons_prod]
      by_cases hd : 1 < d
      · rw [if_pos hd]
      · rw [if_neg hd, show x = 0 by omega]
  | [], _ :: _, _, h => by simp [inx] at h
  | _ :: _, [], _, h => by simp [inx] at h
theorem ons_may {s : List Int} (ax : List Int) (h : may s = true) : may (ons s ax 0) = true := by
  obtain ⟨a, b, c⟩ := (may_iff s).1 h
  have hp := lf_prod ax s 0 (may_pos h)
  refine (may_iff _).2 ⟨by rw [ons_len]; exact a, fun d hd => ?_, by rw [ons_prod]; omega⟩
  obtain ⟨k, hk, rfl⟩ := List.getElem_of_mem hd
  have e := ons_getD ax s 0 k (by rwa [ons_len] at hk)
  rw [List.getD_eq_getElem?_getD, List.getElem?_eq_getElem hk] at e
  rw [show (ons s ax 0)[k] = (some (ons s ax 0)[k]).getD 0 from rfl, e]
  have := may_dim h (i := k) (by rwa [ons_len] at hk)
  split <;> omega
theorem ons_goes {s : List Int} (ax : List Int) (h : may s = true) : goes (ons s ax 0) s = true := by
  rw [goes_is (ons_may ax h) h, ons_len, decide_eq_true (Nat.le_refl _), Bool.true_and, gN_iff]
  intro j h1 h2
  have e1 := ov_at (s := ons s ax 0) (k := s.length - j) (by rw [ons_len]; omega)
  have e2 := ov_at (s := s) (k := s.length - j) (by omega)
  rw [ons_len, show s.length - (s.length - j) = j by omega, ons_getD ax s 0 _ (by omega)] at e1
  rw [show s.length - (s.length - j) = j by omega] at e2
  rw [e1, e2]
  split
  · exact .inl rfl
  · exact .inr rfl
theorem ons_und {s : List Int} (ax : List Int) {n : Nat} (h : pos s) (hn : (n : Int) < prod s) : und (ons s ax 0) (atl s (n : Nat)) = into s ax n := by
  have hi := atl_inx s (n : Nat) h (by omega) hn
  unfold und into
  rw [lst_same (by rw [ons_len, atl_len]), ons_ix ax _ _ 0 hi]
/-- A list that was gone through so far. -/
theorem ons_end {s ax L : List Int} (hl : L.length = s.length) (h : ∀ j, j < s.length → L.getD j 0 = if (j : Int) ∈ ax then 1 else s.getD j 0) : L = ons s ax 0 := by
  refine ext_getD (by rw [hl, ons_len]) (fun k hk => ?_)
  rw [h k (by omega), ons_getD ax s 0 k (by omega), Nat.zero_add]
theorem lf_prod_step {s ax : List Int} {k : Nat} (h : k < s.length) : prod (lf (s.take (k + 1)) ax 0) = if (k : Int) ∈ ax then prod (lf (s.take k) ax 0) else prod (lf (s.take k) ax 0) * s.getD k 0 := by
  have pa : ∀ (l : List Int) (x : Int), prod (l ++ [x]) = prod l * x := fun l x => by
    induction l with
    | nil => show x * 1 = 1 * x; omega
    | cons a r ih => show a * prod (r ++ [x]) = a * prod r * x; rw [ih, Int.mul_assoc]
  rw [lf_step h]
  by_cases e : (k : Int) ∈ ax
  · rw [if_pos e, if_pos e, List.append_nil]
  · rw [if_neg e, if_neg e, pa]
theorem lf_take_prod {s : List Int} (ax : List Int) (h : may s = true) (k : Nat) : 1 ≤ prod (lf (s.take k) ax 0) ∧ prod (lf (s.take k) ax 0) ≤ 65536 := by
  have ht : pos (s.take k) := fun x hx => may_pos h x (List.mem_of_mem_take hx)
  have h1 := lf_prod ax (s.take k) 0 ht
  have h2 : prod (s.take k) ≤ prod s := by
    have pm : ∀ (a b : List Int), prod (a ++ b) = prod a * prod b := fun a b => by
      induction a with
      | nil => show prod b = 1 * prod b; omega
      | cons x r ih => show x * prod (r ++ b) = x * prod r * prod b; rw [ih, Int.mul_assoc]
    have e := pm (s.take k) (s.drop k)
    rw [List.take_append_drop] at e
    rw [e]
    have p1 := prod_pos ht
    have p2 := prod_pos (pos_drop (may_pos h) k)
    have := Int.mul_le_mul_of_nonneg_left p2 (show 0 ≤ prod (s.take k) by omega)
    omega
  have := may_prod h
  omega
end Go.Proofs.YtmafgdinegboeaaGreat
namespace Go.Proofs.YtmafgdinegboeaaGreat

/-- How far the last index stands from the first one. -/
def far : List Int → List Int → Int
  | s :: r, d :: t => (d - 1) * s + far r t
  | _, _ => 0
end Go.Proofs.YtmafgdinegboeaaGreat
namespace Go.Proofs.YtmafgdinegboeaaGreat

/-- A list, where there is no error. -/
def unl (e : Int) (l : List Int) : List Int := if e = 0 then l else []
end Go.Proofs.YtmafgdinegboeaaGreat
namespace Go.Proofs.YtmafgdinegboeaaGreat
open Go.RowKit

/-- What a slice of whole numbers reads as. -/
def Ld (w : World) (v : Value) (ls : List Int) : Prop := ∃ o c, v = .slice o ls.length c ∧ ls.length ≤ c ∧
  ∀ i, i < ls.length → ∃ b f, o = some ⟨b, f, none⟩ ∧ b < w.heap.size ∧ w.cell? ⟨b, f + i, none⟩ = some (.int .i64 (ls.getD i 0))
theorem Ld.keep {w w' : World} {B : Nat} {v : Value} {ls : List Int} (h : Ld w v ls) (hB : w.heap.size ≤ B) (hb : Below B w w') : Ld w' v ls := by
  obtain ⟨o, c, rfl, hc, h⟩ := h
  refine ⟨o, c, rfl, hc, fun i hi => ?_⟩
  obtain ⟨b, f, ho, hl, hx⟩ := h i hi
  exact ⟨b, f, ho, Nat.lt_of_lt_of_le hl hb.size, (hb.cell (p := ⟨b, f + i, none⟩) (Nat.lt_of_lt_of_le hl hB)).trans hx⟩
theorem Ld.below {w w' : World} {v : Value} {ls : List Int} (h : Ld w v ls) (hb : Below w.heap.size w w') : Ld w' v ls := h.keep (Nat.le_refl _) hb
theorem Ld.nil (w : World) : Ld w (.slice none 0 0) [] := ⟨none, 0, rfl, Nat.le_refl _, fun i hi => by simp at hi⟩
/-- The same slice, in an earlier world of which it lay below. -/
theorem Ld.form {w : World} {v : Value} {ls : List Int} (h : Ld w v ls) : ∃ o c, v = .slice o ls.length c ∧ ls.length ≤ c ∧
  ∀ i, i < ls.length → ∃ b f, o = some ⟨b, f, none⟩ ∧ b < w.heap.size ∧ w.cell? ⟨b, f + i, none⟩ = some (.int .i64 (ls.getD i 0)) := h

/-- A block that is known whole. -/
def Blk (w : World) (g : Nat) (t : TypeId) (cs : Array Value) : Prop := w.heap[g]? = some (.cells cs t (0, 0))
section
variable {w w' : World} {g : Nat} {t : TypeId} {cs : Array Value}
theorem Blk.lt (h : Blk w g t cs) : g < w.heap.size := by
  rcases Nat.lt_or_ge g w.heap.size with hlt | hge
  · exact hlt
  · unfold Blk at h; rw [Array.getElem?_eq_none hge] at h; cases h
theorem Blk.cell (h : Blk w g t cs) (i : Nat) : w.cell? ⟨g, i, none⟩ = cs[i]? := cell_of_row w g i cs t (0, 0) h
theorem Blk.frozen (h : Blk w g t cs) (i : Nat) : w.frozen? ⟨g, i, none⟩ = false := by
  unfold Blk at h
  simp [World.frozen?, h]
theorem Blk.new (w : World) (t : TypeId) (cs : Array Value) : Blk (w.alloc (.cells cs t)) w.heap.size t cs := heap_alloc_new w _
theorem Blk.drew (h : Blk w g t cs) : Blk w.drew g t cs := h
theorem Blk.alloc (h : Blk w g t cs) (o : Obj) : Blk (w.alloc o) g t cs := (Below.heap_alloc w o g h.lt).trans h
theorem Blk.set_ (h : Blk w g t cs) (i : Nat) (u : Value) : Blk (w.setCell ⟨g, i, none⟩ u) g t (cs.setIfInBounds i u) := by
  unfold Blk at h ⊢
  simp [World.setCell, Array.getElem?_modify, h]
theorem Blk.far (h : Blk w g t cs) {p : Addr} (hp : g ≠ p.block) (u : Value) : Blk (w.setCell p u) g t cs := (Below.heap_setCell w p u g hp).trans h
theorem Blk.below {B : Nat} (h : Blk w g t cs) (hb : Below B w w') (hg : g < B) : Blk w' g t cs := (hb.block g hg).trans h
end

/-- The cells of a list. -/
def ints (ls : List Int) : List Value := ls.map (Value.int .i64 ·)
theorem ints_at {ls : List Int} {i : Nat} (h : i < ls.length) : (ints ls).toArray[i]? = some (.int .i64 (ls.getD i 0)) := by
  simp [ints, List.getD, List.getElem?_eq_getElem h]
/-- A block that holds a list. -/
theorem Ld.of_blk {w : World} {g : Nat} {t : TypeId} {ls : List Int} (h : Blk w g t (ints ls).toArray) {c : Nat} (hc : ls.length ≤ c) : Ld w (.slice (some ⟨g, 0, none⟩) ls.length c) ls :=
  ⟨_, c, rfl, hc, fun i hi => ⟨g, 0, rfl, h.lt, by rw [Nat.zero_add, h.cell, ints_at hi]⟩⟩
theorem made_ints (n : Nat) : madeCells #[.int .i64 0] n = (ints (List.replicate n 0)).toArray := by
  apply Array.ext
  · simp [madeCells, ints]
  · intro i h1 h2
    simp [madeCells, ints, Nat.mod_one]
theorem ints_set (ls : List Int) (k : Nat) (v : Int) : (ints ls).toArray.setIfInBounds k (.int .i64 v) = (ints (ls.set k v)).toArray := by
  apply Array.ext
  · simp [ints]
  · intro i h1 h2
    by_cases e : k = i
    · subst e; simp [ints]
    · simp only [List.setIfInBounds_toArray, List.getElem_toArray, List.getElem_set, ints, List.getElem_map]
      simp [e]
theorem Blk.put {w : World} {g : Nat} {t : TypeId} {ls : List Int} (h : Blk w g t (ints ls).toArray) (k : Nat) (v : Int) : Blk (w.setCell ⟨g, k, none⟩ (.int .i64 v)) g t (ints (ls.set k v)).toArray := by
  rw [← ints_set]; exact h.set_ k _
theorem set_getD_self {ls : List Int} {k : Nat} {v : Int} (h : k < ls.length) : (ls.set k v).getD k 0 = v := by simp [List.getD, List.getElem?_set_self h]
theorem set_getD_ne {ls : List Int} {k j : Nat} {v : Int} (h : k ≠ j) : (ls.set k v).getD j 0 = ls.getD j 0 := by simp [List.getD, List.getElem?_set_ne h]
end Go.Proofs.YtmafgdinegboeaaGreat
namespace Go.Proofs.YtmafgdinegboeaaGreat
open Go.RowKit

set_option maxRecDepth 100000 in
set_option maxHeartbeats 2000000 in
theorem count_ok (v : Value) (ls : List Int) (w : World) (h : Ld w v ls) (hm : may ls = true) :
    Calls Tryz.prog 147 #[v] w fun e w' => e = .returned (.tuple #[.int .i64 (prod ls), .int .i64 0]) ∧ w = w' := by
  obtain ⟨o, c, rfl, _, hx⟩ := h
  have HX := Lib.hid hx
  have hl := may_len hm
  have HC := Lib.hid (may_cnt hm)
  have HP := Lib.hid (may_prod hm)
  clear hx hm
  go_enter Tryz.func147, Tryz.ntmps147
  go_wp2
  go_loop [4, 12] (fun s4 s12 => ∃ (k : Nat) (m : Int), k ≤ ls.length ∧ 1 ≤ m ∧ m ≤ 65536 ∧ s12 = .int .i64 k ∧ s4 = .int .i64 m ∧ Hid (cnt m (ls.drop k) = cnt 1 ls)) (fun _ s12 => ls.length - (intOf s12).toNat)
  case atStart => exact ⟨0, 1, Nat.zero_le _, by decide, by decide, rfl, rfl, rfl⟩
  case round =>
    obtain ⟨k, m, hk, m0, m1, rfl, rfl, HM⟩ := hrel
    by_cases hlt : k < ls.length
    · obtain ⟨b, f, rfl, hb, hc⟩ := HX.out k hlt
      have st := cnt_step hlt m
      rw [HM.out, HC.out] at st
      obtain ⟨d, hd⟩ : ∃ d, d = ls.getD k 0 := ⟨_, rfl⟩
      rw [← hd] at st hc
      have hp := HP.out
      have g : 1 ≤ d ∧ d ≤ 4096 ∧ d * m ≤ 65536 := Classical.byContradiction fun g => by rw [if_neg g] at st; omega
      rw [if_pos g] at st
      obtain ⟨g1, g2, g3⟩ := g
      have q : ¬ 65536 / m < d := by rw [quo_lt m0]; omega
      have m2 : 1 ≤ m * d := by have := Int.mul_le_mul m0 g1 (by decide) (by omega); omega
      have m3 : m * d ≤ 65536 := by rw [Int.mul_comm]; omega
      have ST := Lib.hid st
      clear st hd hp g3
      go_wp2
      refine ⟨⟨k + 1, m * d, by omega, m2, m3, by go_num, rfl, by unfold Hid; rw [← ST.out, HC.out]⟩, by simp [intOf]; omega⟩
    · obtain rfl : m = prod ls := by
        have := HM.out
        rw [List.drop_eq_nil_of_le (by omega), HC.out] at this
        exact this
      go_wp2
      go_ret2
      exact ⟨rfl, rfl⟩

set_option maxRecDepth 100000 in
set_option maxHeartbeats 2000000 in
theorem count_no (v : Value) (ls : List Int) (w : World) (h : Ld w v ls) (hm : may ls = false) :
    Calls Tryz.prog 147 #[v] w fun e w' => e = .returned (.tuple #[.int .i64 0, .int .i64 1]) ∧ w = w' := by
  obtain ⟨o, c, rfl, _, hx⟩ := h
  have HX := Lib.hid hx
  clear hx
  by_cases h4 : 4 < ls.length
  · clear hm
    go_enter Tryz.func147, Tryz.ntmps147
    go_wp2
    go_ret2
    exact ⟨rfl, rfl⟩
  have HC : Hid (cnt 1 ls = 0) := by rcases may_no hm with a | a
                                     · exact absurd a h4
                                     · exact a
  clear hm
  go_enter Tryz.func147, Tryz.ntmps147
  go_wp2
  go_loop [4, 12] (fun s4 s12 => ∃ (k : Nat) (m : Int), k ≤ ls.length ∧ 1 ≤ m ∧ m ≤ 65536 ∧ s12 = .int .i64 k ∧ s4 = .int .i64 m ∧ Hid (cnt m (ls.drop k) = cnt 1 ls)) (fun _ s12 => ls.length - (intOf s12).toNat)
  case atStart => exact ⟨0, 1, Nat.zero_le _, by decide, by decide, rfl, rfl, rfl⟩
  case round =>
    obtain ⟨k, m, hk, m0, m1, rfl, rfl, HM⟩ := hrel
    by_cases hlt : k < ls.length
    · obtain ⟨b, f, rfl, hb, hc⟩ := HX.out k hlt
      have st := cnt_step hlt m
      rw [HM.out, HC.out] at st
      obtain ⟨d, hd⟩ : ∃ d, d = ls.getD k 0 := ⟨_, rfl⟩
      rw [← hd] at st hc
      by_cases g1 : d < 1
      · clear st hd
        go_wp2
        go_ret2
        exact ⟨rfl, rfl⟩
      by_cases g2 : 4096 < d
      · clear st hd
        go_wp2
        go_ret2
        exact ⟨rfl, rfl⟩
      by_cases g3 : 65536 / m < d
      · clear st hd
        go_wp2
        go_ret2
        exact ⟨rfl, rfl⟩
      have g4 : d * m ≤ 65536 := Classical.byContradiction fun g => g3 ((quo_lt m0).2 g)
      rw [if_pos ⟨by omega, by omega, g4⟩] at st
      have m2 : 1 ≤ m * d := by have := Int.mul_le_mul m0 (show 1 ≤ d by omega) (by decide) (by omega); omega
      have m3 : m * d ≤ 65536 := by rw [Int.mul_comm]; omega
      have ST := Lib.hid st
      clear st hd g4
      go_wp2
      refine ⟨⟨k + 1, m * d, by omega, m2, m3, by go_num, rfl, by unfold Hid; rw [← ST.out, HC.out]⟩, by simp [intOf]; omega⟩
    · exfalso
      have := HM.out
      rw [List.drop_eq_nil_of_le (by omega), HC.out] at this
      simp [cnt] at this
      omega

set_option maxRecDepth 100000 in
theorem check_ok (v : Value) (ls : List Int) (w : World) (h : Ld w v ls) (hm : may ls = true) :
    Calls Tryz.prog 124 #[v] w fun e w' => e = .returned (.int .i64 0) ∧ w = w' := by
  have C := Lib.hid (count_ok v ls w h hm)
  clear h hm
  go_enter Tryz.func124, Tryz.ntmps124
  go_wp2_with (go_at_call 147; (with_reducible refine C.out.mono ?_); rintro e w' ⟨rfl, rfl⟩)
  go_ret
  exact ⟨rfl, rfl⟩
end Go.Proofs.YtmafgdinegboeaaGreat
namespace Go.Proofs.YtmafgdinegboeaaGreat
open Go.RowKit Go.Shelf
attribute [local go_sem] Oper.semAt_some

/-- Places, from the last one down. -/
def rs {n : Nat} : (j : Nat) → j ≤ n → List (Fin n)
  | 0, _ => []
  | j + 1, h => ⟨j, h⟩ :: rs j (by omega)
theorem rs_len {n : Nat} : ∀ (j : Nat) (h : j ≤ n), (rs j h).length = j
  | 0, _ => rfl
  | j + 1, h => by simp [rs, rs_len j]
/-- All places, from the last one down. -/
def bk (n : Nat) : List (Fin n) := rs n (Nat.le_refl n)
/-- What a round must keep: what lay there ahead, and the box. -/
def KeepB (n0 B : Nat) (W W' : World) : Prop := W'.heap[B]? = W.heap[B]? ∧ ∀ k, k < n0 → W'.heap[k]? = W.heap[k]?
theorem KeepB.refl (n0 B : Nat) (W : World) : KeepB n0 B W W := ⟨rfl, fun _ _ => rfl⟩
theorem KeepB.trans {n0 B : Nat} {a b c : World} (h : KeepB n0 B a b) (k : KeepB n0 B b c) : KeepB n0 B a c := ⟨k.1.trans h.1, fun i hi => (k.2 i hi).trans (h.2 i hi)⟩
theorem KeepB.cell {n0 B : Nat} {W W' : World} (h : KeepB n0 B W W') : W'.cell? ⟨B, 0, none⟩ = W.cell? ⟨B, 0, none⟩ := by simp [World.cell?, h.1]
theorem KeepB.old {n0 B b o : Nat} {W W' : World} (h : KeepB n0 B W W') (hb : b < n0) : W'.cell? ⟨b, o, none⟩ = W.cell? ⟨b, o, none⟩ := by simp [World.cell?, h.2 b hb]
theorem KeepB.put {n0 B : Nat} {w : World} (hn : n0 ≤ w.heap.size) (hB : B < w.heap.size) (W : World) (l : Nat) (o o' : Obj) (hl : w.heap.size ≤ l) (_ : W.heap[l]? = some o) (_ : o.isCells = false) (_ : o.isWalk = false) : KeepB n0 B W (W.putObj l o') :=
  ⟨World.putObj_heap_other (by omega), fun k h2 => World.putObj_heap_other (by omega)⟩
/-- The pair that the body is told. -/
def pr (ls : List Int) (x : Fin ls.length) : Array Value := #[.int .i64 (x.1 : Nat), .int .i64 (ls.getD x.1 0)]

set_option maxRecDepth 100000 in
set_option maxHeartbeats 2000000 in
theorem back1_in (F : Fence) (n : Nat) (hfn : F.fn 215) (hro : F.round = none) (hn : 1 ≤ n) (l B n0 : Nat) (o : Option Addr) (c : Nat) (ls : List Int) (hl : ls.length ≤ 1073741824) (J Jx : List (Fin ls.length) → World → Prop)
    (hY : ∀ pre x W, J pre W → pre.length < ls.length → YieldAt F (n - 1) Tryz.prog l (pr ls x) W fun e W' =>
      (e = .returned (.bool true) ∧ J (pre ++ [x]) W' ∧ KeepB n0 B W W') ∨ (e = .returned (.bool false) ∧ Jx (pre ++ [x]) W'))
    (W : World) (h0s : W.cell? ⟨B, 0, none⟩ = some (.slice o ls.length c)) (hx : ∀ i, i < ls.length → ∃ b f, o = some ⟨b, f, none⟩ ∧ b < n0 ∧ W.cell? ⟨b, f + i, none⟩ = some (.int .i64 (ls.getD i 0))) (h0 : J [] W) :
    CallsIn F n Tryz.prog 215 #[.func (.yield l) #[] #[], .pointer (some ⟨B, 0, none⟩)] W fun e W' => (∃ v, e = .returned v) ∧
      ((∃ ys, ys = bk ls.length ∧ J ys W') ∨ (∃ pre, pre <+: bk ls.length ∧ Jx pre W')) := by
  have HX := Lib.hid hx
  clear hx
  refine callsIn_of_wp Tryz.func215 rfl hfn ?_ hro
  simp only [Tryz.ntmps215, List.size_toArray, List.length_cons, List.length_nil, Nat.reduceAdd, Nat.reduceSub, Array.replicate_succ, Array.replicate_zero, List.push_toArray, List.append_toArray, List.nil_append, List.cons_append]
  gi_wp2
  gi_loopw [3] (fun v wr => ∃ (pre : List (Fin ls.length)) (j : Nat) (hj : j ≤ ls.length), v = .int .i64 ((j : Int) - 1) ∧ Hid (pre ++ rs j hj = bk ls.length) ∧ J pre wr ∧ KeepB n0 B W wr)
    (fun v _ => (intOf v + 1).toNat)
  case atStart =>
    exact ⟨[], ls.length, Nat.le_refl _, rfl, rfl, h0, KeepB.refl _ _ _⟩
  case round =>
    obtain ⟨pre, j, hj, rfl, hp, hJs, hnx⟩ := hrel
    have c0 : wr.cell? ⟨B, 0, none⟩ = some (.slice o ls.length c) := hnx.cell.trans h0s
    cases j with
    | zero =>
      gi_wp2
      go_end0
      have hp := hp.out
      simp only [rs, List.append_nil] at hp
      exact ⟨⟨_, rfl⟩, .inl ⟨pre, hp, hJs⟩⟩
    | succ j =>
      obtain ⟨b, f, rfl, hb, hc⟩ := HX.out j hj
      have hc' : wr.cell? ⟨b, f + j, none⟩ = some (.int .i64 (ls.getD j 0)) := (hnx.old hb).trans hc
      have hpl : pre.length < ls.length := by
        have h1 := congrArg List.length hp.out
        rw [List.length_append, rs_len, bk, rs_len] at h1
        omega
      have hy0 := hY pre ⟨j, hj⟩ wr hJs hpl
      unfold pr at hy0
      obtain ⟨fn, tmps, assign, body, hy, hR⟩ := hy0
      have ej : ((j + 1 : Nat) : Int) - 1 = (j : Int) := by omega
      rw [ej]
      generalize ls.getD j 0 = x at *
      clear hc
      gi_wp2
      refine hR.mono ?_
      rintro e W3 (⟨rfl, hJ3, hk3⟩ | ⟨rfl, hJx3⟩)
      · have c1' : W3.cell? ⟨B, 0, none⟩ = some (.slice (some ⟨b, f, none⟩) ls.length c) := hk3.cell.trans c0
        gi_wp2
        go_roundw
        case rel => exact ⟨pre ++ [⟨j, hj⟩], j, by omega, rfl, by have := hp.out; rw [← this]; simp [rs, Hid], hJ3, hnx.trans hk3⟩
        case measure => simp [intOf]
      · gi_wp2
        refine bodyPost_ret (results_none rfl _ _ _) rfl ?_
        exact ⟨⟨_, rfl⟩, .inr ⟨pre ++ [⟨j, hj⟩], ⟨rs j (by omega), by have := hp.out; rw [← this]; simp [rs]⟩, hJx3⟩⟩

/-- The iterator's contract. -/
theorem back_stops (F : Fence) (n : Nat) (hfn : F.fn 215) (hro : F.round = none) (hn : 1 ≤ n) (B n0 : Nat) (o : Option Addr) (c : Nat) (ls : List Int) (hl : ls.length ≤ 1073741824) (w : World) (hB : B < w.heap.size) (hn0 : n0 ≤ w.heap.size)
    (h0s : w.cell? ⟨B, 0, none⟩ = some (.slice o ls.length c)) (hx : ∀ i, i < ls.length → ∃ b f, o = some ⟨b, f, none⟩ ∧ b < n0 ∧ w.cell? ⟨b, f + i, none⟩ = some (.int .i64 (ls.getD i 0))) :
    SeqStopsK F n Tryz.prog 215 #[.pointer (some ⟨B, 0, none⟩)] (pr ls) (KeepB n0 B) (fun ys => ys = bk ls.length) (fun pre => pre <+: bk ls.length) ls.length w := fun l J Jx W hW _ _ hY h0 =>
  back1_in F n hfn hro hn l B n0 o c ls hl J Jx hY W ((hW.cell (p := ⟨B, 0, none⟩) hB).trans h0s) (fun i hi => by
    obtain ⟨b, f, e, hb, hc⟩ := hx i hi
    exact ⟨b, f, e, hb, (hW.cell (p := ⟨b, f + i, none⟩) (by show b < _; omega)).trans hc⟩) h0

set_option maxRecDepth 100000 in
/-- slices.Backward: a box, and the function value that holds it. -/
theorem backs_any (o : Option Addr) (n c : Nat) (w : World) : Calls Tryz.prog 196 #[.slice o n c] w fun e w' => e = .returned (.func (.func 215) #[] #[.pointer (some ⟨w.heap.size, 0, none⟩)]) ∧
    w.alloc (.cells #[.slice o n c] 23) = w' := by
  go_enter Tryz.func196, Tryz.ntmps196
  go_wp2
  refine bodyPost_ret (results_tmp rfl _ _ _) rfl ?_
  exact ⟨rfl, rfl⟩
end Go.Proofs.YtmafgdinegboeaaGreat
namespace Go.Proofs.YtmafgdinegboeaaGreat
open Go.RowKit Go.Shelf
attribute [local go_sem] Oper.semAt_some

theorem infoI : (Tryz.prog.info? 3).map (fun i => (i.zero, i.size, i.bytes)) = some (some (.int .i64 0), 1, 8) := by kernel_rfl
theorem Blk.kept {W W' : World} {row : Option Nat} {B : Nat} {t : TypeId} {cs : Array Value} (h : Blk W B t cs) (hg : W.grownBy W' row) (hne : some B ≠ row) : Blk W' B t cs := (hg.block B h.lt hne).trans h
theorem blk_own {β : Type} (B : Nat) (t : TypeId) (f : β → Array Value) : Own (fun s W => Blk W B t (f s)) := fun s X Y row hs hg hrow =>
  hs.kept hg fun e => by
    obtain ⟨o, ho, hc⟩ := hrow B e.symm
    rw [show X.heap[B]? = _ from hs] at ho
    cases ho
    cases hc
theorem boxed_at {W : World} {B : Nat} {t : TypeId} {v : Value} (h : Boxed W B t v) {p : Addr} (hp : B ≠ p.block) (u : Value) : Boxed (W.setCell p u) B t v := (Below.heap_setCell W p u B hp).trans h

theorem Blk.box {W : World} {B B' : Nat} {t : TypeId} {cs : Array Value} (h : Blk W B t cs) (hne : B ≠ B') (u : Value) : Blk (W.setCell ⟨B', 0, none⟩ u) B t cs := h.far (p := ⟨B', 0, none⟩) hne u
theorem KeepB.set {n0 B : Nat} {W : World} {p : Addr} (hp : p.block ≠ B) (hn : n0 ≤ p.block) (u : Value) : KeepB n0 B W (W.setCell p u) :=
  ⟨Below.heap_setCell W p u B (fun e => hp e.symm), fun k hk => Below.heap_setCell W p u k (by omega)⟩

end Go.Proofs.YtmafgdinegboeaaGreat
namespace Go.Proofs.YtmafgdinegboeaaGreat
open Go.RowKit

set_option maxRecDepth 100000 in
set_option maxHeartbeats 4000000 in
theorem inside_any (vi vs : Value) (i s : List Int) (w : World) (hi : Ld w vi i) (hs : Ld w vs s) (l4 : s.length ≤ 1073741824) :
    Calls Tryz.prog 198 #[vi, vs] w fun e w' => e = .returned (.bool (inx s i)) ∧ w = w' := by
  obtain ⟨oi, ci, rfl, _, hxi⟩ := hi
  obtain ⟨os, cs, rfl, _, hxs⟩ := hs
  have HI := Lib.hid hxi
  have HS := Lib.hid hxs
  clear hxi hxs
  by_cases hl : s.length = i.length
  · have HN : Hid (inx s i = true ↔ s.length = i.length ∧ ∀ k, k < s.length → 0 ≤ i.getD k 0 ∧ i.getD k 0 < s.getD k 0) := inx_iff
    have HL := Lib.hid hl
    rw [← hl]
    clear hl
    go_enter Tryz.func198, Tryz.ntmps198
    go_wp2
    go_loop [14] (fun s14 => ∃ k : Nat, k ≤ s.length ∧ s14 = .int .i64 k ∧ Hid (∀ j, j < k → 0 ≤ i.getD j 0 ∧ i.getD j 0 < s.getD j 0)) (fun s14 => s.length - (intOf s14).toNat)
    case atStart => exact ⟨0, Nat.zero_le _, rfl, fun j hj => absurd hj (Nat.not_lt_zero _)⟩
    case round =>
      obtain ⟨k, hk, rfl, HK⟩ := hrel
      by_cases hlt : k < s.length
      · obtain ⟨b1, f1, rfl, _, c1⟩ := HI.out k (by have := HL.out; omega)
        obtain ⟨b2, f2, rfl, _, c2⟩ := HS.out k hlt
        by_cases g : 0 ≤ i.getD k 0 ∧ i.getD k 0 < s.getD k 0
        · have HG : Hid (∀ j, j < k + 1 → 0 ≤ i.getD j 0 ∧ i.getD j 0 < s.getD j 0) := fun j hj => by
            by_cases e : j = k
            · subst e; exact g
            · exact HK.out j (by omega)
          generalize i.getD k 0 = x at *
          generalize s.getD k 0 = d at *
          have g1 : ¬ x < 0 := by omega
          have g2 : ¬ d ≤ x := by omega
          clear g
          go_wp2
          refine ⟨⟨k + 1, by omega, by go_num, HG⟩, by simp [intOf]; omega⟩
        · have e : inx s i = false := by
            cases h : inx s i with
            | false => rfl
            | true => exact absurd ((HN.out.1 h).2 k hlt) g
          have E := Lib.hid e
          clear e
          generalize i.getD k 0 = x at *
          generalize s.getD k 0 = d at *
          by_cases g1 : x < 0
          · clear g
            go_wp2
            go_ret
            exact ⟨by rw [E.out]; rfl, rfl⟩
          · have g2 : d ≤ x := by omega
            clear g
            go_wp2
            go_ret
            exact ⟨by rw [E.out]; rfl, rfl⟩
      · have e : inx s i = true := HN.out.2 ⟨HL.out, fun j hj => HK.out j (by omega)⟩
        have E := Lib.hid e
        clear e
        go_wp2
        go_ret
        exact ⟨by rw [E.out]; rfl, rfl⟩
  · have e : inx s i = false := by
      cases h : inx s i with
      | false => rfl
      | true => exact absurd (inx_len h) hl
    rw [e]
    have hl2 : ((i.length : Int) != (s.length : Int)) = true := by rw [bne_iff_ne]; omega
    clear e hl
    go_enter Tryz.func198, Tryz.ntmps198
    go_wp2
    go_ret
    exact ⟨rfl, rfl⟩

set_option maxRecDepth 100000 in
set_option maxHeartbeats 4000000 in
/-- The place under an index: the last numbers of it. -/
theorem under_any (vs vi : Value) (s i : List Int) (w : World) (hs : Ld w vs s) (hi : Ld w vi i) (hm : may s = true) (hl : s.length ≤ i.length) (li : i.length ≤ 1073741824) (hx : inx s (msk s (lst s i)) = true) :
    Calls Tryz.prog 199 #[vs, vi] w fun e w' => e = .returned (.int .i64 (und s i)) ∧ w = w' := by
  obtain ⟨os, cs, rfl, _, hxs⟩ := hs
  obtain ⟨oi, ci, rfl, hci, hxi⟩ := hi
  have l4 := may_len hm
  obtain ⟨q, hq⟩ : ∃ q, i.length = q + s.length := ⟨i.length - s.length, by omega⟩
  have HI := Lib.hid (And.intro hxi hq)
  have HS := Lib.hid hxs
  have HP := Lib.hid (And.intro (may_pos hm) hx)
  have HV := Lib.hid (And.intro (ix_bd hx) (may_prod hm))
  have HG : Hid (∀ k, k < s.length → (msk s (lst s i)).getD k 0 = if 1 < s.getD k 0 then i.getD (q + k) 0 else 0) := fun k hk => by
    rw [msk_getD s _ k (lst_len hl) hk, lst_getD hl, show k + i.length - s.length = q + k by omega]
  have HD : Hid (∀ k, k < s.length → 1 ≤ s.getD k 0 ∧ s.getD k 0 ≤ 4096) := fun k hk => may_dim hm hk
  rw [hq] at hci li
  rw [hq]
  clear hxi hxs hm hl hx hq
  have e1 : ((q + s.length : Nat) : Int) - (s.length : Int) = (q : Int) := by omega
  have EU : Hid (und s i = ix s (msk s (lst s i))) := rfl
  generalize msk s (lst s i) = m at *
  by_cases h0 : s.length = 0
  · have EZ : Hid (und s i = 0) := by
      have : s = [] := List.eq_nil_of_length_eq_zero h0
      rw [Hid, EU.out, this]; rfl
    rw [EZ.out]
    obtain rfl : s = [] := List.eq_nil_of_length_eq_zero h0
    clear EZ EU HG HP HV HI HS HD h0
    simp only [List.length_nil, Nat.add_zero] at *
    have e2 : ((q : Nat) : Int) - ((0 : Nat) : Int) = (q : Int) := by omega
    clear e1
    by_cases hc : ci = q
    · subst hc
      cases oi with
      | none =>
        go_enter Tryz.func199, Tryz.ntmps199
        go_wp2
        go_loop [6, 18] (fun s6 s18 => s6 = .int .i64 0 ∧ s18 = .int .i64 0) (fun _ _ => 0)
        case atStart => exact ⟨rfl, rfl⟩
        case round =>
          obtain ⟨rfl, rfl⟩ := hrel
          go_wp2
          go_ret
          exact ⟨rfl, rfl⟩
      | some ad =>
        go_enter Tryz.func199, Tryz.ntmps199
        go_wp2
        go_loop [6, 18] (fun s6 s18 => s6 = .int .i64 0 ∧ s18 = .int .i64 0) (fun _ _ => 0)
        case atStart => exact ⟨rfl, rfl⟩
        case round =>
          obtain ⟨rfl, rfl⟩ := hrel
          go_wp2
          go_ret
          exact ⟨rfl, rfl⟩
    · cases oi with
      | none =>
        go_enter Tryz.func199, Tryz.ntmps199
        go_wp2
        go_loop [6, 18] (fun s6 s18 => s6 = .int .i64 0 ∧ s18 = .int .i64 0) (fun _ _ => 0)
        case atStart => exact ⟨rfl, rfl⟩
        case round =>
          obtain ⟨rfl, rfl⟩ := hrel
          go_wp2
          go_ret
          exact ⟨rfl, rfl⟩
      | some ad =>
        go_enter Tryz.func199, Tryz.ntmps199
        go_wp2
        go_loop [6, 18] (fun s6 s18 => s6 = .int .i64 0 ∧ s18 = .int .i64 0) (fun _ _ => 0)
        case atStart => exact ⟨rfl, rfl⟩
        case round =>
          obtain ⟨rfl, rfl⟩ := hrel
          go_wp2
          go_ret
          exact ⟨rfl, rfl⟩
  · obtain ⟨b, f, rfl, hb, _⟩ := HI.out.1 0 (by have := HI.out.2; omega)
    have hc : ¬ ci = q := by omega
    have EV := EU.out
    rw [EV]
    clear EV EU
    go_enter Tryz.func199, Tryz.ntmps199
    go_wp2
    go_loop [6, 18] (fun s6 s18 => ∃ (k : Nat) (p : Int), k ≤ s.length ∧ 0 ≤ p ∧ p ≤ 65536 ∧ s18 = .int .i64 k ∧ s6 = .int .i64 p ∧ Hid (Hor s m (ix s m) p k)) (fun _ s18 => s.length - (intOf s18).toNat)
    case atStart => exact ⟨0, 0, Nat.zero_le _, by decide, by decide, rfl, rfl, hor_start HP.out.2⟩
    case round =>
      obtain ⟨k, p, hk, p0, p1, rfl, rfl, HK⟩ := hrel
      by_cases hlt : k < s.length
      · obtain ⟨b2, f2, rfl, _, c2⟩ := HS.out k hlt
        obtain ⟨b1, f1, e, _, c1⟩ := HI.out.1 (q + k) (by have := HI.out.2; omega)
        simp only [Option.some.injEq, Addr.mk.injEq, and_true] at e
        obtain ⟨rfl, rfl⟩ := e
        rw [← Nat.add_assoc] at c1
        obtain ⟨st, n0, n1⟩ := hor_step HK.out HP.out.2 HP.out.1 hlt
        have gm := HG.out k hlt
        have dd := HD.out k hlt
        have hv := HV.out
        generalize m.getD k 0 = y at *
        generalize i.getD (q + k) 0 = x at *
        generalize s.getD k 0 = d at *
        by_cases g : 1 < d
        · rw [if_pos g] at gm
          subst gm
          have st1 := st.2.1
          have st2 := st.2.2.1
          have ST := Lib.hid st
          have HV2 := Lib.hid hv
          have n2 : p * d ≤ 65536 := by omega
          have n3 : 0 ≤ p * d + y := st1
          have n4 : p * d + y ≤ 65536 := by omega
          clear st hv n1 st1 st2
          go_wp2
          refine ⟨⟨k + 1, p * d + y, by omega, n3, n4, by go_num, rfl, ST.out⟩, by simp [intOf]; omega⟩
        · rw [if_neg g] at gm
          subst gm
          rw [Int.add_zero] at st
          have ST := Lib.hid st
          have n2 : p * d ≤ 65536 := by omega
          clear st hv n1
          go_wp2
          refine ⟨⟨k + 1, p * d, by omega, n0, n2, by go_num, rfl, ST.out⟩, by simp [intOf]; omega⟩
      · obtain rfl : k = s.length := by omega
        obtain rfl := hor_end HK.out
        go_wp2
        go_ret
        exact ⟨rfl, rfl⟩

end Go.Proofs.YtmafgdinegboeaaGreat
namespace Go.Proofs.YtmafgdinegboeaaGreat
open Go.RowKit
theorem below_drw {B : Nat} {w W : World} (h : Below B w W) (n : Nat) : Below B w (W.drewN n) := ⟨h.os, h.tape, h.output, h.size, h.block⟩

set_option maxRecDepth 100000 in
set_option maxHeartbeats 4000000 in
theorem eqn_any (va vb : Value) (a b : List Int) (w : World) (ha : Ld w va a) (hb : Ld w vb b) (la : a.length ≤ 17592186044416) (_lb : b.length ≤ 17592186044416) :
    Calls Tryz.prog 16 #[va, vb] w fun e w' => e = .returned (.bool (decide (a = b))) ∧ Below w.heap.size w w' := by
  obtain ⟨oa, ca, rfl, _, hxa⟩ := ha
  obtain ⟨ob, cb, rfl, _, hxb⟩ := hb
  have HA := Lib.hid hxa
  have HB := Lib.hid hxb
  clear hxa hxb
  by_cases hl : a.length = b.length
  · have HL := Lib.hid hl
    have HX : Hid ((∀ k, k < a.length → a.getD k 0 = b.getD k 0) → a = b) := ext_getD hl
    rw [← hl]
    clear hl _lb
    go_enter Tryz.func16, Tryz.ntmps16
    go_wp2
    go_loopw [5] (fun s5 wr => ∃ k : Nat, k ≤ a.length ∧ s5 = .int .i64 k ∧ Hid (∀ j, j < k → a.getD j 0 = b.getD j 0) ∧ Below w.heap.size w wr) (fun s5 _ => a.length - (intOf s5).toNat)
    case atStart => exact ⟨0, Nat.zero_le _, rfl, fun j hj => absurd hj (Nat.not_lt_zero _), Below.refl _ _⟩
    case round =>
      obtain ⟨k, hk, rfl, HK, hW⟩ := hrel
      by_cases hlt : k < a.length
      · obtain ⟨b1, f1, rfl, h1, c1⟩ := HA.out k hlt
        obtain ⟨b2, f2, rfl, h2, c2⟩ := HB.out k (by have := HL.out; omega)
        have c1' : wr.cell? ⟨b1, f1 + k, none⟩ = some (.int .i64 (a.getD k 0)) := (hW.cell (p := ⟨b1, f1 + k, none⟩) h1).trans c1
        have c2' : wr.cell? ⟨b2, f2 + k, none⟩ = some (.int .i64 (b.getD k 0)) := (hW.cell (p := ⟨b2, f2 + k, none⟩) h2).trans c2
        have HG : Hid (a.getD k 0 = b.getD k 0 → ∀ j, j < k + 1 → a.getD j 0 = b.getD j 0) := fun g j hj => by
          by_cases e : j = k
          · subst e; exact g
          · exact HK.out j (by omega)
        have HN : Hid (¬ a.getD k 0 = b.getD k 0 → decide (a = b) = false) := fun g => decide_eq_false (fun e => g (by rw [e]))
        clear c1 c2
        generalize a.getD k 0 = x at *
        generalize b.getD k 0 = y at *
        by_cases g : x = y
        · subst g
          have R := Lib.hid (HG.out rfl)
          go_wp2
          go_quiet (fail)
          go_wp2
          exact ⟨⟨k + 1, by omega, by go_num, R, by first | exact below_drw hW _ | exact hW⟩, by simp [intOf]; omega⟩
        · have R := Lib.hid (HN.out g)
          have g' : (x != y) = true := by rw [bne_iff_ne]; exact g
          clear g
          go_wp2
          go_quiet (fail)
          go_wp2
          go_ret
          exact ⟨by rw [R.out]; rfl, by first | exact below_drw hW _ | exact hW⟩
      · have e : Hid (decide (a = b) = true) := decide_eq_true (HX.out fun j hj => HK.out j (by omega))
        go_wp2
        go_ret
        exact ⟨by rw [e.out]; rfl, hW⟩
  · have e : Hid (decide (a = b) = false) := decide_eq_false (fun e => hl (by rw [e]))
    have hl2 : ((a.length : Int) != (b.length : Int)) = true := by rw [bne_iff_ne]; omega
    clear hl
    go_enter Tryz.func16, Tryz.ntmps16
    go_wp2
    go_ret
    exact ⟨by rw [e.out]; rfl, Below.refl _ _⟩

/-- A list in a slice of the call's own. -/
def SomeC (w : World) (ls : List Int) (e : Ending) (w' : World) : Prop := ∃ o c, e = .returned (.slice o ls.length c) ∧ w'.ownsRow w.heap.size 3 1 (.slice o ls.length c) ls.length (ints ls) ∧ Ld w' (.slice o ls.length c) ls ∧ Below w.heap.size w w'
theorem Ld.of_owns {w : World} {base : Nat} {e : TypeId} {v : Value} {ls : List Int} (h : w.ownsRow base e 1 v ls.length (ints ls)) : ∃ o c, v = .slice o ls.length c ∧ Ld w (.slice o ls.length c) ls := by
  rcases h.2 with ⟨rfl, h0⟩ | ⟨g, cap, cur, rfl, _, hh, hc, _, hsz, ht⟩
  · have : ls = [] := List.eq_nil_of_length_eq_zero (by simpa using h0)
    subst this
    exact ⟨_, _, rfl, Ld.nil w⟩
  · refine ⟨_, _, rfl, _, _, rfl, hc, fun i hi => ⟨g, 0, rfl, (Array.getElem?_eq_some_iff.1 hh).1, ?_⟩⟩
    rw [Nat.zero_add, cell_of_row w g i cur e (0, 0) hh]
    have : (ints ls)[i]? = some (.int .i64 (ls.getD i 0)) := by simpa using ints_at hi
    rw [← ht, List.getElem?_take] at this
    split at this
    · simpa using this
    · cases this

set_option maxRecDepth 100000 in
set_option maxHeartbeats 4000000 in
theorem copy_any (v : Value) (ls : List Int) (w : World) (h : Ld w v ls) (ll : ls.length ≤ 17592186044000) :
    Calls Tryz.prog 58 #[v] w (SomeC w ls) := by
  obtain ⟨i0, hi0, hz0, hz1, hz2⟩ := info_parts infoI
  obtain ⟨o, c, rfl, _, hx⟩ := h
  have HX := Lib.hid hx
  clear hx
  go_enter Tryz.func58, Tryz.ntmps58
  go_wp2
  go_loopw [3, 4] (fun s3 s4 wr => ∃ k : Nat, k ≤ ls.length ∧ s4 = .int .i64 k ∧ Hid (wr.ownsRow w.heap.size 3 1 s3 k (ints (ls.take k))) ∧ Below w.heap.size w wr) (fun _ s4 _ => ls.length - (intOf s4).toNat)
  case atStart => exact ⟨0, Nat.zero_le _, rfl, World.ownsRow_nil _ _ _ _, Below.refl _ _⟩
  case round =>
    obtain ⟨k, hk, rfl, HO, hB⟩ := hrel
    have hBs := hB.size
    by_cases hlt : k < ls.length
    · obtain ⟨b, f, rfl, hb, hc⟩ := HX.out k hlt
      have hc' : wr.cell? ⟨b, f + k, none⟩ = some (.int .i64 (ls.getD k 0)) := (hB.cell (p := ⟨b, f + k, none⟩) hb).trans hc
      have E : Hid (ints (ls.take (k + 1)) = ints (ls.take k) ++ [.int .i64 (ls.getD k 0)]) := by
        unfold Hid ints
        rw [List.take_succ_eq_append_getElem hlt, List.map_append]
        simp [List.getD, List.getElem?_eq_getElem hlt]
      clear hc
      generalize ls.getD k 0 = x at *
      go_wp2_with (at_builtin; refine wpList_append_own _ rfl _ _ 23 rfl w.heap.size 3 i0 (.int .i64 0) 1 8 Tryz.underlying23 hi0 hz0 hz1 hz2 rfl (by decide) _ k (ints (ls.take k)) rfl (HO.out.alloc _) ⟨wr.heap.size, 0, none⟩ 1 1 [.int .i64 x] rfl rfl ?c1 ?c2 ?c3 ?c4 ?c5 ?_)
      case c1 => exact (cell_one_new _ _ _)
      case c2 => simp [Value.oneCell']
      case c3 => unfold maxLen; omega
      case c4 => omega
      case c5 => simp; omega
      intro v' w9 hown1 hgrow _
      have hB9 : Below w.heap.size w w9 := (hB.alloc hBs _).grown hgrow (by simp; omega) (fun j hj => (HO.out.lt j hj).1)
      have h1 : Hid (w9.ownsRow w.heap.size 3 1 v' (k + 1) (ints (ls.take (k + 1)))) := by
        rw [Hid, E.out]; exact hown1
      clear hown1 hgrow
      go_wp2
      exact ⟨⟨k + 1, by omega, by go_num, h1, hB9⟩, by simp [intOf]; omega⟩
    · obtain rfl : k = ls.length := by omega
      have h1 := HO.out
      rw [List.take_length] at h1
      obtain ⟨o2, c2, rfl, hld⟩ := Ld.of_owns h1
      have H1 := Lib.hid (And.intro h1 hld)
      clear h1 hld HO
      go_wp2
      go_ret
      exact ⟨o2, c2, rfl, H1.out.1, H1.out.2, hB⟩

/-- A block as a slice of the call's own. -/
theorem Blk.owns {w : World} {g base : Nat} {t : TypeId} {ls : List Int} (h : Blk w g t (ints ls).toArray) (hb : base ≤ g) (hl : ls.length ≤ 65536) : w.ownsRow base t 1 (.slice (some ⟨g, 0, none⟩) ls.length ls.length) ls.length (ints ls) := by
  refine ⟨by simp [ints], .inr ⟨g, ls.length, (ints ls).toArray, rfl, hb, h, Nat.le_refl _, by unfold maxLen; omega, by simp [ints], ?_⟩⟩
  exact List.take_of_length_le (by simp [ints])
end Go.Proofs.YtmafgdinegboeaaGreat
namespace Go.Proofs.YtmafgdinegboeaaGreat
open Go.RowKit

/-- r tells whether x is there. -/
def Fnd (ls : List Int) (x r : Int) : Prop := decide (0 ≤ r) = decide (x ∈ ls)
set_option maxRecDepth 100000 in
set_option maxHeartbeats 2000000 in
theorem indexs_any (v : Value) (ls : List Int) (x : Int) (w : World) (h : Ld w v ls) (l4 : ls.length ≤ 17592186044416) :
    Calls Tryz.prog 195 #[v, .int .i64 x] w fun e w' => ∃ r : Int, e = .returned (.int .i64 r) ∧ Fnd ls x r ∧ w = w' := by
  obtain ⟨o, c, rfl, _, hx⟩ := h
  have HX := Lib.hid hx
  clear hx
  go_enter Tryz.func195, Tryz.ntmps195
  go_wp2
  go_loop [8] (fun s8 => ∃ k : Nat, k ≤ ls.length ∧ s8 = .int .i64 k ∧ Hid (∀ j, j < k → ¬ ls.getD j 0 = x)) (fun s8 => ls.length - (intOf s8).toNat)
  case atStart => exact ⟨0, Nat.zero_le _, rfl, fun j hj => absurd hj (Nat.not_lt_zero _)⟩
  case round =>
    obtain ⟨k, hk, rfl, HK⟩ := hrel
    by_cases hlt : k < ls.length
    · obtain ⟨b, f, rfl, hb, hc⟩ := HX.out k hlt
      by_cases g : x = ls.getD k 0
      · have E : Hid (Fnd ls x (k : Int)) := by
          rw [Hid, Fnd, decide_eq_true (by omega), decide_eq_true (by rw [g]; exact getD_mem hlt)]
        rw [← g] at hc
        clear g
        go_wp2
        go_ret
        exact ⟨k, rfl, E.out, rfl⟩
      · have HG : Hid (∀ j, j < k + 1 → ¬ ls.getD j 0 = x) := fun j hj => by
          by_cases e : j = k
          · subst e; exact fun h => g h.symm
          · exact HK.out j (by omega)
        generalize ls.getD k 0 = y at *
        go_wp2
        exact ⟨⟨k + 1, by omega, by go_num, HG⟩, by simp [intOf]; omega⟩
    · have E : Hid (Fnd ls x (-1)) := by
        have : ¬ x ∈ ls := by
          intro hm
          obtain ⟨i, hi, e⟩ := List.mem_iff_getElem.1 hm
          refine HK.out i (by omega) ?_
          simp [List.getD, List.getElem?_eq_getElem hi, e]
        rw [Hid, Fnd, decide_eq_false this]; rfl
      go_wp2
      go_ret
      exact ⟨-1, rfl, E.out, rfl⟩
set_option maxRecDepth 100000 in
set_option maxHeartbeats 2000000 in
theorem contains_any (v : Value) (ls : List Int) (x : Int) (w : World) (h : Ld w v ls) (l4 : ls.length ≤ 17592186044416) :
    Calls Tryz.prog 146 #[v, .int .i64 x] w fun e w' => e = .returned (.bool (decide (x ∈ ls))) ∧ w = w' := by
  have C := Lib.hid (indexs_any v ls x w h l4)
  clear h l4
  go_enter Tryz.func146, Tryz.ntmps146
  go_wp2_with (go_at_call 195; (with_reducible refine C.out.mono ?_); rintro e w' ⟨r, rfl, hr, rfl⟩; replace hr := Lib.hid hr)
  go_ret
  exact ⟨by rw [← (show decide (0 ≤ r) = decide (x ∈ ls) from hr.out)]; rfl, rfl⟩
set_option maxRecDepth 100000 in
set_option maxHeartbeats 2000000 in
theorem rin_any (v : Value) (ls : List Int) (x : Int) (w : World) (h : Ld w v ls) (l4 : ls.length ≤ 17592186044416) :
    Calls Tryz.prog 161 #[v, .int .i64 x] w fun e w' => e = .returned (.bool (decide (x ∈ ls))) ∧ w = w' := by
  obtain ⟨o, c, rfl, _, hx⟩ := h
  have HX := Lib.hid hx
  clear hx
  go_enter Tryz.func161, Tryz.ntmps161
  go_wp2
  go_loop [5] (fun s5 => ∃ k : Nat, k ≤ ls.length ∧ s5 = .int .i64 k ∧ Hid (∀ j, j < k → ¬ ls.getD j 0 = x)) (fun s5 => ls.length - (intOf s5).toNat)
  case atStart => exact ⟨0, Nat.zero_le _, rfl, fun j hj => absurd hj (Nat.not_lt_zero _)⟩
  case round =>
    obtain ⟨k, hk, rfl, HK⟩ := hrel
    by_cases hlt : k < ls.length
    · obtain ⟨b, f, rfl, hb, hc⟩ := HX.out k hlt
      by_cases g : ls.getD k 0 = x
      · have E : Hid (decide (x ∈ ls) = true) := decide_eq_true (by rw [← g]; exact getD_mem hlt)
        rw [g] at hc
        clear g
        go_wp2
        go_ret
        exact ⟨by rw [E.out]; rfl, rfl⟩
      · have HG : Hid (∀ j, j < k + 1 → ¬ ls.getD j 0 = x) := fun j hj => by
          by_cases e : j = k
          · subst e; exact g
          · exact HK.out j (by omega)
        generalize ls.getD k 0 = y at *
        go_wp2
        exact ⟨⟨k + 1, by omega, by go_num, HG⟩, by simp [intOf]; omega⟩
    · have E : Hid (decide (x ∈ ls) = false) := by
        refine decide_eq_false fun hm => ?_
        obtain ⟨i, hi, e⟩ := List.mem_iff_getElem.1 hm
        refine HK.out i (by omega) ?_
        simp [List.getD, List.getElem?_eq_getElem hi, e]
      go_wp2
      go_ret
      exact ⟨by rw [E.out]; rfl, rfl⟩

theorem blk_nil {w : World} {g : Nat} {t : TypeId} (h : Blk w g t #[]) {base : Nat} (hb : base ≤ g) : w.ownsRow base t 1 (.slice (some ⟨g, 0, none⟩) 0 0) 0 [] :=
  ⟨by simp, .inr ⟨g, 0, #[], rfl, hb, h, Nat.le_refl _, Nat.zero_le _, by simp, by simp⟩⟩
set_option maxRecDepth 100000 in
set_option maxHeartbeats 4000000 in
theorem cloned_any (v : Value) (ls : List Int) (w : World) (h : Ld w v ls) (ll : ls.length ≤ 17592186044000) :
    Calls Tryz.prog 145 #[v] w (SomeC w ls) := by
  obtain ⟨i0, hi0, hz0, hz1, hz2⟩ := info_parts infoI
  obtain ⟨o, c, rfl, hc, hx⟩ := h
  cases o with
  | none =>
    have h1 : ls = [] := by
      cases ls with
      | nil => rfl
      | cons a r => obtain ⟨b, f, e, _⟩ := hx 0 (by simp); cases e
    subst h1
    simp only [List.length_nil] at *
    clear hx
    have en : (binOp .eql 23 (.slice none 0 c) (.slice none 0 0)).run Tryz.prog w = .ok (.bool true) w := Lib.run_eql_slice_nil w 23 3 none 0 c 0 0 Tryz.underlying23
    go_enter Tryz.func145, Tryz.ntmps145
    go_wp2
    go_ret
    exact ⟨none, 0, rfl, World.ownsRow_nil _ _ _ _, Ld.nil _, Below.refl _ _⟩
  | some ad =>
    have en : (binOp .eql 23 (.slice (some ad) ls.length c) (.slice none 0 0)).run Tryz.prog w = .ok (.bool false) w := Lib.run_eql_slice_nil w 23 3 (some ad) ls.length c 0 0 Tryz.underlying23
    go_enter Tryz.func145, Tryz.ntmps145
    have H := Lib.hid hx
    have HB := Lib.hid (blk_nil (base := w.heap.size) (Blk.new w 3 #[]) (Nat.le_refl _))
    clear hx
    go_wp2_with (at_builtin; refine wpList_append_own _ rfl _ _ 23 rfl w.heap.size 3 i0 (.int .i64 0) 1 8 Tryz.underlying23 hi0 hz0 hz1 hz2 rfl (by decide) _ 0 [] rfl HB.out ad ls.length c (ints ls) rfl ?c0 ?c1 ?c2 ?c3 ?c4 ?c5 ?_)
    case c0 => simp [ints]
    case c1 =>
      intro j u hu
      have hj : j < ls.length := by
        have := (List.getElem?_eq_some_iff.1 hu).1
        simpa [ints] using this
      obtain ⟨b, f, e, hb, hcell⟩ := H.out j hj
      cases e
      have : u = .int .i64 (ls.getD j 0) := by
        have h2 := ints_at hj
        rw [List.getElem?_toArray] at h2
        rw [h2] at hu; exact (Option.some.inj hu).symm
      rw [this, Go.WideShapes.add_plain, World.cell?_alloc_lt w _ _ hb]
      exact hcell
    case c2 => simp [ints, Value.oneCell']
    case c3 => unfold maxLen; omega
    case c4 => omega
    case c5 => simp
    intro v' w9 hown1 hgrow _
    have hown1 : w9.ownsRow w.heap.size 3 1 v' ls.length (ints ls) := by simpa using hown1
    have hB9 : Below w.heap.size w w9 := ((Below.refl _ _).alloc (Nat.le_refl _) _).grown hgrow (by simp) (fun k e => by simp [Value.ownBlock] at e; omega)
    obtain ⟨o2, c2, rfl, hld⟩ := Ld.of_owns hown1
    have H1 := Lib.hid (And.intro hown1 (And.intro hld hB9))
    clear hown1 hld hgrow hB9 H HB
    go_wp2
    go_ret
    exact ⟨o2, c2, rfl, H1.out.1, H1.out.2.1, H1.out.2.2⟩
end Go.Proofs.YtmafgdinegboeaaGreat
namespace Go.Proofs.YtmafgdinegboeaaGreat
open Go.RowKit

end Go.Proofs.YtmafgdinegboeaaGreat
