/-
  Reducing, in numbers: what is left of a shape, where a place goes, sums by places.
  Greatest words by places, and where they stand: plain mathematics.
  Reducing, in numbers: axes, rising; a shape with ones for its axes; where an index stands under it.
  shape.Count and shape.Check.
  shape.Index: an index within a shape, the place under it.
  slices.Backward over whole numbers: the iterator's contract, for every loop body that keeps the slice.
  shape.Strides.
  shape.Spread.
  shape.Under.
-/
import Derived.RangeFuncNested
import Derived.RangeFuncBound
import Derived.RangeFuncCalls
import Derived.RangeFuncLeaves
import Derived.RangeFuncBox
import Derived.Shelf.Abstract
import Derived.Shelf.RegionOpen
import Derived.WalkKit
import Derived.OwnWalkIn
import Derived.TacticsInMore
import Derived.LoopNIn
import Derived.LoopIn
import Derived.Maps.AppendAt
import Derived.Laws.MakeOwn
import Derived.OwnWalk
import Derived.Outline
import Derived.WalkMore
import Derived.Test.YtlidkeabadioeaaM01
namespace Go.Proofs.Ytlidkeabadioeaa

/-- What is left of a list without the axes (o: the first number's own). -/
def lf : List Int → List Int → Nat → List Int
  | [], _, _ => []
  | d :: r, ax, o => if (o : Int) ∈ ax then lf r ax (o + 1) else d :: lf r ax (o + 1)
theorem lf_snoc (ax : List Int) (d : Int) : ∀ (s : List Int) (o : Nat), lf (s ++ [d]) ax o = lf s ax o ++ (if ((o + s.length : Nat) : Int) ∈ ax then [] else [d])
  | [], o => by
    show (if (o : Int) ∈ ax then lf [] ax (o + 1) else d :: lf [] ax (o + 1)) = _
    simp only [List.length_nil, Nat.add_zero]
    split <;> rfl
  | e :: r, o => by
    have ih := lf_snoc ax d r (o + 1)
    rw [show o + 1 + r.length = o + (e :: r).length by simp; omega] at ih
    show (if (o : Int) ∈ ax then lf (r ++ [d]) ax (o + 1) else e :: lf (r ++ [d]) ax (o + 1)) = (if (o : Int) ∈ ax then lf r ax (o + 1) else e :: lf r ax (o + 1)) ++ _
    rw [ih]
    by_cases h : (o : Int) ∈ ax
    · rw [if_pos h, if_pos h]
    · rw [if_neg h, if_neg h]; rfl
theorem lf_step {s ax : List Int} {k : Nat} (h : k < s.length) : lf (s.take (k + 1)) ax 0 = lf (s.take k) ax 0 ++ (if (k : Int) ∈ ax then [] else [s.getD k 0]) := by
  rw [List.take_succ_eq_append_getElem h, lf_snoc ax s[k] (s.take k) 0, List.length_take, Nat.zero_add, Nat.min_eq_left (by omega)]
  rw [show s.getD k 0 = s[k] by simp [List.getD, List.getElem?_eq_getElem h]]
theorem lf_len_le (ax : List Int) : ∀ (s : List Int) (o : Nat), (lf s ax o).length ≤ s.length
  | [], _ => Nat.le_refl _
  | d :: r, o => by
    have := lf_len_le ax r (o + 1)
    unfold lf; split <;> simp <;> omega
theorem lf_len_eq (ax : List Int) : ∀ (s i : List Int) (o : Nat), s.length = i.length → (lf s ax o).length = (lf i ax o).length
  | [], [], _, _ => rfl
  | d :: r, e :: t, o, h => by
    have := lf_len_eq ax r t (o + 1) (by simpa using h)
    unfold lf; split
    · exact this
    · simp [this]
  | [], _ :: _, _, h => by simp at h
  | _ :: _, [], _, h => by simp at h
theorem lf_mem {ax : List Int} : ∀ {s : List Int} {o : Nat} {x : Int}, x ∈ lf s ax o → x ∈ s
  | [], _, _, h => h
  | d :: r, o, x, h => by
    unfold lf at h
    split at h
    · exact List.mem_cons_of_mem _ (lf_mem h)
    · rcases List.mem_cons.1 h with rfl | h
      · exact List.mem_cons_self ..
      · exact List.mem_cons_of_mem _ (lf_mem h)
theorem lf_prod (ax : List Int) : ∀ (s : List Int) (o : Nat), pos s → 1 ≤ prod (lf s ax o) ∧ prod (lf s ax o) ≤ prod s
  | [], _, _ => ⟨Int.le_refl _, Int.le_refl _⟩
  | d :: r, o, h => by
    have ih := lf_prod ax r (o + 1) (fun x hx => h x (List.mem_cons_of_mem _ hx))
    have hd := h d (List.mem_cons_self ..)
    have h1 : prod r ≤ d * prod r := by
      have := Int.mul_le_mul_of_nonneg_right hd (show 0 ≤ prod r by omega)
      omega
    unfold lf; split
    · exact ⟨ih.1, Int.le_trans ih.2 h1⟩
    · refine ⟨?_, ?_⟩
      · show 1 ≤ d * prod (lf r ax (o + 1))
        have := Int.mul_le_mul hd ih.1 (by omega) (by omega)
        omega
      · show d * prod (lf r ax (o + 1)) ≤ d * prod r
        exact Int.mul_le_mul_of_nonneg_left ih.2 (by omega)
theorem lf_may {s : List Int} (ax : List Int) (h : may s = true) : may (lf s ax 0) = true := by
  obtain ⟨a, b, c⟩ := (may_iff s).1 h
  have hp := lf_prod ax s 0 (may_pos h)
  exact (may_iff _).2 ⟨Nat.le_trans (lf_len_le ax s 0) a, fun d hd => b d (lf_mem hd), by omega⟩
theorem lf_inx (ax : List Int) : ∀ {s i : List Int} (o : Nat), inx s i = true → inx (lf s ax o) (lf i ax o) = true
  | [], [], _, h => h
  | d :: r, e :: t, o, h => by
    have h' := h
    unfold inx at h'
    simp only [Bool.and_eq_true, decide_eq_true_eq] at h'
    have ih := lf_inx ax (o + 1) h'.2
    unfold lf; split
    · exact ih
    · unfold inx
      simp only [Bool.and_eq_true, decide_eq_true_eq]
      exact ⟨h'.1, ih⟩
  | [], _ :: _, _, h => by simp [inx] at h
  | _ :: _, [], _, h => by simp [inx] at h
theorem lf_past {ax : List Int} : ∀ (s : List Int) (o : Nat), (∀ x ∈ ax, x < (o : Int)) → lf s ax o = s
  | [], _, _ => rfl
  | d :: r, o, h => by
    unfold lf
    rw [if_neg (fun hm => by have := h _ hm; omega), lf_past r (o + 1) (fun x hx => by have := h x hx; omega)]
theorem lf_one : ∀ (s : List Int) (a o : Nat), o ≤ a → lf s [(a : Int)] o = s.eraseIdx (a - o)
  | [], _, _, _ => by simp [lf]
  | d :: r, a, o, h => by
    unfold lf
    by_cases e : o = a
    · rw [if_pos (by simp [e]), lf_past r (o + 1) (fun x hx => by simp at hx; omega), e, Nat.sub_self]; rfl
    · rw [if_neg (by simp; omega), lf_one r a (o + 1) (by omega), show a - o = (a - (o + 1)) + 1 by omega]; rfl
theorem lf_skip {lo : Int} {ax : List Int} : ∀ (s : List Int) (o : Nat), lo < (o : Int) → lf s (lo :: ax) o = lf s ax o
  | [], _, _ => rfl
  | d :: r, o, h => by
    have ih := lf_skip (lo := lo) (ax := ax) r (o + 1) (by omega)
    unfold lf
    rw [ih]
    by_cases e : (o : Int) ∈ ax
    · rw [if_pos e, if_pos (List.mem_cons_of_mem _ e)]
    · rw [if_neg e, if_neg (fun hm => by
        rcases List.mem_cons.1 hm with h2 | h2
        · omega
        · exact e h2)]
theorem lf_two : ∀ (s : List Int) (lo hi o : Nat), o ≤ lo → lo < hi → lf s [(lo : Int), (hi : Int)] o = (s.eraseIdx (hi - o)).eraseIdx (lo - o)
  | [], _, _, _, _, _ => by simp [lf]
  | d :: r, lo, hi, o, h1, h2 => by
    unfold lf
    rw [show hi - o = (hi - (o + 1)) + 1 by omega]
    by_cases e : o = lo
    · rw [if_pos (by simp [e]), lf_skip r (o + 1) (by omega), lf_one r hi (o + 1) (by omega), e, Nat.sub_self]; rfl
    · rw [if_neg (by simp; omega), lf_two r lo hi (o + 1) (by omega) h2, show lo - o = (lo - (o + 1)) + 1 by omega]; rfl
theorem lf_twice (s : List Int) {lo hi : Nat} (h : lo < hi) : lf (lf s [(hi : Int)] 0) [(lo : Int)] 0 = lf s [(lo : Int), (hi : Int)] 0 := by
  rw [lf_one s hi 0 (Nat.zero_le _), lf_one _ lo 0 (Nat.zero_le _), lf_two s lo hi 0 (Nat.zero_le _) h]

/-- Where a place goes. -/
def into (s ax : List Int) (n : Nat) : Int := ix (lf s ax 0) (lf (atl s (n : Nat)) ax 0)
theorem into_bd {s : List Int} (ax : List Int) {n : Nat} (h : pos s) (hn : (n : Int) < prod s) : inx (lf s ax 0) (lf (atl s (n : Nat)) ax 0) = true ∧ 0 ≤ into s ax n ∧ into s ax n < prod (lf s ax 0) := by
  have hi := lf_inx ax 0 (atl_inx s (n : Nat) h (by omega) hn)
  exact ⟨hi, ix_bd hi⟩
theorem atl_into {s : List Int} (ax : List Int) {n : Nat} (h : pos s) (hn : (n : Int) < prod s) : atl (lf s ax 0) (into s ax n) = lf (atl s (n : Nat)) ax 0 := atl_ix _ _ (into_bd ax h hn).1
theorem into_two {s : List Int} {lo hi n : Nat} (h : pos s) (hn : (n : Int) < prod s) (hl : lo < hi) : into (lf s [(hi : Int)] 0) [(lo : Int)] (into s [(hi : Int)] n).toNat = into s [(lo : Int), (hi : Int)] n := by
  have hb := into_bd [(hi : Int)] h hn
  have e := atl_into [(hi : Int)] h hn
  unfold into at *
  rw [show (((ix (lf s [(hi : Int)] 0) (lf (atl s (n : Nat)) [(hi : Int)] 0)).toNat : Nat) : Int) = ix (lf s [(hi : Int)] 0) (lf (atl s (n : Nat)) [(hi : Int)] 0) by omega, e, lf_twice s hl, lf_twice (atl s (n : Nat)) hl]

theorem lf_none (s : List Int) : lf s [] 0 = s := lf_past s 0 (fun x hx => by cases hx)
theorem into_none {s : List Int} {n : Nat} (h : pos s) (hn : (n : Int) < prod s) : into s [] n = n := by
  unfold into
  rw [lf_none, lf_none]
  exact ix_atl s (n : Nat) h (by omega) hn
/-- All axes. -/
def alx (n : Nat) : List Int := (List.range n).map fun k : Nat => (k : Int)
theorem lf_all : ∀ (s : List Int) (o : Nat) (ax : List Int), (∀ k, o ≤ k → k < o + s.length → (k : Int) ∈ ax) → lf s ax o = []
  | [], _, _, _ => rfl
  | d :: r, o, ax, h => by
    unfold lf
    rw [if_pos (h o (Nat.le_refl _) (by simp)), lf_all r (o + 1) ax (fun k h1 h2 => h k (by omega) (by simp; omega))]
theorem lf_alx (s : List Int) : lf s (alx s.length) 0 = [] := lf_all s 0 _ (fun k _ hk => by
  unfold alx
  exact List.mem_map.2 ⟨k, List.mem_range.2 (by omega), rfl⟩)
theorem into_alx (s : List Int) (n : Nat) : into s (alx s.length) n = 0 := by
  unfold into
  rw [lf_alx]
  rfl

/-- The sum of what goes to m, of the first n. -/
def smN (key d : Nat → Int) (m : Int) : Nat → Int
  | 0 => 0
  | n + 1 => smN key d m n + if key n = m then d n else 0
theorem smN_same {key key' d d' : Nat → Int} {m : Int} : ∀ {n : Nat}, (∀ k, k < n → key k = key' k ∧ d k = d' k) → smN key d m n = smN key' d' m n
  | 0, _ => rfl
  | n + 1, h => by
    unfold smN
    rw [smN_same (fun k hk => h k (by omega)), (h n (by omega)).1, (h n (by omega)).2]
theorem smN_add (key a b : Nat → Int) (m : Int) : ∀ n : Nat, smN key (fun k => a k + b k) m n = smN key a m n + smN key b m n
  | 0 => rfl
  | n + 1 => by
    unfold smN
    rw [smN_add key a b m n]
    split <;> omega
theorem smN_zero (key : Nat → Int) (m : Int) : ∀ n : Nat, smN key (fun _ => 0) m n = 0
  | 0 => rfl
  | n + 1 => by
    unfold smN
    rw [smN_zero key m n]; simp
theorem smN_one (g : Nat → Int) (x : Int) (p : Nat) (m : Int) : ∀ n : Nat, smN g (fun k => if (p : Int) = (k : Int) then x else 0) m n = if p < n ∧ g p = m then x else 0
  | 0 => by rw [if_neg (by omega)]; rfl
  | n + 1 => by
    unfold smN
    rw [smN_one g x p m n]
    by_cases e : p = n
    · subst e
      rw [if_neg (by omega), if_pos rfl, Int.zero_add]
      by_cases hg : g p = m
      · rw [if_pos hg, if_pos ⟨by omega, hg⟩]
      · rw [if_neg hg, if_neg (fun h => hg h.2)]
    · rw [if_neg (show ¬ (p : Int) = (n : Int) by omega)]
      simp only [ite_self, Int.add_zero]
      by_cases hp : p < n ∧ g p = m
      · rw [if_pos hp, if_pos ⟨by omega, hp.2⟩]
      · rw [if_neg hp, if_neg (fun h => hp ⟨by omega, h.2⟩)]
/-- Summed by one key, then by another one, is summed by both. -/
theorem smN_twice (key g d : Nat → Int) (m : Int) (M : Nat) : ∀ N : Nat, (∀ n, n < N → 0 ≤ key n ∧ key n < M) → smN g (fun k => smN key d (k : Int) N) m M = smN (fun n => g (key n).toNat) d m N
  | 0, _ => by
    show smN g (fun _ => 0) m M = 0
    exact smN_zero g m M
  | N + 1, h => by
    have ih := smN_twice key g d m M N (fun n hn => h n (by omega))
    have hk := h N (by omega)
    have e : smN g (fun k => smN key d (k : Int) (N + 1)) m M = smN g (fun k => smN key d (k : Int) N) m M + smN g (fun k => if ((key N).toNat : Int) = (k : Int) then d N else 0) m M := by
      rw [← smN_add]
      refine smN_same (fun k _ => ⟨rfl, ?_⟩)
      show smN key d (k : Int) N + (if key N = (k : Int) then d N else 0) = _
      rw [show ((key N).toNat : Int) = key N by omega]
    rw [e, ih, smN_one]
    show _ = smN (fun n => g (key n).toNat) d m N + if g (key N).toNat = m then d N else 0
    by_cases hg : g (key N).toNat = m
    · rw [if_pos hg, if_pos ⟨by omega, hg⟩]
    · rw [if_neg hg, if_neg (fun h => hg h.2)]
theorem smN_bd {key d : Nat → Int} {m B : Int} (h0 : 0 ≤ B) : ∀ {n : Nat}, (∀ k, k < n → -B ≤ d k ∧ d k ≤ B) → -(B * n) ≤ smN key d m n ∧ smN key d m n ≤ B * n
  | 0, _ => by simp [smN]
  | n + 1, h => by
    have ih := smN_bd (key := key) (m := m) h0 (n := n) (fun k hk => h k (by omega))
    have hd := h n (by omega)
    unfold smN
    rw [show ((n + 1 : Nat) : Int) = (n : Int) + 1 by omega, Int.mul_add, Int.mul_one]
    split <;> omega
/-- A sum of all lies between so many times the least and the greatest. -/
theorem smN_all {d : Nat → Int} {lo hi : Int} : ∀ {n : Nat}, (∀ k, k < n → lo ≤ d k ∧ d k ≤ hi) → lo * n ≤ smN (fun _ => 0) d 0 n ∧ smN (fun _ => 0) d 0 n ≤ hi * n
  | 0, _ => by simp [smN]
  | n + 1, h => by
    have ih := smN_all (n := n) (fun k hk => h k (by omega))
    have hd := h n (by omega)
    unfold smN
    rw [if_pos rfl, show ((n + 1 : Nat) : Int) = (n : Int) + 1 by omega, Int.mul_add, Int.mul_one, Int.mul_add, Int.mul_one]
    omega
/-- The first m of a row of sums: what goes elsewhere does not count. -/
theorem smN_skip {key d : Nat → Int} {m : Int} (a : Nat) : ∀ (c : Nat), (∀ k, a ≤ k → k < a + c → key k ≠ m) → smN key d m (a + c) = smN key d m a
  | 0, _ => rfl
  | c + 1, h => by
    rw [show a + (c + 1) = (a + c) + 1 by omega]
    show smN key d m (a + c) + _ = _
    rw [if_neg (h (a + c) (by omega) (by omega)), smN_skip a c (fun k h1 h2 => h k h1 (by omega)), Int.add_zero]
/-- A plain sum. -/
def smA (d : Nat → Int) : Nat → Int
  | 0 => 0
  | n + 1 => smA d n + d n
theorem smA_same {d d' : Nat → Int} : ∀ {n : Nat}, (∀ k, k < n → d k = d' k) → smA d n = smA d' n
  | 0, _ => rfl
  | n + 1, h => by
    unfold smA
    rw [smA_same (fun k hk => h k (by omega)), h n (by omega)]
/-- A table's column: one word a row. -/
theorem smN_col {key d : Nat → Int} {b j : Nat} (hj : j < b) : ∀ a : Nat, (∀ i, i < a → ∀ k, k < b → key (i * b + k) = (k : Int)) → smN key d (j : Int) (a * b) = smA (fun i => d (i * b + j)) a
  | 0, _ => by rw [Nat.zero_mul]; rfl
  | a + 1, h => by
    have ih := smN_col (d := d) hj a (fun i hi => h i (by omega))
    have e1 : smN key d (j : Int) (a * b + j) = smN key d (j : Int) (a * b) := smN_skip (a * b) j (fun k h1 h2 => by
      have := h a (by omega) (k - a * b) (by omega)
      rw [show a * b + (k - a * b) = k by omega] at this
      rw [this]; omega)
    have e2 : smN key d (j : Int) (a * b + j + 1) = smN key d (j : Int) (a * b + j) + d (a * b + j) := by
      show _ + (if _ then _ else _) = _
      rw [if_pos (h a (by omega) j hj)]
    have e3 : smN key d (j : Int) (a * b + j + 1 + (b - j - 1)) = smN key d (j : Int) (a * b + j + 1) := smN_skip (a * b + j + 1) (b - j - 1) (fun k h1 h2 => by
      have := h a (by omega) (k - a * b) (by omega)
      rw [show a * b + (k - a * b) = k by omega] at this
      rw [this]; omega)
    rw [show (a + 1) * b = a * b + j + 1 + (b - j - 1) by rw [Nat.add_mul]; omega, e3, e2, e1, ih]
    rfl
/-- A table's row: all of its words. -/
theorem smN_row {key d : Nat → Int} {a b j : Nat} (hj : j < b) (h : ∀ i, i < b → ∀ k, k < a → key (i * a + k) = (i : Int)) : ∀ k, k ≤ a → smN key d (j : Int) (j * a + k) = smA (fun i => d (j * a + i)) k
  | 0, _ => by
    have : smN key d (j : Int) (0 + j * a) = smN key d (j : Int) 0 := smN_skip 0 (j * a) (fun k _ h2 => by
      have ha : 0 < a := by
        rcases Nat.eq_zero_or_pos a with rfl | h0
        · simp at h2
        · exact h0
      have hk : k / a < j := (Nat.div_lt_iff_lt_mul ha).2 (by omega)
      have := h (k / a) (by omega) (k % a) (Nat.mod_lt _ ha)
      rw [Nat.mul_comm, Nat.div_add_mod] at this
      rw [this]; omega)
    rw [Nat.zero_add] at this
    exact this
  | k + 1, hk => by
    have ih := smN_row (d := d) hj h k (by omega)
    show smN key d (j : Int) (j * a + k) + (if key (j * a + k) = (j : Int) then d (j * a + k) else 0) = smA (fun i => d (j * a + i)) k + d (j * a + k)
    rw [ih, if_pos (h j hj k (by omega))]
theorem smN_rows {key d : Nat → Int} {a b j : Nat} (hj : j < b) (h : ∀ i, i < b → ∀ k, k < a → key (i * a + k) = (i : Int)) : smN key d (j : Int) (b * a) = smA (fun i => d (j * a + i)) a := by
  have e1 := smN_row (d := d) hj h a (Nat.le_refl _)
  have e2 : smN key d (j : Int) (j * a + a + (b * a - (j * a + a))) = smN key d (j : Int) (j * a + a) := smN_skip (j * a + a) _ (fun k h1 h2 => by
    have hle : (j + 1) * a ≤ b * a := Nat.mul_le_mul_right a hj
    rw [Nat.add_mul, Nat.one_mul] at hle
    have ha : 0 < a := by
      rcases Nat.eq_zero_or_pos a with rfl | h0
      · simp at h2
      · exact h0
    have hk1 : j + 1 ≤ k / a := (Nat.le_div_iff_mul_le ha).2 (by rw [Nat.add_mul, Nat.one_mul]; omega)
    have hk2 : k / a < b := (Nat.div_lt_iff_lt_mul ha).2 (by omega)
    have := h (k / a) hk2 (k % a) (Nat.mod_lt _ ha)
    rw [Nat.mul_comm, Nat.div_add_mod] at this
    rw [this]; omega)
  have hle : (j + 1) * a ≤ b * a := Nat.mul_le_mul_right a hj
  rw [Nat.add_mul, Nat.one_mul] at hle
  rw [show j * a + a + (b * a - (j * a + a)) = b * a by omega] at e2
  rw [e2, e1]
/-- The places of a table. -/
theorem into_tab {a b : Nat} (_ha : 1 ≤ a) (hb : 1 ≤ b) {i k : Nat} (_hi : i < a) (hk : k < b) : into [(a : Int), (b : Int)] [0] (i * b + k) = (k : Int) ∧ into [(a : Int), (b : Int)] [1] (i * b + k) = (i : Int) := by
  have e1 : ((i * b + k : Nat) : Int) / (b : Int) = (i : Int) := by
    rw [← Int.natCast_ediv, Nat.add_comm, Nat.add_mul_div_right _ _ (by omega), Nat.div_eq_of_lt hk, Nat.zero_add]
  have e2 : ((i * b + k : Nat) : Int) % (b : Int) = (k : Int) := by
    rw [← Int.natCast_emod, Nat.add_comm, Nat.add_mul_mod_self_right, Nat.mod_eq_of_lt hk]
  have e3 : atl [(a : Int), (b : Int)] ((i * b + k : Nat) : Int) = [(i : Int), (k : Int)] := by
    show [((i * b + k : Nat) : Int) / ((b : Int) * 1), ((i * b + k : Nat) : Int) % ((b : Int) * 1) / 1] = _
    rw [Int.mul_one, e1, e2, Int.ediv_one]
  unfold into
  rw [e3]
  constructor
  · show (k : Int) * 1 + 0 = _
    omega
  · show (i : Int) * 1 + 0 = _
    omega
end Go.Proofs.Ytlidkeabadioeaa
namespace Go.Proofs.Ytlidkeabadioeaa

/-- The greatest word of what goes to k, of the first n (the words in order; st: where a word stands along the axis). -/
def mxv (key st d : Nat → Int) : Nat → Int → Int
  | 0, _ => 0
  | n + 1, k => if key n = k ∧ (st n = 0 ∨ mxv key st d n k < d n) then d n else mxv key st d n k
/-- Where it stands first. -/
def mxp (key st d : Nat → Int) : Nat → Int → Int
  | 0, _ => 0
  | n + 1, k => if key n = k ∧ (st n = 0 ∨ mxv key st d n k < d n) then st n else mxp key st d n k
/-- Along the axis each place's words come in order, the first one first. -/
def Ord (key st : Nat → Int) (N : Nat) : Prop := (∀ n m, n < m → m < N → key n = key m → st n < st m) ∧ (∀ m, m < N → st m ≠ 0 → ∃ n, n < m ∧ key n = key m) ∧ ∀ n, n < N → 0 ≤ st n
theorem mx_spec {key st d : Nat → Int} {T : Nat} (h : Ord key st T) : ∀ N, N ≤ T →
    (∀ n, n < N → d n ≤ mxv key st d N (key n) ∧ (st n < mxp key st d N (key n) → d n < mxv key st d N (key n)) ∧ (st n = mxp key st d N (key n) → d n = mxv key st d N (key n))) ∧
    (∀ n, n < N → ∃ m, m < N ∧ key m = key n ∧ mxp key st d N (key n) = st m)
  | 0, _ => ⟨fun n hn => absurd hn (Nat.not_lt_zero _), fun n hn => absurd hn (Nat.not_lt_zero _)⟩
  | N + 1, hN => by
    obtain ⟨ih, ip⟩ := mx_spec (d := d) h N (by omega)
    obtain ⟨h1, h2, h3⟩ := h
    by_cases c : st N = 0 ∨ mxv key st d N (key N) < d N
    · have ev : ∀ k, key N = k → mxv key st d (N + 1) k = d N := fun k e => by
        subst e
        show (if _ then _ else _) = _
        rw [if_pos ⟨rfl, c⟩]
      have ep : ∀ k, key N = k → mxp key st d (N + 1) k = st N := fun k e => by
        subst e
        show (if _ then _ else _) = _
        rw [if_pos ⟨rfl, c⟩]
      have nv : ∀ k, ¬ key N = k → mxv key st d (N + 1) k = mxv key st d N k := fun k e => if_neg (fun q => e q.1)
      have np : ∀ k, ¬ key N = k → mxp key st d (N + 1) k = mxp key st d N k := fun k e => if_neg (fun q => e q.1)
      constructor
      · intro n hn
        by_cases e : n = N
        · subst e
          rw [ev _ rfl, ep _ rfl]
          exact ⟨Int.le_refl _, fun q => absurd q (Int.lt_irrefl _), fun _ => rfl⟩
        · have hlt : n < N := by omega
          by_cases ek : key N = key n
          · rw [ev _ ek, ep _ ek]
            have hs := h1 n N hlt (by omega) ek.symm
            have hg : mxv key st d N (key N) < d N := by
              rcases c with c | c
              · have := h3 n (by omega); omega
              · exact c
            have := (ih n hlt).1
            rw [ek] at hg
            exact ⟨by omega, fun _ => by omega, fun q => by omega⟩
          · rw [nv _ ek, np _ ek]
            exact ih n hlt
      · intro n hn
        by_cases ek : key N = key n
        · exact ⟨N, by omega, ek, ep _ ek⟩
        · by_cases e : n = N
          · exact absurd (by rw [e]) ek
          · obtain ⟨m, m1, m2, m3⟩ := ip n (by omega)
            exact ⟨m, by omega, m2, by rw [np _ ek]; exact m3⟩
    · have ev : ∀ k, mxv key st d (N + 1) k = mxv key st d N k := fun k => by
        show (if _ then _ else _) = _
        by_cases e : key N = k
        · subst e; rw [if_neg (fun q => c q.2)]
        · rw [if_neg (fun q => e q.1)]
      have ep : ∀ k, mxp key st d (N + 1) k = mxp key st d N k := fun k => by
        show (if _ then _ else _) = _
        by_cases e : key N = k
        · subst e; rw [if_neg (fun q => c q.2)]
        · rw [if_neg (fun q => e q.1)]
      have c0 : st N ≠ 0 := fun e => c (.inl e)
      obtain ⟨n0, n1, n2⟩ := h2 N (by omega) c0
      obtain ⟨m, m1, m2, m3⟩ := ip n0 n1
      have hp : mxp key st d N (key N) < st N := by
        rw [← n2, m3]
        exact h1 m N m1 (by omega) (m2.trans n2)
      constructor
      · intro n hn
        rw [ev, ep]
        by_cases e : n = N
        · subst e
          exact ⟨by have := fun q => c (.inr q); omega, fun q => by omega, fun q => by omega⟩
        · exact ih n (by omega)
      · intro n hn
        rw [ep]
        by_cases e : n = N
        · subst e
          exact ⟨m, by omega, m2.trans n2, by rw [← n2]; exact m3⟩
        · obtain ⟨m', q1, q2, q3⟩ := ip n (by omega)
          exact ⟨m', by omega, q2, q3⟩

theorem lf_same_set {x y : List Int} {a : Nat} (hl : x.length = y.length) (ha : a < x.length) (h : lf x [(a : Int)] 0 = lf y [(a : Int)] 0) : y = x.set a (y.getD a 0) := by
  rw [lf_one x a 0 (Nat.zero_le _), lf_one y a 0 (Nat.zero_le _), Nat.sub_zero] at h
  refine ext_getD (by rw [List.length_set, hl]) (fun k hk => ?_)
  by_cases e : k = a
  · subst e
    simp only [List.getD_eq_getElem?_getD, List.getElem?_set]
    rw [if_pos trivial, if_pos ha]; rfl
  · have hx : (x.set a (y.getD a 0)).getD k 0 = x.getD k 0 := by
      simp only [List.getD_eq_getElem?_getD, List.getElem?_set]
      rw [if_neg (Ne.symm e)]
    rw [hx]
    simp only [List.getD_eq_getElem?_getD]
    by_cases hk2 : k < a
    · have := congrArg (fun l : List Int => l[k]?) h
      simp only [List.getElem?_eraseIdx, if_pos hk2] at this
      rw [this]
    · have := congrArg (fun l : List Int => l[k - 1]?) h
      simp only [List.getElem?_eraseIdx, if_neg (show ¬ k - 1 < a by omega), show k - 1 + 1 = k by omega] at this
      rw [this]
theorem lf_set (x : List Int) (a : Nat) (v : Int) : lf (x.set a v) [(a : Int)] 0 = lf x [(a : Int)] 0 := by
  rw [lf_one _ a 0 (Nat.zero_le _), lf_one x a 0 (Nat.zero_le _), Nat.sub_zero]
  refine List.ext_getElem? (fun k => ?_)
  simp only [List.getElem?_eraseIdx, List.getElem?_set]
  by_cases hk : k < a
  · rw [if_pos hk, if_pos hk, if_neg (by omega)]
  · rw [if_neg hk, if_neg hk, if_neg (by omega)]
/-- Along an axis places go on in order. -/
theorem ord_axis {s : List Int} {a N : Nat} (h : pos s) (ha : a < s.length) (hN : (N : Int) = prod s) : Ord (into s [(a : Int)]) (fun n => (atl s (n : Nat)).getD a 0) N := by
  have hin : ∀ n : Nat, n < N → inx s (atl s (n : Nat)) = true := fun n hn => atl_inx s (n : Nat) h (by omega) (by omega)
  have hp : 1 ≤ prod (s.drop (a + 1)) := prod_pos (pos_drop h _)
  refine ⟨fun n m hnm hm hk => ?_, fun m hm hs => ?_, fun n hn => ((inx_iff.1 (hin n hn)).2 a ha).1⟩
  · have e1 : lf (atl s (n : Nat)) [(a : Int)] 0 = lf (atl s (m : Nat)) [(a : Int)] 0 := by
      rw [← atl_into [(a : Int)] h (show (n : Int) < prod s by omega), ← atl_into [(a : Int)] h (show (m : Int) < prod s by omega), hk]
    have e2 := lf_same_set (by rw [atl_len, atl_len]) (by rw [atl_len]; exact ha) e1
    have e3 := ix_put s (atl s (n : Nat)) a ((atl s (m : Nat)).getD a 0) (by rw [atl_len]) ha
    rw [← e2, ix_atl s (m : Nat) h (by omega) (by omega), ix_atl s (n : Nat) h (by omega) (by omega)] at e3
    show (atl s (n : Nat)).getD a 0 < (atl s (m : Nat)).getD a 0
    rcases Int.lt_or_le ((atl s (n : Nat)).getD a 0) ((atl s (m : Nat)).getD a 0) with q | q
    · exact q
    · have := Int.mul_le_mul_of_nonneg_right (show (atl s (m : Nat)).getD a 0 - (atl s (n : Nat)).getD a 0 ≤ 0 by omega) (show 0 ≤ prod (s.drop (a + 1)) by omega)
      omega
  · have hi := hin m hm
    have hb := (inx_iff.1 hi).2 a ha
    have i2 := inx_put (k := a) (v := 0) hi (Int.le_refl _) (by omega)
    have b2 := ix_bd i2
    have e3 := ix_put s (atl s (m : Nat)) a 0 (by rw [atl_len]) ha
    rw [ix_atl s (m : Nat) h (by omega) (by omega)] at e3
    have hs' : 1 ≤ (atl s (m : Nat)).getD a 0 := by
      have : (atl s (m : Nat)).getD a 0 ≠ 0 := hs
      omega
    have hlt : ix s ((atl s (m : Nat)).set a 0) < m := by
      have := Int.mul_le_mul hs' hp (by omega) (by omega)
      rw [Int.zero_sub, Int.neg_mul] at e3
      omega
    refine ⟨(ix s ((atl s (m : Nat)).set a 0)).toNat, by omega, ?_⟩
    unfold into
    rw [show (((ix s ((atl s (m : Nat)).set a 0)).toNat : Nat) : Int) = ix s ((atl s (m : Nat)).set a 0) by omega, atl_ix _ _ i2, lf_set _ a 0]
end Go.Proofs.Ytlidkeabadioeaa
namespace Go.Proofs.Ytlidkeabadioeaa

/-- Rising numbers of axes, above the one before. -/
def axb (n : Int) : List Int → Int → Bool
  | [], _ => true
  | a :: r, l => decide (l < a) && decide (a < n) && axb n r a
theorem axb_drop {n l : Int} {ax : List Int} {k : Nat} (h : k < ax.length) : axb n (ax.drop k) l = (decide (l < ax.getD k 0) && decide (ax.getD k 0 < n) && axb n (ax.drop (k + 1)) (ax.getD k 0)) := by
  rw [drop_getD h]; rfl
theorem axb_step {n l : Int} {ax : List Int} {k : Nat} (h : k < ax.length) (h1 : l < ax.getD k 0) (h2 : ax.getD k 0 < n) : axb n (ax.drop k) l = axb n (ax.drop (k + 1)) (ax.getD k 0) := by
  rw [axb_drop h, decide_eq_true h1, decide_eq_true h2]; rfl
theorem axb_stop {n l : Int} {ax : List Int} {k : Nat} (h : k < ax.length) (h1 : ¬ (l < ax.getD k 0 ∧ ax.getD k 0 < n)) : axb n (ax.drop k) l = false := by
  rw [axb_drop h]
  by_cases a : l < ax.getD k 0
  · rw [decide_eq_false (show ¬ ax.getD k 0 < n from fun b => h1 ⟨a, b⟩)]; simp
  · rw [decide_eq_false a]; rfl
theorem axb_mem {n : Int} : ∀ {ax : List Int} {l : Int}, axb n ax l = true → ∀ x ∈ ax, l < x ∧ x < n
  | [], _, _, x, hx => by cases hx
  | a :: r, l, h, x, hx => by
    unfold axb at h
    simp only [Bool.and_eq_true, decide_eq_true_eq] at h
    rcases List.mem_cons.1 hx with rfl | hr
    · exact h.1
    · have := axb_mem h.2 x hr
      omega
theorem axb_len {n : Int} : ∀ {ax : List Int} {l : Int}, axb n ax l = true → l < n → (ax.length : Int) ≤ n - 1 - l
  | [], _, _, hl => by simp; omega
  | a :: r, l, h, hl => by
    unfold axb at h
    simp only [Bool.and_eq_true, decide_eq_true_eq] at h
    have := axb_len h.2 h.1.2
    simp only [List.length_cons]
    omega
theorem axb_one {n a : Nat} (h : a < n) : axb (n : Int) [(a : Int)] (-1) = true := by
  unfold axb axb
  rw [decide_eq_true (by omega), decide_eq_true (by omega)]; rfl
theorem axb_two {n lo hi : Nat} (h : lo < hi) (h2 : hi < n) : axb (n : Int) [(lo : Int), (hi : Int)] (-1) = true := by
  unfold axb axb axb
  rw [decide_eq_true (by omega), decide_eq_true (by omega), decide_eq_true (by omega), decide_eq_true (by omega)]; rfl
theorem alx_snoc (n : Nat) : alx (n + 1) = alx n ++ [(n : Int)] := by
  unfold alx
  rw [List.range_succ, List.map_append]; rfl
theorem alx_len (n : Nat) : (alx n).length = n := by simp [alx]
theorem axb_alx (n : Nat) : ∀ k o : Nat, o + k = n → axb (n : Int) ((List.range' o k).map fun j : Nat => (j : Int)) ((o : Int) - 1) = true
  | 0, _, _ => rfl
  | k + 1, o, h => by
    have ih := axb_alx n k (o + 1) (by omega)
    rw [show (((o + 1 : Nat) : Int) - 1) = (o : Int) by omega] at ih
    show (decide ((o : Int) - 1 < (o : Int)) && decide ((o : Int) < (n : Int)) && axb (n : Int) ((List.range' (o + 1) k).map fun j : Nat => (j : Int)) (o : Int)) = true
    rw [ih, decide_eq_true (by omega), decide_eq_true (by omega)]; rfl
theorem alx_axb (n : Nat) : axb (n : Int) (alx n) (-1) = true := by
  have := axb_alx n n 0 (by omega)
  unfold alx
  rw [List.range_eq_range']
  exact this

/-- A shape with ones for its axes. -/
def ons : List Int → List Int → Nat → List Int
  | [], _, _ => []
  | d :: r, ax, o => (if (o : Int) ∈ ax then 1 else d) :: ons r ax (o + 1)
theorem ons_len (ax : List Int) : ∀ (s : List Int) (o : Nat), (ons s ax o).length = s.length
  | [], _ => rfl
  | d :: r, o => by simp [ons, ons_len ax r (o + 1)]
theorem ons_getD (ax : List Int) : ∀ (s : List Int) (o k : Nat), k < s.length → (ons s ax o).getD k 0 = if ((o + k : Nat) : Int) ∈ ax then 1 else s.getD k 0
  | [], _, k, h => by simp at h
  | d :: r, o, 0, _ => by simp [ons]
  | d :: r, o, k + 1, h => by
    have := ons_getD ax r (o + 1) k (by simpa using h)
    rw [show o + (k + 1) = o + 1 + k by omega]
    simpa [ons] using this
theorem ons_prod (ax : List Int) : ∀ (s : List Int) (o : Nat), prod (ons s ax o) = prod (lf s ax o)
  | [], _ => rfl
  | d :: r, o => by
    have ih := ons_prod ax r (o + 1)
    unfold ons lf
    split
    · show 1 * prod (ons r ax (o + 1)) = _
      rw [Int.one_mul, ih]
    · show d * prod (ons r ax (o + 1)) = d * prod (lf r ax (o + 1))
      rw [ih]
theorem ons_ix (ax : List Int) : ∀ (s i : List Int) (o : Nat), inx s i = true → ix (ons s ax o) (msk (ons s ax o) i) = ix (lf s ax o) (lf i ax o)
  | [], [], _, _ => rfl
  | d :: r, x :: t, o, h => by
    unfold inx at h
    simp only [Bool.and_eq_true, decide_eq_true_eq] at h
    have ih := ons_ix ax r t (o + 1) h.2
    unfold ons lf
    by_cases e : (o : Int) ∈ ax
    · rw [if_pos e, if_pos e]
      show (if (1 : Int) < 1 then x else 0) * prod (ons r ax (o + 1)) + ix (ons r ax (o + 1)) (msk (ons r ax (o + 1)) t) = ix (lf r ax (o + 1)) (if _ then lf t ax (o + 1) else x :: lf t ax (o + 1))
      rw [if_pos e, ih]; simp
    · rw [if_neg e, if_neg e]
      show (if 1 < d then x else 0) * prod (ons r ax (o + 1)) + ix (ons r ax (o + 1)) (msk (ons r ax (o + 1)) t) = ix (d :: lf r ax (o + 1)) (if _ then lf t ax (o + 1) else x :: lf t ax (o + 1))
      rw [if_neg e, ih]
      show _ = x * prod (lf r ax (o + 1)) + ix (lf r ax (o + 1)) (lf t ax (o + 1))
      rw [ons_prod]
      by_cases hd : 1 < d
      · rw [if_pos hd]
      · rw [if_neg hd, show x = 0 by omega]
  | [], _ :: _, _, h => by simp [inx] at h
  | _ :: _, [], _, h => by simp [inx] at h
theorem ons_may {s : List Int} (ax : List Int) (h : may s = true) : may (ons s ax 0) = true := by
  obtain ⟨a, b, c⟩ := (may_iff s).1 h
  have hp := lf_prod ax s 0 (may_pos h)
  refine (may_iff _).2 ⟨by rw [ons_len]; exact a, fun d hd => ?_, by rw [ons_prod]; omega⟩
  obtain ⟨k, hk, rfl⟩ := List.getElem_of_mem hd
  have e := ons_getD ax s 0 k (by rwa [ons_len] at hk)
  rw [List.getD_eq_getElem?_getD, List.getElem?_eq_getElem hk] at e
  rw [show (ons s ax 0)[k] = (some (ons s ax 0)[k]).getD 0 from rfl, e]
  have := may_dim h (i := k) (by rwa [ons_len] at hk)
  split <;> omega
theorem ons_goes {s : List Int} (ax : List Int) (h : may s = true) : goes (ons s ax 0) s = true := by
  rw [goes_is (ons_may ax h) h, ons_len, decide_eq_true (Nat.le_refl _), Bool.true_and, gN_iff]
  intro j h1 h2
  have e1 := ov_at (s := ons s ax 0) (k := s.length - j) (by rw [ons_len]; omega)
  have e2 := ov_at (s := s) (k := s.length - j) (by omega)
  rw [ons_len, show s.length - (s.length - j) = j by omega, ons_getD ax s 0 _ (by omega)] at e1
  rw [show s.length - (s.length - j) = j by omega] at e2
  rw [e1, e2]
  split
  · exact .inl rfl
  · exact .inr rfl
theorem ons_und {s : List Int} (ax : List Int) {n : Nat} (h : pos s) (hn : (n : Int) < prod s) : und (ons s ax 0) (atl s (n : Nat)) = into s ax n := by
  have hi := atl_inx s (n : Nat) h (by omega) hn
  unfold und into
  rw [lst_same (by rw [ons_len, atl_len]), ons_ix ax _ _ 0 hi]
/-- A list that was gone through so far. -/
theorem ons_end {s ax L : List Int} (hl : L.length = s.length) (h : ∀ j, j < s.length → L.getD j 0 = if (j : Int) ∈ ax then 1 else s.getD j 0) : L = ons s ax 0 := by
  refine ext_getD (by rw [hl, ons_len]) (fun k hk => ?_)
  rw [h k (by omega), ons_getD ax s 0 k (by omega), Nat.zero_add]
theorem lf_prod_step {s ax : List Int} {k : Nat} (h : k < s.length) : prod (lf (s.take (k + 1)) ax 0) = if (k : Int) ∈ ax then prod (lf (s.take k) ax 0) else prod (lf (s.take k) ax 0) * s.getD k 0 := by
  have pa : ∀ (l : List Int) (x : Int), prod (l ++ [x]) = prod l * x := fun l x => by
    induction l with
    | nil => show x * 1 = 1 * x; omega
    | cons a r ih => show a * prod (r ++ [x]) = a * prod r * x; rw [ih, Int.mul_assoc]
  rw [lf_step h]
  by_cases e : (k : Int) ∈ ax
  · rw [if_pos e, if_pos e, List.append_nil]
  · rw [if_neg e, if_neg e, pa]
theorem lf_take_prod {s : List Int} (ax : List Int) (h : may s = true) (k : Nat) : 1 ≤ prod (lf (s.take k) ax 0) ∧ prod (lf (s.take k) ax 0) ≤ 65536 := by
  have ht : pos (s.take k) := fun x hx => may_pos h x (List.mem_of_mem_take hx)
  have h1 := lf_prod ax (s.take k) 0 ht
  have h2 : prod (s.take k) ≤ prod s := by
    have pm : ∀ (a b : List Int), prod (a ++ b) = prod a * prod b := fun a b => by
      induction a with
      | nil => show prod b = 1 * prod b; omega
      | cons x r ih => show x * prod (r ++ b) = x * prod r * prod b; rw [ih, Int.mul_assoc]
    have e := pm (s.take k) (s.drop k)
    rw [List.take_append_drop] at e
    rw [e]
    have p1 := prod_pos ht
    have p2 := prod_pos (pos_drop (may_pos h) k)
    have := Int.mul_le_mul_of_nonneg_left p2 (show 0 ≤ prod (s.take k) by omega)
    omega
  have := may_prod h
  omega
end Go.Proofs.Ytlidkeabadioeaa
namespace Go.Proofs.Ytlidkeabadioeaa
open Go.RowKit

set_option maxRecDepth 100000 in
set_option maxHeartbeats 2000000 in
theorem count_ok (v : Value) (ls : List Int) (w : World) (h : Ld w v ls) (hm : may ls = true) :
    Calls Try.prog 75 #[v] w fun e w' => e = .returned (.tuple #[.int .i64 (prod ls), .int .i64 0]) ∧ w = w' := by
  obtain ⟨o, c, rfl, _, hx⟩ := h
  have HX := Lib.hid hx
  have hl := may_len hm
  have HC := Lib.hid (may_cnt hm)
  have HP := Lib.hid (may_prod hm)
  clear hx hm
  go_enter Try.func75, Try.ntmps75
  go_wp2
  go_loop [4, 12] (fun s4 s12 => ∃ (k : Nat) (m : Int), k ≤ ls.length ∧ 1 ≤ m ∧ m ≤ 65536 ∧ s12 = .int .i64 k ∧ s4 = .int .i64 m ∧ Hid (cnt m (ls.drop k) = cnt 1 ls)) (fun _ s12 => ls.length - (intOf s12).toNat)
  case atStart => exact ⟨0, 1, Nat.zero_le _, by decide, by decide, rfl, rfl, rfl⟩
  case round =>
    obtain ⟨k, m, hk, m0, m1, rfl, rfl, HM⟩ := hrel
    by_cases hlt : k < ls.length
    · obtain ⟨b, f, rfl, hb, hc⟩ := HX.out k hlt
      have st := cnt_step hlt m
      rw [HM.out, HC.out] at st
      obtain ⟨d, hd⟩ : ∃ d, d = ls.getD k 0 := ⟨_, rfl⟩
      rw [← hd] at st hc
      have hp := HP.out
      have g : 1 ≤ d ∧ d ≤ 4096 ∧ d * m ≤ 65536 := Classical.byContradiction fun g => by rw [if_neg g] at st; omega
      rw [if_pos g] at st
      obtain ⟨g1, g2, g3⟩ := g
      have q : ¬ 65536 / m < d := by rw [quo_lt m0]; omega
      have m2 : 1 ≤ m * d := by have := Int.mul_le_mul m0 g1 (by decide) (by omega); omega
      have m3 : m * d ≤ 65536 := by rw [Int.mul_comm]; omega
      have ST := Lib.hid st
      clear st hd hp g3
      go_wp2
      refine ⟨⟨k + 1, m * d, by omega, m2, m3, by go_num, rfl, by unfold Hid; rw [← ST.out, HC.out]⟩, by simp [intOf]; omega⟩
    · obtain rfl : m = prod ls := by
        have := HM.out
        rw [List.drop_eq_nil_of_le (by omega), HC.out] at this
        exact this
      go_wp2
      go_ret2
      exact ⟨rfl, rfl⟩

set_option maxRecDepth 100000 in
set_option maxHeartbeats 2000000 in
theorem count_no (v : Value) (ls : List Int) (w : World) (h : Ld w v ls) (hm : may ls = false) :
    Calls Try.prog 75 #[v] w fun e w' => e = .returned (.tuple #[.int .i64 0, .int .i64 1]) ∧ w = w' := by
  obtain ⟨o, c, rfl, _, hx⟩ := h
  have HX := Lib.hid hx
  clear hx
  by_cases h4 : 4 < ls.length
  · clear hm
    go_enter Try.func75, Try.ntmps75
    go_wp2
    go_ret2
    exact ⟨rfl, rfl⟩
  have HC : Hid (cnt 1 ls = 0) := by rcases may_no hm with a | a
                                     · exact absurd a h4
                                     · exact a
  clear hm
  go_enter Try.func75, Try.ntmps75
  go_wp2
  go_loop [4, 12] (fun s4 s12 => ∃ (k : Nat) (m : Int), k ≤ ls.length ∧ 1 ≤ m ∧ m ≤ 65536 ∧ s12 = .int .i64 k ∧ s4 = .int .i64 m ∧ Hid (cnt m (ls.drop k) = cnt 1 ls)) (fun _ s12 => ls.length - (intOf s12).toNat)
  case atStart => exact ⟨0, 1, Nat.zero_le _, by decide, by decide, rfl, rfl, rfl⟩
  case round =>
    obtain ⟨k, m, hk, m0, m1, rfl, rfl, HM⟩ := hrel
    by_cases hlt : k < ls.length
    · obtain ⟨b, f, rfl, hb, hc⟩ := HX.out k hlt
      have st := cnt_step hlt m
      rw [HM.out, HC.out] at st
      obtain ⟨d, hd⟩ : ∃ d, d = ls.getD k 0 := ⟨_, rfl⟩
      rw [← hd] at st hc
      by_cases g1 : d < 1
      · clear st hd
        go_wp2
        go_ret2
        exact ⟨rfl, rfl⟩
      by_cases g2 : 4096 < d
      · clear st hd
        go_wp2
        go_ret2
        exact ⟨rfl, rfl⟩
      by_cases g3 : 65536 / m < d
      · clear st hd
        go_wp2
        go_ret2
        exact ⟨rfl, rfl⟩
      have g4 : d * m ≤ 65536 := Classical.byContradiction fun g => g3 ((quo_lt m0).2 g)
      rw [if_pos ⟨by omega, by omega, g4⟩] at st
      have m2 : 1 ≤ m * d := by have := Int.mul_le_mul m0 (show 1 ≤ d by omega) (by decide) (by omega); omega
      have m3 : m * d ≤ 65536 := by rw [Int.mul_comm]; omega
      have ST := Lib.hid st
      clear st hd g4
      go_wp2
      refine ⟨⟨k + 1, m * d, by omega, m2, m3, by go_num, rfl, by unfold Hid; rw [← ST.out, HC.out]⟩, by simp [intOf]; omega⟩
    · exfalso
      have := HM.out
      rw [List.drop_eq_nil_of_le (by omega), HC.out] at this
      simp [cnt] at this
      omega

set_option maxRecDepth 100000 in
theorem check_ok (v : Value) (ls : List Int) (w : World) (h : Ld w v ls) (hm : may ls = true) :
    Calls Try.prog 62 #[v] w fun e w' => e = .returned (.int .i64 0) ∧ w = w' := by
  have C := Lib.hid (count_ok v ls w h hm)
  clear h hm
  go_enter Try.func62, Try.ntmps62
  go_wp2_with (go_at_call 75; (with_reducible refine C.out.mono ?_); rintro e w' ⟨rfl, rfl⟩)
  go_ret
  exact ⟨rfl, rfl⟩
set_option maxRecDepth 100000 in
theorem check_no (v : Value) (ls : List Int) (w : World) (h : Ld w v ls) (hm : may ls = false) :
    Calls Try.prog 62 #[v] w fun e w' => e = .returned (.int .i64 1) ∧ w = w' := by
  have C := Lib.hid (count_no v ls w h hm)
  clear h hm
  go_enter Try.func62, Try.ntmps62
  go_wp2_with (go_at_call 75; (with_reducible refine C.out.mono ?_); rintro e w' ⟨rfl, rfl⟩)
  go_ret
  exact ⟨rfl, rfl⟩
end Go.Proofs.Ytlidkeabadioeaa
namespace Go.Proofs.Ytlidkeabadioeaa
open Go.RowKit



end Go.Proofs.Ytlidkeabadioeaa
namespace Go.Proofs.Ytlidkeabadioeaa
open Go.RowKit Go.Shelf
attribute [local go_sem] Oper.semAt_some

/-- Places, from the last one down. -/
def rs {n : Nat} : (j : Nat) → j ≤ n → List (Fin n)
  | 0, _ => []
  | j + 1, h => ⟨j, h⟩ :: rs j (by omega)
theorem rs_len {n : Nat} : ∀ (j : Nat) (h : j ≤ n), (rs j h).length = j
  | 0, _ => rfl
  | j + 1, h => by simp [rs, rs_len j]
/-- All places, from the last one down. -/
def bk (n : Nat) : List (Fin n) := rs n (Nat.le_refl n)
/-- What a round must keep: what lay there ahead, and the box. -/
def KeepB (n0 B : Nat) (W W' : World) : Prop := W'.heap[B]? = W.heap[B]? ∧ ∀ k, k < n0 → W'.heap[k]? = W.heap[k]?
theorem KeepB.refl (n0 B : Nat) (W : World) : KeepB n0 B W W := ⟨rfl, fun _ _ => rfl⟩
theorem KeepB.trans {n0 B : Nat} {a b c : World} (h : KeepB n0 B a b) (k : KeepB n0 B b c) : KeepB n0 B a c := ⟨k.1.trans h.1, fun i hi => (k.2 i hi).trans (h.2 i hi)⟩
theorem KeepB.cell {n0 B : Nat} {W W' : World} (h : KeepB n0 B W W') : W'.cell? ⟨B, 0, none⟩ = W.cell? ⟨B, 0, none⟩ := by simp [World.cell?, h.1]
theorem KeepB.old {n0 B b o : Nat} {W W' : World} (h : KeepB n0 B W W') (hb : b < n0) : W'.cell? ⟨b, o, none⟩ = W.cell? ⟨b, o, none⟩ := by simp [World.cell?, h.2 b hb]
theorem KeepB.put {n0 B : Nat} {w : World} (hn : n0 ≤ w.heap.size) (hB : B < w.heap.size) (W : World) (l : Nat) (o o' : Obj) (hl : w.heap.size ≤ l) (_ : W.heap[l]? = some o) (_ : o.isCells = false) (_ : o.isWalk = false) : KeepB n0 B W (W.putObj l o') :=
  ⟨World.putObj_heap_other (by omega), fun k h2 => World.putObj_heap_other (by omega)⟩
/-- The pair that the body is told. -/
def pr (ls : List Int) (x : Fin ls.length) : Array Value := #[.int .i64 (x.1 : Nat), .int .i64 (ls.getD x.1 0)]

set_option maxRecDepth 100000 in
set_option maxHeartbeats 2000000 in
theorem back1_in (F : Fence) (n : Nat) (hfn : F.fn 122) (hro : F.round = none) (hn : 1 ≤ n) (l B n0 : Nat) (o : Option Addr) (c : Nat) (ls : List Int) (hl : ls.length ≤ 1073741824) (J Jx : List (Fin ls.length) → World → Prop)
    (hY : ∀ pre x W, J pre W → pre.length < ls.length → YieldAt F (n - 1) Try.prog l (pr ls x) W fun e W' =>
      (e = .returned (.bool true) ∧ J (pre ++ [x]) W' ∧ KeepB n0 B W W') ∨ (e = .returned (.bool false) ∧ Jx (pre ++ [x]) W'))
    (W : World) (h0s : W.cell? ⟨B, 0, none⟩ = some (.slice o ls.length c)) (hx : ∀ i, i < ls.length → ∃ b f, o = some ⟨b, f, none⟩ ∧ b < n0 ∧ W.cell? ⟨b, f + i, none⟩ = some (.int .i64 (ls.getD i 0))) (h0 : J [] W) :
    CallsIn F n Try.prog 122 #[.func (.yield l) #[] #[], .pointer (some ⟨B, 0, none⟩)] W fun e W' => (∃ v, e = .returned v) ∧
      ((∃ ys, ys = bk ls.length ∧ J ys W') ∨ (∃ pre, pre <+: bk ls.length ∧ Jx pre W')) := by
  have HX := Lib.hid hx
  clear hx
  refine callsIn_of_wp Try.func122 rfl hfn ?_ hro
  simp only [Try.ntmps122, List.size_toArray, List.length_cons, List.length_nil, Nat.reduceAdd, Nat.reduceSub, Array.replicate_succ, Array.replicate_zero, List.push_toArray, List.append_toArray, List.nil_append, List.cons_append]
  gi_wp2
  gi_loopw [3] (fun v wr => ∃ (pre : List (Fin ls.length)) (j : Nat) (hj : j ≤ ls.length), v = .int .i64 ((j : Int) - 1) ∧ Hid (pre ++ rs j hj = bk ls.length) ∧ J pre wr ∧ KeepB n0 B W wr)
    (fun v _ => (intOf v + 1).toNat)
  case atStart =>
    exact ⟨[], ls.length, Nat.le_refl _, rfl, rfl, h0, KeepB.refl _ _ _⟩
  case round =>
    obtain ⟨pre, j, hj, rfl, hp, hJs, hnx⟩ := hrel
    have c0 : wr.cell? ⟨B, 0, none⟩ = some (.slice o ls.length c) := hnx.cell.trans h0s
    cases j with
    | zero =>
      gi_wp2
      go_end0
      have hp := hp.out
      simp only [rs, List.append_nil] at hp
      exact ⟨⟨_, rfl⟩, .inl ⟨pre, hp, hJs⟩⟩
    | succ j =>
      obtain ⟨b, f, rfl, hb, hc⟩ := HX.out j hj
      have hc' : wr.cell? ⟨b, f + j, none⟩ = some (.int .i64 (ls.getD j 0)) := (hnx.old hb).trans hc
      have hpl : pre.length < ls.length := by
        have h1 := congrArg List.length hp.out
        rw [List.length_append, rs_len, bk, rs_len] at h1
        omega
      have hy0 := hY pre ⟨j, hj⟩ wr hJs hpl
      unfold pr at hy0
      obtain ⟨fn, tmps, assign, body, hy, hR⟩ := hy0
      have ej : ((j + 1 : Nat) : Int) - 1 = (j : Int) := by omega
      rw [ej]
      generalize ls.getD j 0 = x at *
      clear hc
      gi_wp2
      refine hR.mono ?_
      rintro e W3 (⟨rfl, hJ3, hk3⟩ | ⟨rfl, hJx3⟩)
      · have c1' : W3.cell? ⟨B, 0, none⟩ = some (.slice (some ⟨b, f, none⟩) ls.length c) := hk3.cell.trans c0
        gi_wp2
        go_roundw
        case rel => exact ⟨pre ++ [⟨j, hj⟩], j, by omega, rfl, by have := hp.out; rw [← this]; simp [rs, Hid], hJ3, hnx.trans hk3⟩
        case measure => simp [intOf]
      · gi_wp2
        refine bodyPost_ret (results_none rfl _ _ _) rfl ?_
        exact ⟨⟨_, rfl⟩, .inr ⟨pre ++ [⟨j, hj⟩], ⟨rs j (by omega), by have := hp.out; rw [← this]; simp [rs]⟩, hJx3⟩⟩

/-- The iterator's contract. -/
theorem back_stops (F : Fence) (n : Nat) (hfn : F.fn 122) (hro : F.round = none) (hn : 1 ≤ n) (B n0 : Nat) (o : Option Addr) (c : Nat) (ls : List Int) (hl : ls.length ≤ 1073741824) (w : World) (hB : B < w.heap.size) (hn0 : n0 ≤ w.heap.size)
    (h0s : w.cell? ⟨B, 0, none⟩ = some (.slice o ls.length c)) (hx : ∀ i, i < ls.length → ∃ b f, o = some ⟨b, f, none⟩ ∧ b < n0 ∧ w.cell? ⟨b, f + i, none⟩ = some (.int .i64 (ls.getD i 0))) :
    SeqStopsK F n Try.prog 122 #[.pointer (some ⟨B, 0, none⟩)] (pr ls) (KeepB n0 B) (fun ys => ys = bk ls.length) (fun pre => pre <+: bk ls.length) ls.length w := fun l J Jx W hW _ _ hY h0 =>
  back1_in F n hfn hro hn l B n0 o c ls hl J Jx hY W ((hW.cell (p := ⟨B, 0, none⟩) hB).trans h0s) (fun i hi => by
    obtain ⟨b, f, e, hb, hc⟩ := hx i hi
    exact ⟨b, f, e, hb, (hW.cell (p := ⟨b, f + i, none⟩) (by show b < _; omega)).trans hc⟩) h0

set_option maxRecDepth 100000 in
/-- slices.Backward: a box, and the function value that holds it. -/
theorem backs_any (o : Option Addr) (n c : Nat) (w : World) : Calls Try.prog 101 #[.slice o n c] w fun e w' => e = .returned (.func (.func 122) #[] #[.pointer (some ⟨w.heap.size, 0, none⟩)]) ∧
    w.alloc (.cells #[.slice o n c] 23) = w' := by
  go_enter Try.func101, Try.ntmps101
  go_wp2
  refine bodyPost_ret (results_tmp rfl _ _ _) rfl ?_
  exact ⟨rfl, rfl⟩
end Go.Proofs.Ytlidkeabadioeaa
namespace Go.Proofs.Ytlidkeabadioeaa
open Go.RowKit Go.Shelf
attribute [local go_sem] Oper.semAt_some

theorem infoI : (Try.prog.info? 3).map (fun i => (i.zero, i.size, i.bytes)) = some (some (.int .i64 0), 1, 8) := by kernel_rfl
theorem Blk.kept {W W' : World} {row : Option Nat} {B : Nat} {t : TypeId} {cs : Array Value} (h : Blk W B t cs) (hg : W.grownBy W' row) (hne : some B ≠ row) : Blk W' B t cs := (hg.block B h.lt hne).trans h
theorem blk_own {β : Type} (B : Nat) (t : TypeId) (f : β → Array Value) : Own (fun s W => Blk W B t (f s)) := fun s X Y row hs hg hrow =>
  hs.kept hg fun e => by
    obtain ⟨o, ho, hc⟩ := hrow B e.symm
    rw [show X.heap[B]? = _ from hs] at ho
    cases ho
    cases hc
theorem Blk.at_ {W : World} {B : Nat} {t : TypeId} {cs : Array Value} (h : Blk W B t cs) {p : Addr} (hp : B ≠ p.block) (u : Value) : Blk (W.setCell p u) B t cs := h.far hp u
theorem boxed_at {W : World} {B : Nat} {t : TypeId} {v : Value} (h : Boxed W B t v) {p : Addr} (hp : B ≠ p.block) (u : Value) : Boxed (W.setCell p u) B t v := (Below.heap_setCell W p u B hp).trans h

theorem Blk.box {W : World} {B B' : Nat} {t : TypeId} {cs : Array Value} (h : Blk W B t cs) (hne : B ≠ B') (u : Value) : Blk (W.setCell ⟨B', 0, none⟩ u) B t cs := h.far (p := ⟨B', 0, none⟩) hne u
theorem KeepB.set {n0 B : Nat} {W : World} {p : Addr} (hp : p.block ≠ B) (hn : n0 ≤ p.block) (u : Value) : KeepB n0 B W (W.setCell p u) :=
  ⟨Below.heap_setCell W p u B (fun e => hp e.symm), fun k hk => Below.heap_setCell W p u k (by omega)⟩

def stf (ls : List Int) (pre : List (Fin ls.length)) : List Int × Int := pre.foldl (fun p x => (p.1.set x.1 p.2, wrap64 (p.2 * ls.getD x.1 0))) (List.replicate ls.length 0, 1)
theorem stf_snoc (ls : List Int) (pre : List (Fin ls.length)) (x : Fin ls.length) : stf ls (pre ++ [x]) = ((stf ls pre).1.set x.1 (stf ls pre).2, wrap64 ((stf ls pre).2 * ls.getD x.1 0)) := by simp [stf]
theorem stf_len (ls : List Int) (pre : List (Fin ls.length)) : (stf ls pre).1.length = ls.length := by
  have : ∀ (pre : List (Fin ls.length)) (p : List Int × Int), p.1.length = ls.length → (pre.foldl (fun p x => (p.1.set x.1 p.2, wrap64 (p.2 * ls.getD x.1 0))) p).1.length = ls.length := by
    intro pre
    induction pre with
    | nil => intro p h; exact h
    | cons x pre ih => intro p h; exact ih _ (by simpa using h)
  exact this pre _ (by simp)
theorem stf_end {ls : List Int} (hm : may ls = true) : (stf ls (bk ls.length)).1 = stl ls := by
  have : ∀ (j : Nat) (hj : j ≤ ls.length) (p : List Int × Int), p.1.length = ls.length → p.2 = prod (ls.drop j) → (∀ i, j ≤ i → i < ls.length → p.1.getD i 0 = prod (ls.drop (i + 1))) →
      ∀ i, i < ls.length → ((rs j hj).foldl (fun p x => (p.1.set x.1 p.2, wrap64 (p.2 * ls.getD x.1 0))) p).1.getD i 0 = prod (ls.drop (i + 1)) := by
    intro j
    induction j with
    | zero => intro hj p h1 h2 h3 i hi; exact h3 i (Nat.zero_le _) hi
    | succ j ih =>
      intro hj p h1 h2 h3 i hi
      simp only [rs, List.foldl_cons]
      refine ih (by omega) _ (by simpa using h1) ?_ ?_ i hi
      · simp only [h2]
        rw [prod_drop (show j < ls.length by omega), Int.mul_comm]
        have := may_drop hm j
        rw [prod_drop (show j < ls.length by omega)] at this
        exact IntWalk.wrap64_in _ ⟨by omega, by omega⟩
      · intro k k1 k2
        simp only
        by_cases e : j = k
        · subst e; rw [set_getD_self (by omega), h2]
        · rw [set_getD_ne e]; exact h3 k (by omega) k2
  refine ext_getD (by rw [stf_len, stl_len]) fun k hk => ?_
  rw [stf_len] at hk
  rw [stl_getD ls k hk]
  exact this ls.length (Nat.le_refl _) (List.replicate ls.length 0, 1) (by simp) (by simp [prod]) (fun i h1 h2 => by omega) k hk

set_option maxRecDepth 100000 in
set_option maxHeartbeats 4000000 in
theorem strides_ok (v : Value) (ls : List Int) (w : World) (h : Ld w v ls) (hm : may ls = true) :
    Calls Try.prog 77 #[v] w fun e w' => e = .returned (.tuple #[.slice (some ⟨w.heap.size, 0, none⟩) ls.length ls.length, .int .i64 0]) ∧ Blk w' w.heap.size 3 (ints (stl ls)).toArray ∧ Below w.heap.size w w' := by
  obtain ⟨i0, hi0, hz0, hz1, hz2⟩ := info_parts infoI
  have CK := Lib.hid (check_ok v ls w h hm)
  obtain ⟨o, c, rfl, _, hx⟩ := h
  have HX := Lib.hid hx
  have hl := may_len hm
  have HE := Lib.hid (stf_end hm)
  clear hx hm
  have mk : (Instr.makeSlice 23 (.int .i64 (ls.length : Int)) (.int .i64 (ls.length : Int))).run Try.prog w = .ok (.slice (some ⟨w.heap.size, 0, none⟩) ls.length ls.length) (w.alloc (.cells (madeCells #[.int .i64 0] ls.length) 3)) := by
    have := run_make (w := w) 23 3 i0 (.int .i64 0) Try.underlying23 hi0 hz0 .i64 .i64 ls.length ls.length (by omega) (by omega) (by rw [hz2]; omega) (by omega)
    rw [this, hz1]; simp [Value.cells]
  rw [made_ints] at mk
  refine (callsIn_wide (n := 9)).1 ?_
  refine callsIn_of_wp_marks Try.func77 rfl trivial ?_
  simp only [Try.ntmps77, List.size_toArray, List.length_cons, List.length_nil, Nat.reduceAdd, Nat.reduceSub, Array.replicate_succ, Array.replicate_zero, List.push_toArray, List.append_toArray, List.nil_append, List.cons_append]
  refine wpIn_wide.2 ?_
  go_wp2_with (first | (go_at_call 62; (with_reducible refine CK.out.mono ?_); rintro e w' ⟨rfl, rfl⟩) | (go_at_call 101; (with_reducible refine (backs_any _ _ _ _).mono ?_); rintro e w3 ⟨rfl, rfl⟩))
  have b1 : Boxed ((((w.alloc (Obj.cells (ints (List.replicate ls.length 0)).toArray 3)).alloc (Obj.cells #[Value.slice (some ⟨w.heap.size, 0, none⟩) ls.length ls.length] 23)).alloc (Obj.cells #[Value.int IntKind.i64 1] 3)).alloc (Obj.cells #[Value.slice o ls.length c] 23)) (w.heap.size + 1) 23 (.slice (some ⟨w.heap.size, 0, none⟩) ls.length ls.length) := by
    have := ((Boxed.new (w.alloc (Obj.cells (ints (List.replicate ls.length 0)).toArray 3)) 23 (Value.slice (some ⟨w.heap.size, 0, none⟩) ls.length ls.length)).alloc (Obj.cells #[Value.int IntKind.i64 1] 3)).alloc (Obj.cells #[Value.slice o ls.length c] 23)
    rwa [World.size_alloc] at this
  have b2 : Boxed ((((w.alloc (Obj.cells (ints (List.replicate ls.length 0)).toArray 3)).alloc (Obj.cells #[Value.slice (some ⟨w.heap.size, 0, none⟩) ls.length ls.length] 23)).alloc (Obj.cells #[Value.int IntKind.i64 1] 3)).alloc (Obj.cells #[Value.slice o ls.length c] 23)) (w.heap.size + 2) 3 (.int .i64 1) := by
    have := (Boxed.new ((w.alloc (Obj.cells (ints (List.replicate ls.length 0)).toArray 3)).alloc (Obj.cells #[Value.slice (some ⟨w.heap.size, 0, none⟩) ls.length ls.length] 23)) 3 (Value.int IntKind.i64 1)).alloc (Obj.cells #[Value.slice o ls.length c] 23)
    rwa [World.size_alloc, World.size_alloc] at this
  have b3 : Boxed ((((w.alloc (Obj.cells (ints (List.replicate ls.length 0)).toArray 3)).alloc (Obj.cells #[Value.slice (some ⟨w.heap.size, 0, none⟩) ls.length ls.length] 23)).alloc (Obj.cells #[Value.int IntKind.i64 1] 3)).alloc (Obj.cells #[Value.slice o ls.length c] 23)) (w.heap.size + 3) 23 (.slice o ls.length c) := by
    have := Boxed.new (((w.alloc (Obj.cells (ints (List.replicate ls.length 0)).toArray 3)).alloc (Obj.cells #[Value.slice (some ⟨w.heap.size, 0, none⟩) ls.length ls.length] 23)).alloc (Obj.cells #[Value.int IntKind.i64 1] 3)) 23 (Value.slice o ls.length c)
    rwa [World.size_alloc, World.size_alloc, World.size_alloc] at this
  have b0 := (((Blk.new w 3 (ints (List.replicate ls.length 0)).toArray).alloc (Obj.cells #[Value.slice (some ⟨w.heap.size, 0, none⟩) ls.length ls.length] 23)).alloc (Obj.cells #[Value.int IntKind.i64 1] 3)).alloc (Obj.cells #[Value.slice o ls.length c] 23)
  have bB : Below w.heap.size w ((((w.alloc (Obj.cells (ints (List.replicate ls.length 0)).toArray 3)).alloc (Obj.cells #[Value.slice (some ⟨w.heap.size, 0, none⟩) ls.length ls.length] 23)).alloc (Obj.cells #[Value.int IntKind.i64 1] 3)).alloc (Obj.cells #[Value.slice o ls.length c] 23)) :=
    ((((Below.refl _ _).alloc (Nat.le_refl _) _).alloc (by simp) _).alloc (by simp; omega) _).alloc (by simp; omega) _
  have bS : w.heap.size + 4 = ((((w.alloc (Obj.cells (ints (List.replicate ls.length 0)).toArray 3)).alloc (Obj.cells #[Value.slice (some ⟨w.heap.size, 0, none⟩) ls.length ls.length] 23)).alloc (Obj.cells #[Value.int IntKind.i64 1] 3)).alloc (Obj.cells #[Value.slice o ls.length c] 23)).heap.size := by simp
  generalize (((w.alloc (Obj.cells (ints (List.replicate ls.length 0)).toArray 3)).alloc (Obj.cells #[Value.slice (some ⟨w.heap.size, 0, none⟩) ls.length ls.length] 23)).alloc (Obj.cells #[Value.int IntKind.i64 1] 3)).alloc (Obj.cells #[Value.slice o ls.length c] 23) = w3 at *
  refine (wpIn_wide (n := 9)).1 ?_
  refine wpIn_rangeFunc_ownG (F := Fence.wide) (n := 9) rfl (by decide) (gf := 122) (lb := #[.pointer (some ⟨w.heap.size + 1 + 1 + 1, 0, none⟩)]) rfl trivial (enters_of Try.func122 (by kernel_rfl) rfl)
    (back_stops Fence.wide 8 trivial rfl (by decide) (w.heap.size + 1 + 1 + 1) w.heap.size o c ls (by omega) w3 (by omega) (by omega) b3.cell (fun i hi => by
      obtain ⟨b, f, e, hb, hc⟩ := HX.out i hi
      exact ⟨b, f, e, hb, (bB.cell (p := ⟨b, f + i, none⟩) hb).trans hc⟩)) KeepB.trans (KeepB.put (by omega) (by omega)) (Below.refl _ _) (fun _ => rfl)
    (fun pre W => Boxed W (w.heap.size + 1) 23 (.slice (some ⟨w.heap.size, 0, none⟩) ls.length ls.length) ∧ Boxed W (w.heap.size + 2) 3 (.int .i64 (stf ls pre).2) ∧ Blk W w.heap.size 3 (ints (stf ls pre).1).toArray ∧ Below w.heap.size w W)
    (fun _ _ _ => False)
    (OwnFrom.and (Own.from (boxed_own _ _ (fun _ => _)) _) (OwnFrom.and (Own.from (boxed_own _ _ (fun pre => .int .i64 (stf ls pre).2)) _) (OwnFrom.and (Own.from (blk_own _ _ (fun pre => (ints (stf ls pre).1).toArray)) _) (ownFrom_below (Nat.le_refl _) (by omega)))))
    (fun _ _ _ _ _ hs _ _ => hs)
    ⟨b1, b2, b0, bB⟩ ?a1 ?assign ?body ?done ?stop
  case assign =>
    intro l x W K hK
    unfold pr
    gi_wp2
    exact hK
  case stop =>
    rintro D c pre W _ _ h _
    exact h.elim
  case body =>
    rintro l pre x W ⟨g1, g2, g3, g4⟩ hlt
    have SN0 := stf_snoc ls pre x
    have hL := stf_len ls pre
    obtain ⟨j, hj⟩ := x
    have ed : ls.getD j 0 = ls[j] := by simp [List.getD, List.getElem?_eq_getElem hj]
    simp only [ed] at SN0
    have SN := Lib.hid SN0
    clear SN0 ed
    have c1 := g1.cell
    have c2 := g2.cell
    have f2 := g2.frozen
    have c3 := g3.cell j
    rw [ints_at (by omega)] at c3
    have f3 := g3.frozen j
    have hBs := g4.size
    generalize hP : stf ls pre = P at *
    have HP := Lib.hid (And.intro hP hL)
    clear hP hL
    generalize P.1.getD j 0 = y at *
    gi_wp2
    have e2 : w.heap.size + 1 + 1 = w.heap.size + 2 := by omega
    have s1 := (boxed_at g1 (p := ⟨w.heap.size, j, none⟩) (by show w.heap.size + 1 ≠ w.heap.size; omega) (.int .i64 P.2)).other (B' := w.heap.size + 1 + 1) (by omega) (.int .i64 (wrap64 (P.2 * ls[j])))
    have s2 := (boxed_at g2 (p := ⟨w.heap.size, j, none⟩) (by show w.heap.size + 2 ≠ w.heap.size; omega) (.int .i64 P.2)).set (.int .i64 (wrap64 (P.2 * ls[j])))
    have s3 := (g3.put j P.2).box (B' := w.heap.size + 1 + 1) (by omega) (.int .i64 (wrap64 (P.2 * ls[j])))
    refine ⟨((KeepsOthers.setCell _ _ _).trans (KeepsOthers.setCell _ _ _)).from _, (KeepB.set (by show w.heap.size ≠ _; omega) (Nat.le_refl _) _).trans (KeepB.set (by show w.heap.size + 1 + 1 ≠ _; omega) (by show w.heap.size ≤ w.heap.size + 1 + 1; omega) _), s1, ?_, ?_, (g4.setCell (Nat.le_refl _) _).setCell (by show w.heap.size ≤ w.heap.size + 1 + 1; omega) _⟩
    · rw [SN.out]; exact s2
    · rw [SN.out]; exact s3
  case done =>
    rintro D ys W hD rfl ⟨g1, g2, g3, g4⟩ hK
    have c1 := g1.cell
    have hfin := g4.trans (belowK_b (w := w) (Nat.le_refl _) W D _ (.deferred none) (by omega) hK rfl rfl)
    have g5 : Blk (W.putObj D (.deferred none)) w.heap.size 3 (ints (stl ls)).toArray := by
      rw [← HE.out]
      exact g3.kept (grownBy_putObj' W D _) (by intro e; cases e; have := g3.lt; omega)
    clear g3
    go_wp2
    refine ⟨by simp, .inl ⟨_, _, rfl, run_takeDeferred hK, ?_⟩⟩
    exact ⟨_, results_tmp2 rfl _ _ _, rfl, g5, hfin⟩
end Go.Proofs.Ytlidkeabadioeaa
namespace Go.Proofs.Ytlidkeabadioeaa
open Go.RowKit

/-- A list and an error. -/
def SomeL (w : World) (r : Int) (ls : List Int) (e : Ending) (w' : World) : Prop := ∃ v, e = .returned (.tuple #[v, .int .i64 r]) ∧ Ld w' v ls ∧ Below w.heap.size w w'



end Go.Proofs.Ytlidkeabadioeaa
namespace Go.Proofs.Ytlidkeabadioeaa
open Go.RowKit


end Go.Proofs.Ytlidkeabadioeaa
