/-
  Shapes as lists of whole numbers: steps of an index, spread shapes, what stands under an index; plain mathematics.
-/
import Derived.Test.YteplhlmdaabpaaaSh
namespace Go.Proofs.Yteplhlmdaabpaaa

theorem ix_put : ∀ (s x : List Int) (k : Nat) (v : Int), s.length = x.length → k < s.length → ix s (x.set k v) = ix s x + (v - x.getD k 0) * prod (s.drop (k + 1))
  | [], _, k, _, _, h => by simp at h
  | d :: r, [], _, _, h, _ => by simp at h
  | d :: r, i :: t, 0, v, _, _ => by simp only [List.set_cons_zero, ix, List.getD_cons_zero, List.drop_succ_cons, List.drop_zero, Int.sub_mul]; omega
  | d :: r, i :: t, k + 1, v, h, hk => by
    have := ix_put r t k v (by simpa using h) (by simpa using hk)
    simp only [List.set_cons_succ, ix, List.getD_cons_succ, List.drop_succ_cons, this]; omega
theorem inx_put {s x : List Int} {k : Nat} {v : Int} (h : inx s x = true) (h0 : 0 ≤ v) (h1 : v < s.getD k 0) : inx s (x.set k v) = true := by
  rw [inx_iff] at h ⊢
  refine ⟨by simpa using h.1, fun j hj => ?_⟩
  have hx : j < x.length := by omega
  by_cases e : k = j
  · subst e
    have : (x.set k v).getD k 0 = v := by simp [List.getD, List.getElem?_set_self hx]
    rw [this]; exact ⟨h0, h1⟩
  · have : (x.set k v).getD j 0 = x.getD j 0 := by simp [List.getD, List.getElem?_set_ne e]
    rw [this]; exact h.2 j hj

/-- What lies in x is left as it was behind place m; the step that is still to be done. -/
def Car (s x : List Int) (n : Int) (m : Nat) : Prop := m ≤ s.length ∧ inx s x = true ∧ ix s x + prod (s.drop m) = n + 1
theorem car_start {s : List Int} {n : Int} (h : pos s) (h0 : 0 ≤ n) (h1 : n < prod s) : Car s (atl s n) n s.length :=
  ⟨Nat.le_refl _, atl_inx s n h h0 h1, by rw [ix_atl s n h h0 h1, List.drop_length]; rfl⟩
theorem car_step {s x : List Int} {n : Int} {m : Nat} (h : Car s x n (m + 1)) (hp : pos s) (e : x.getD m 0 + 1 = s.getD m 0) : Car s (x.set m 0) n m := by
  obtain ⟨a, b, c⟩ := h
  have hl := inx_len b
  refine ⟨by omega, inx_put b (Int.le_refl _) ?_, ?_⟩
  · have := hp _ (getD_mem (show m < s.length by omega)); omega
  · rw [ix_put s x m 0 hl (by omega), prod_drop (show m < s.length by omega), ← e, Int.sub_mul, Int.add_mul]
    omega
theorem car_end {s x : List Int} {n : Int} {m : Nat} (h : Car s x n (m + 1)) (e : ¬ x.getD m 0 + 1 = s.getD m 0) : x.set m (x.getD m 0 + 1) = atl s (n + 1) := by
  obtain ⟨a, b, c⟩ := h
  have hl := inx_len b
  have hb := (inx_iff.1 b).2 m (by omega)
  have hi := inx_put (k := m) b (show 0 ≤ x.getD m 0 + 1 by omega) (by omega)
  have hx : ix s (x.set m (x.getD m 0 + 1)) = n + 1 := by
    rw [ix_put s x m _ hl (by omega), show x.getD m 0 + 1 - x.getD m 0 = 1 by omega, Int.one_mul]; exact c
  rw [← hx, atl_ix s _ hi]
theorem car_no {s x : List Int} {n : Int} (h : Car s x n 0) (h1 : n + 1 < prod s) : False := by
  obtain ⟨_, b, c⟩ := h
  have := ix_bd b
  rw [List.drop_zero] at c
  omega
/-- One step along a dimension. -/
theorem ix_step {s : List Int} {n : Int} {k : Nat} (hp : pos s) (h0 : 0 ≤ n) (h1 : n < prod s) (hk : k < s.length) (h : (atl s n).getD k 0 + 1 < s.getD k 0) :
    inx s ((atl s n).set k ((atl s n).getD k 0 + 1)) = true ∧ ix s ((atl s n).set k ((atl s n).getD k 0 + 1)) = n + prod (s.drop (k + 1)) := by
  have hi := atl_inx s n hp h0 h1
  have hb := (inx_iff.1 hi).2 k hk
  refine ⟨inx_put hi (by omega) h, ?_⟩
  rw [ix_put s _ k _ (inx_len hi) hk, ix_atl s n hp h0 h1, show (atl s n).getD k 0 + 1 - (atl s n).getD k 0 = 1 by omega, Int.one_mul]

/-- The dimension of which, itself counted, there are j to the end; 1: none. -/
def ov (s : List Int) (j : Nat) : Int := if s.length < j then 1 else s.getD (s.length - j) 0
def fa (a b : List Int) (j : Nat) : Bool := decide (ov a j = ov b j) || decide (ov a j = 1) || decide (ov b j = 1)
def fitN (a b : List Int) : Nat → Bool
  | 0 => true
  | n + 1 => fa a b (n + 1) && fitN a b n
def gr (x y : Int) : Int := if y = 1 then x else y
def spl (a b : List Int) : Nat → List Int
  | 0 => []
  | n + 1 => gr (ov a (n + 1)) (ov b (n + 1)) :: spl a b n
def mx (a b : List Int) : Nat := max a.length b.length
def fit (a b : List Int) : Bool := fitN a b (mx a b)
def spr (a b : List Int) : List Int := spl a b (mx a b)
/-- Spread's answers: the error, the shape. -/
def spe (a b : List Int) : Int := if fit a b then (if may (spr a b) then 0 else 5) else 2
def spv (a b : List Int) : List Int := if spe a b = 0 then spr a b else []

theorem spl_len (a b : List Int) : ∀ n, (spl a b n).length = n
  | 0 => rfl
  | n + 1 => by simp [spl, spl_len a b n]
theorem spl_getD (a b : List Int) : ∀ n k, k < n → (spl a b n).getD k 0 = gr (ov a (n - k)) (ov b (n - k))
  | 0, k, h => by omega
  | n + 1, 0, _ => by simp [spl]
  | n + 1, k + 1, h => by
    have := spl_getD a b n k (by omega)
    rw [Nat.add_sub_add_right]
    simpa [spl] using this
theorem fitN_iff (a b : List Int) : ∀ n, fitN a b n = true ↔ ∀ j, 1 ≤ j → j ≤ n → fa a b j = true
  | 0 => by simp [fitN]; intro j h1 h2; omega
  | n + 1 => by
    simp only [fitN, Bool.and_eq_true, fitN_iff a b n]
    constructor
    · rintro ⟨h1, h2⟩ j a1 a2
      by_cases e : j = n + 1
      · subst e; exact h1
      · exact h2 j a1 (by omega)
    · intro h
      exact ⟨h _ (by omega) (by omega), fun j a1 a2 => h j a1 (by omega)⟩
theorem fa_iff (a b : List Int) (j : Nat) : fa a b j = true ↔ ov a j = ov b j ∨ ov a j = 1 ∨ ov b j = 1 := by
  unfold fa; simp [or_assoc]
theorem fa_sym (a b : List Int) (j : Nat) : fa a b j = fa b a j := by
  rw [Bool.eq_iff_iff, fa_iff, fa_iff]; omega
theorem fitN_sym (a b : List Int) : ∀ n, fitN a b n = fitN b a n
  | 0 => rfl
  | n + 1 => by simp only [fitN, fa_sym a b, fitN_sym a b n]
theorem mx_sym (a b : List Int) : mx a b = mx b a := by unfold mx; omega
theorem fit_sym (a b : List Int) : fit a b = fit b a := by unfold fit; rw [mx_sym a b, fitN_sym]
theorem spl_sym (a b : List Int) : ∀ n, fitN a b n = true → spl a b n = spl b a n
  | 0, _ => rfl
  | n + 1, h => by
    simp only [fitN, Bool.and_eq_true] at h
    have h1 := (fa_iff a b _).1 h.1
    simp only [spl, spl_sym a b n h.2]
    congr 1
    unfold gr
    split <;> split <;> omega
theorem spe_sym (a b : List Int) : spe a b = spe b a := by
  unfold spe
  rw [fit_sym a b]
  split
  · rename_i h
    have : fit a b = true := by rw [fit_sym]; exact h
    unfold spr
    rw [mx_sym b a, spl_sym a b _ this]
  · rfl
theorem spe_fit {a b : List Int} (h : spe a b = 0) : fit a b = true ∧ may (spr a b) = true := by
  unfold spe at h
  split at h
  · rename_i h1
    split at h
    · rename_i h2; exact ⟨h1, h2⟩
    · omega
  · omega
theorem spv_sym (a b : List Int) : spv a b = spv b a := by
  unfold spv
  rw [spe_sym b a]
  split
  · rename_i h
    obtain ⟨h1, _⟩ := spe_fit h
    unfold spr
    rw [mx_sym b a, spl_sym a b _ h1]
  · rfl
theorem ext_getD {a b : List Int} (h : a.length = b.length) (hg : ∀ k, k < a.length → a.getD k 0 = b.getD k 0) : a = b := by
  apply List.ext_getElem h
  intro i h1 h2
  have := hg i h1
  simpa [List.getD, List.getElem?_eq_getElem h1, List.getElem?_eq_getElem h2] using this
theorem ov_at {s : List Int} {k : Nat} (h : k < s.length) : ov s (s.length - k) = s.getD k 0 := by
  unfold ov
  rw [if_neg (by omega), show s.length - (s.length - k) = k by omega]
theorem spr_self (s : List Int) : fit s s = true ∧ spr s s = s := by
  refine ⟨(fitN_iff _ _ _).2 fun j _ _ => (fa_iff _ _ _).2 (.inl rfl), ?_⟩
  unfold spr
  have e : mx s s = s.length := by unfold mx; omega
  rw [e]
  refine ext_getD (spl_len _ _ _) fun k hk => ?_
  rw [spl_len] at hk
  rw [spl_getD _ _ _ _ hk, ov_at hk]
  unfold gr; split <;> rfl
theorem spr_one (s : List Int) (h : 0 < s.length) : fit s [1] = true ∧ spr s [1] = s := by
  have o : ∀ j, 1 ≤ j → ov [1] j = 1 := by
    intro j hj
    unfold ov
    split
    · rfl
    · rename_i g
      have : j = 1 := by simp at g; omega
      subst this; rfl
  refine ⟨(fitN_iff _ _ _).2 fun j hj _ => (fa_iff _ _ _).2 (.inr (.inr (o j hj))), ?_⟩
  unfold spr
  have e : mx s [1] = s.length := by unfold mx; simp; omega
  rw [e]
  refine ext_getD (spl_len _ _ _) fun k hk => ?_
  rw [spl_len] at hk
  rw [spl_getD _ _ _ _ hk, ov_at hk, o _ (by omega)]
  rfl
theorem spe_self {s : List Int} (h : may s = true) : spe s s = 0 ∧ spv s s = s := by
  have e : spe s s = 0 := by unfold spe; rw [if_pos (spr_self s).1, (spr_self s).2, if_pos h]
  exact ⟨e, by unfold spv; rw [if_pos e, (spr_self s).2]⟩
theorem spe_one {s : List Int} (h : may s = true) (h0 : 0 < s.length) : spe s [1] = 0 ∧ spv s [1] = s := by
  have e : spe s [1] = 0 := by unfold spe; rw [if_pos (spr_one s h0).1, (spr_one s h0).2, if_pos h]
  exact ⟨e, by unfold spv; rw [if_pos e, (spr_one s h0).2]⟩
theorem spe_nil : spe [] [1] = 0 := by decide
theorem ov_pos {s : List Int} (h : pos s) {j : Nat} (h1 : 1 ≤ j) : 1 ≤ ov s j := by
  unfold ov
  split
  · decide
  · exact h _ (getD_mem (by omega))
theorem ov_dms {s : List Int} (h : dms s) {j : Nat} (h1 : 1 ≤ j) : 1 ≤ ov s j ∧ ov s j ≤ 4096 := by
  unfold ov
  split
  · decide
  · exact h _ (getD_mem (by omega))
theorem spl_dms {a b : List Int} (ha : dms a) (hb : dms b) (n : Nat) : dms (spl a b n) := by
  intro d hd
  obtain ⟨i, hi, rfl⟩ := List.mem_iff_getElem.1 hd
  have hn := spl_len a b n
  have := spl_getD a b n i (by omega)
  have e : (spl a b n).getD i 0 = (spl a b n)[i] := by simp [List.getD, List.getElem?_eq_getElem hi]
  rw [← e, this]
  have a1 := ov_dms ha (j := n - i) (by omega)
  have b1 := ov_dms hb (j := n - i) (by omega)
  unfold gr; split <;> omega

/-- Spread of s and t is t. -/
def goes (s t : List Int) : Bool := decide (spe s t = 0) && decide (spv s t = t)
def gN (s t : List Int) : Nat → Bool
  | 0 => true
  | n + 1 => (decide (ov s (n + 1) = 1) || decide (ov s (n + 1) = ov t (n + 1))) && gN s t n
theorem gN_iff (s t : List Int) : ∀ n, gN s t n = true ↔ ∀ j, 1 ≤ j → j ≤ n → ov s j = 1 ∨ ov s j = ov t j
  | 0 => by simp [gN]; intro j h1 h2; omega
  | n + 1 => by
    simp only [gN, Bool.and_eq_true, Bool.or_eq_true, decide_eq_true_eq, gN_iff s t n]
    constructor
    · rintro ⟨h1, h2⟩ j a1 a2
      by_cases e : j = n + 1
      · subst e; exact h1
      · exact h2 j a1 (by omega)
    · intro h
      exact ⟨h _ (by omega) (by omega), fun j a1 a2 => h j a1 (by omega)⟩
theorem goes_is {s t : List Int} (_hs : may s = true) (ht : may t = true) : goes s t = (decide (s.length ≤ t.length) && gN s t t.length) := by
  rw [Bool.eq_iff_iff]
  unfold goes
  simp only [Bool.and_eq_true, decide_eq_true_eq, gN_iff]
  constructor
  · rintro ⟨h1, h2⟩
    obtain ⟨f, m⟩ := spe_fit h1
    unfold spv at h2
    rw [if_pos h1] at h2
    have hl : mx s t = t.length := by
      have := spl_len s t (mx s t)
      unfold spr at h2
      rw [h2] at this; exact this.symm
    refine ⟨by unfold mx at hl; omega, fun j a1 a2 => ?_⟩
    have hf := (fa_iff s t j).1 ((fitN_iff _ _ _).1 f j a1 (by omega))
    unfold spr at h2
    rw [hl] at h2
    have g := spl_getD s t t.length (t.length - j) (by omega)
    rw [h2, show t.length - (t.length - j) = j by omega] at g
    have o := ov_at (s := t) (k := t.length - j) (by omega)
    rw [show t.length - (t.length - j) = j by omega] at o
    rw [← o] at g
    unfold gr at g
    split at g <;> omega
  · rintro ⟨h1, h2⟩
    have hl : mx s t = t.length := by unfold mx; omega
    have hf : fit s t = true := by
      unfold fit
      rw [hl]
      exact (fitN_iff _ _ _).2 fun j a1 a2 => (fa_iff _ _ _).2 (by have := h2 j a1 a2; omega)
    have e : spr s t = t := by
      unfold spr
      rw [hl]
      refine ext_getD (spl_len _ _ _) fun k hk => ?_
      rw [spl_len] at hk
      rw [spl_getD _ _ _ _ hk]
      have o := ov_at hk
      have := h2 (t.length - k) (by omega) (by omega)
      unfold gr
      split <;> omega
    have h0 : spe s t = 0 := by unfold spe; rw [if_pos hf, e, if_pos ht]
    exact ⟨h0, by unfold spv; rw [if_pos h0, e]⟩

/-- What of an index counts in s. -/
def msk : List Int → List Int → List Int
  | d :: r, i :: t => (if 1 < d then i else 0) :: msk r t
  | _, _ => []
theorem msk_len : ∀ (s i : List Int), s.length = i.length → (msk s i).length = s.length
  | [], _, _ => rfl
  | d :: r, [], h => by simp at h
  | d :: r, i :: t, h => by simp [msk, msk_len r t (by simpa using h)]
theorem msk_getD : ∀ (s i : List Int) (k : Nat), s.length = i.length → k < s.length → (msk s i).getD k 0 = if 1 < s.getD k 0 then i.getD k 0 else 0
  | [], _, k, _, h => by simp at h
  | d :: r, [], _, h, _ => by simp at h
  | d :: r, i :: t, 0, _, _ => by simp [msk]
  | d :: r, i :: t, k + 1, h, hk => by
    have := msk_getD r t k (by simpa using h) (by simpa using hk)
    simpa [msk] using this
theorem msk_inx {s i : List Int} (h : inx s i = true) : msk s i = i := by
  obtain ⟨a, b⟩ := inx_iff.1 h
  refine ext_getD ((msk_len s i a).trans a) fun k hk => ?_
  rw [msk_len s i a] at hk
  rw [msk_getD s i k a hk]
  have := b k hk
  split <;> omega
/-- The last numbers of an index of t, as one of s. -/
def lst (s i : List Int) : List Int := i.drop (i.length - s.length)
theorem lst_len {s i : List Int} (h : s.length ≤ i.length) : s.length = (lst s i).length := by unfold lst; simp; omega
theorem lst_getD {s i : List Int} (_h : s.length ≤ i.length) (k : Nat) : (lst s i).getD k 0 = i.getD (k + i.length - s.length) 0 := by
  unfold lst
  simp only [List.getD, List.getElem?_drop]
  congr 2
  omega
theorem under_inx {s t i : List Int} (hs : may s = true) (ht : may t = true) (hg : goes s t = true) (hi : inx t i = true) : inx s (msk s (lst s i)) = true := by
  rw [goes_is hs ht] at hg
  simp only [Bool.and_eq_true, decide_eq_true_eq, gN_iff] at hg
  obtain ⟨g1, g2⟩ := hg
  obtain ⟨a, b⟩ := inx_iff.1 hi
  have hl := lst_len (s := s) (i := i) (by omega)
  rw [inx_iff]
  refine ⟨(msk_len s _ hl).symm, fun k hk => ?_⟩
  rw [msk_getD s _ k hl hk, lst_getD (by omega)]
  have p := may_dim hs hk
  have o := ov_at hk
  have gg := g2 (s.length - k) (by omega) (by omega)
  have o2 := ov_at (s := t) (k := k + i.length - s.length) (by omega)
  rw [show t.length - (k + i.length - s.length) = s.length - k by omega] at o2
  have := b (k + i.length - s.length) (by omega)
  split <;> omega
/-- The place under an index. -/
def und (s i : List Int) : Int := ix s (msk s (lst s i))
theorem lst_same {s i : List Int} (h : s.length = i.length) : lst s i = i := by unfold lst; rw [h, Nat.sub_self, List.drop_zero]
theorem und_same {s i : List Int} (h : inx s i = true) : und s i = ix s i := by
  unfold und
  rw [lst_same (inx_len h), msk_inx h]

theorem ix_step_at {s i : List Int} {k : Nat} (h : s.length = i.length) (hk : k < s.length) : ix (s.drop k) (i.drop k) = i.getD k 0 * prod (s.drop (k + 1)) + ix (s.drop (k + 1)) (i.drop (k + 1)) := by
  rw [drop_getD hk, drop_getD (show k < i.length by omega)]; rfl
theorem inx_drop : ∀ {s i : List Int} (k : Nat), inx s i = true → inx (s.drop k) (i.drop k) = true
  | s, i, 0, h => by simpa using h
  | [], [], k + 1, _ => rfl
  | d :: r, i :: t, k + 1, h => by
    simp only [inx, Bool.and_eq_true] at h
    simpa using inx_drop k h.2
  | [], _ :: _, _, h => by simp [inx] at h
  | _ :: _, [], _, h => by simp [inx] at h
/-- Horner's way. -/
def Hor (s m : List Int) (V p : Int) (k : Nat) : Prop := k ≤ s.length ∧ 0 ≤ p ∧ p ≤ V ∧ p * prod (s.drop k) + ix (s.drop k) (m.drop k) = V
theorem hor_start {s m : List Int} (h : inx s m = true) : Hor s m (ix s m) 0 0 := ⟨Nat.zero_le _, Int.le_refl _, (ix_bd h).1, by simp⟩
theorem hor_step {s m : List Int} {V p : Int} {k : Nat} (h : Hor s m V p k) (hi : inx s m = true) (hp : pos s) (hk : k < s.length) : Hor s m V (p * s.getD k 0 + m.getD k 0) (k + 1) ∧ 0 ≤ p * s.getD k 0 ∧ p * s.getD k 0 ≤ V := by
  obtain ⟨a, b, c, d⟩ := h
  obtain ⟨l, g⟩ := inx_iff.1 hi
  have gk := g k hk
  have q := prod_pos (pos_drop hp (k + 1))
  have r := ix_bd (inx_drop (k + 1) hi)
  have sk := hp _ (getD_mem hk)
  rw [ix_step_at l hk, prod_drop hk, ← Int.mul_assoc] at d
  have e : p * s.getD k 0 * prod (s.drop (k + 1)) + m.getD k 0 * prod (s.drop (k + 1)) = (p * s.getD k 0 + m.getD k 0) * prod (s.drop (k + 1)) := by rw [Int.add_mul]
  have n0 := Int.mul_nonneg b (show 0 ≤ s.getD k 0 by omega)
  have n1 := Int.mul_le_mul_of_nonneg_left q (show 0 ≤ p * s.getD k 0 + m.getD k 0 by omega)
  exact ⟨⟨by omega, by omega, by omega, by omega⟩, n0, by omega⟩
theorem hor_end {s m : List Int} {V p : Int} (h : Hor s m V p s.length) : p = V := by
  obtain ⟨_, _, _, d⟩ := h
  rw [List.drop_length] at d
  simp [prod, ix] at d
  exact d
/-- The sum, from the first number on. -/
def Sum (s m : List Int) (V p : Int) (k : Nat) : Prop := k ≤ s.length ∧ 0 ≤ p ∧ p + ix (s.drop k) (m.drop k) = V
theorem sum_start {s m : List Int} : Sum s m (ix s m) 0 0 := ⟨Nat.zero_le _, Int.le_refl _, by simp⟩
theorem sum_step {s m : List Int} {V p : Int} {k : Nat} (h : Sum s m V p k) (hi : inx s m = true) (hp : pos s) (hk : k < s.length) : Sum s m V (p + m.getD k 0 * prod (s.drop (k + 1))) (k + 1) ∧ 0 ≤ m.getD k 0 * prod (s.drop (k + 1)) ∧ m.getD k 0 * prod (s.drop (k + 1)) ≤ V ∧ p + m.getD k 0 * prod (s.drop (k + 1)) ≤ V := by
  obtain ⟨a, b, d⟩ := h
  obtain ⟨l, g⟩ := inx_iff.1 hi
  have gk := g k hk
  have q := prod_pos (pos_drop hp (k + 1))
  have r := ix_bd (inx_drop (k + 1) hi)
  rw [ix_step_at l hk] at d
  have n0 := Int.mul_nonneg gk.1 (show 0 ≤ prod (s.drop (k + 1)) by omega)
  exact ⟨⟨by omega, by omega, by omega⟩, n0, by omega, by omega⟩
theorem sum_end {s m : List Int} {V p : Int} (h : Sum s m V p s.length) : p = V := by
  obtain ⟨_, _, d⟩ := h
  rw [List.drop_length] at d
  simp [ix] at d
  exact d
end Go.Proofs.Yteplhlmdaabpaaa
