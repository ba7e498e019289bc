/-
  Shapes as lists of whole numbers: counts, strides, indexes, places; plain mathematics.
  Shapes as lists of whole numbers: steps of an index, spread shapes, what stands under an index; plain mathematics.
  Slices of whole numbers: what they read as; blocks of the call's own.
  A list of pairs of tensors and fraction bits that came in, opened to the cells of its elements.
-/
import Derived.Test.YtlidkeabadioeaaRows
import Derived.WalkKit
import Derived.WalkSpells
import Derived.Lib.Hide
import Derived.LoopTactic
import Derived.Below
import Derived.Laws.OwnMore
import Derived.Deep.AppendLies
import Derived.Deep.Draws
import Derived.Deep.Slices
import Derived.Deep.Fields
import Derived.ProofKit
import Derived.Carry
import Derived.SizedLaws
namespace Go.Proofs.Ytlidkeabadioeaa

def prod : List Int → Int
  | [] => 1
  | d :: r => d * prod r
/-- c times the dimensions, as far as each is one and the product is not too great; else 0. -/
def cnt (c : Int) : List Int → Int
  | [] => c
  | d :: r => if 1 ≤ d ∧ d ≤ 4096 ∧ d * c ≤ 65536 then cnt (c * d) r else 0
def may (ls : List Int) : Bool := decide (ls.length ≤ 4) && decide (cnt 1 ls ≠ 0)
/-- All from 1 to 4096. -/
def dms (ls : List Int) : Prop := ∀ d ∈ ls, 1 ≤ d ∧ d ≤ 4096
def pos (ls : List Int) : Prop := ∀ d ∈ ls, 1 ≤ d

theorem drop_getD {ls : List Int} {i : Nat} (h : i < ls.length) : ls.drop i = ls.getD i 0 :: ls.drop (i + 1) := by
  rw [List.drop_eq_getElem_cons h]; simp [List.getD, List.getElem?_eq_getElem h]
theorem getD_mem {ls : List Int} {i : Nat} (h : i < ls.length) : ls.getD i 0 ∈ ls := by
  simp [List.getD, List.getElem?_eq_getElem h]
theorem dms_pos {ls : List Int} (h : dms ls) : pos ls := fun d hd => (h d hd).1
theorem prod_pos : ∀ {ls : List Int}, pos ls → 1 ≤ prod ls
  | [], _ => Int.le_refl _
  | d :: r, h => by
    have h1 := h d (List.mem_cons_self ..)
    have h2 := prod_pos (ls := r) fun x hx => h x (List.mem_cons_of_mem _ hx)
    have := Int.mul_le_mul h1 h2 (by decide) (by omega)
    simpa [prod] using this
theorem prod_drop_le : ∀ {ls : List Int} (k : Nat), pos ls → prod (ls.drop k) ≤ prod ls
  | [], k, _ => by simp
  | d :: r, 0, _ => Int.le_refl _
  | d :: r, k + 1, h => by
    have h1 := h d (List.mem_cons_self ..)
    have hr : pos r := fun x hx => h x (List.mem_cons_of_mem _ hx)
    have h2 := prod_drop_le (ls := r) k hr
    have h3 := prod_pos hr
    have := Int.mul_le_mul_of_nonneg_right h1 (show 0 ≤ prod r by omega)
    simp only [List.drop_succ_cons, prod]
    omega
theorem pos_drop {ls : List Int} (h : pos ls) (k : Nat) : pos (ls.drop k) := fun x hx => h x (List.mem_of_mem_drop hx)
theorem prod_dvd : ∀ (ls : List Int) (k : Nat), ∃ q, prod ls = prod (ls.drop k) * q
  | [], _ => ⟨1, by simp⟩
  | d :: r, 0 => ⟨1, by simp⟩
  | d :: r, k + 1 => by
    obtain ⟨q, hq⟩ := prod_dvd r k
    refine ⟨d * q, ?_⟩
    rw [List.drop_succ_cons, prod, hq]
    simp only [Int.mul_left_comm]
theorem prod_drop {ls : List Int} {k : Nat} (h : k < ls.length) : prod (ls.drop k) = ls.getD k 0 * prod (ls.drop (k + 1)) := by rw [drop_getD h]; rfl

theorem cnt_cases : ∀ (ls : List Int) (c : Int), 1 ≤ c → c ≤ 65536 → cnt c ls = 0 ∨ (1 ≤ cnt c ls ∧ cnt c ls ≤ 65536 ∧ cnt c ls = c * prod ls ∧ dms ls)
  | [], c, h0, h1 => .inr ⟨h0, h1, by simp [cnt, prod], fun d hd => by cases hd⟩
  | d :: r, c, h0, h1 => by
    unfold cnt
    split
    · rename_i h
      obtain ⟨a, b, g⟩ := h
      have h2 := Int.mul_le_mul h0 a (by decide) (by omega)
      rw [Int.mul_comm] at g
      rcases cnt_cases r (c * d) (by omega) g with k | ⟨k1, k2, k3, k4⟩
      · exact .inl k
      · refine .inr ⟨k1, k2, by rw [k3, prod, Int.mul_assoc], fun x hx => ?_⟩
        rcases List.mem_cons.1 hx with rfl | hx
        · exact ⟨a, b⟩
        · exact k4 x hx
    · exact .inl rfl
theorem cnt_of : ∀ (ls : List Int) (c : Int), 1 ≤ c → dms ls → c * prod ls ≤ 65536 → cnt c ls = c * prod ls
  | [], c, _, _, _ => by simp [cnt, prod]
  | d :: r, c, h0, h, hp => by
    have h1 := h d (List.mem_cons_self ..)
    have hr : dms r := fun x hx => h x (List.mem_cons_of_mem _ hx)
    have h3 := prod_pos (dms_pos hr)
    have e : c * prod (d :: r) = c * d * prod r := by rw [prod, Int.mul_assoc]
    have h2 := Int.mul_le_mul h0 h1.1 (by decide) (by omega)
    have h4 := Int.mul_le_mul_of_nonneg_left h3 (show 0 ≤ c * d by omega)
    rw [e] at hp ⊢
    unfold cnt
    rw [if_pos ⟨h1.1, h1.2, by rw [Int.mul_comm]; omega⟩]
    exact cnt_of r (c * d) (by omega) hr hp
theorem may_iff (ls : List Int) : may ls = true ↔ ls.length ≤ 4 ∧ dms ls ∧ prod ls ≤ 65536 := by
  unfold may
  simp only [Bool.and_eq_true, decide_eq_true_eq]
  constructor
  · rintro ⟨a, b⟩
    rcases cnt_cases ls 1 (by decide) (by decide) with h | ⟨_, h2, h3, h4⟩
    · exact absurd h b
    · exact ⟨a, h4, by omega⟩
  · rintro ⟨a, b, c⟩
    refine ⟨a, ?_⟩
    rw [cnt_of ls 1 (by decide) b (by omega)]
    have := prod_pos (dms_pos b)
    omega
theorem may_cnt {ls : List Int} (h : may ls = true) : cnt 1 ls = prod ls := by
  obtain ⟨_, b, c⟩ := (may_iff ls).1 h
  rw [cnt_of ls 1 (by decide) b (by omega), Int.one_mul]
theorem may_prod {ls : List Int} (h : may ls = true) : 1 ≤ prod ls ∧ prod ls ≤ 65536 := by
  obtain ⟨_, b, c⟩ := (may_iff ls).1 h
  exact ⟨prod_pos (dms_pos b), c⟩
theorem may_len {ls : List Int} (h : may ls = true) : ls.length ≤ 4 := ((may_iff ls).1 h).1
theorem may_dms {ls : List Int} (h : may ls = true) : dms ls := ((may_iff ls).1 h).2.1
theorem may_pos {ls : List Int} (h : may ls = true) : pos ls := dms_pos (may_dms h)
theorem may_no {ls : List Int} (h : may ls = false) : 4 < ls.length ∨ cnt 1 ls = 0 := by
  unfold may at h
  simp only [Bool.and_eq_false_iff, decide_eq_false_iff_not] at h
  rcases h with h | h
  · exact .inl (by omega)
  · exact .inr (by omega)
theorem may_yes {ls : List Int} (a : ls.length ≤ 4) (b : cnt 1 ls ≠ 0) : may ls = true := by
  unfold may; simp [a, b]
theorem may_not {ls : List Int} (b : cnt 1 ls = 0) : may ls = false := by
  unfold may; simp [b]
theorem may_long {ls : List Int} (b : 4 < ls.length) : may ls = false := by
  unfold may
  have : ¬ ls.length ≤ 4 := by omega
  simp [this]
theorem may_dim {ls : List Int} (h : may ls = true) {i : Nat} (hi : i < ls.length) : 1 ≤ ls.getD i 0 ∧ ls.getD i 0 ≤ 4096 := may_dms h _ (getD_mem hi)
theorem may_drop {ls : List Int} (h : may ls = true) (k : Nat) : 1 ≤ prod (ls.drop k) ∧ prod (ls.drop k) ≤ 65536 :=
  ⟨prod_pos (pos_drop (may_pos h) k), Int.le_trans (prod_drop_le k (may_pos h)) (may_prod h).2⟩

/-- One step of a count. -/
theorem cnt_step {ls : List Int} {i : Nat} (h : i < ls.length) (c : Int) : cnt c (ls.drop i) = if 1 ≤ ls.getD i 0 ∧ ls.getD i 0 ≤ 4096 ∧ ls.getD i 0 * c ≤ 65536 then cnt (c * ls.getD i 0) (ls.drop (i + 1)) else 0 := by
  rw [drop_getD h]; rfl
theorem quo_lt {c d : Int} (hc : 1 ≤ c) : (65536 / c < d) ↔ ¬ d * c ≤ 65536 := by
  rw [Int.ediv_lt_iff_lt_mul (by omega)]; omega

/-- Strides. -/
def stl : List Int → List Int
  | [] => []
  | _ :: r => prod r :: stl r
theorem stl_len : ∀ ls : List Int, (stl ls).length = ls.length
  | [] => rfl
  | _ :: r => by simp [stl, stl_len r]
theorem stl_getD : ∀ (ls : List Int) (k : Nat), k < ls.length → (stl ls).getD k 0 = prod (ls.drop (k + 1))
  | [], k, h => by simp at h
  | _ :: r, 0, _ => by simp [stl]
  | _ :: r, k + 1, h => by
    have := stl_getD r k (by simpa using h)
    simpa [stl] using this

/-- The sum of an index times the strides. -/
def ix : List Int → List Int → Int
  | _ :: r, i :: t => i * prod r + ix r t
  | _, _ => 0
/-- An index of a shape. -/
def inx : List Int → List Int → Bool
  | [], [] => true
  | d :: r, i :: t => decide (0 ≤ i) && decide (i < d) && inx r t
  | _, _ => false
theorem inx_len : ∀ {s i : List Int}, inx s i = true → s.length = i.length
  | [], [], _ => rfl
  | d :: r, i :: t, h => by
    simp only [inx, Bool.and_eq_true] at h
    simp [inx_len h.2]
  | [], _ :: _, h => by simp [inx] at h
  | _ :: _, [], h => by simp [inx] at h
theorem inx_iff : ∀ {s i : List Int}, inx s i = true ↔ s.length = i.length ∧ ∀ k, k < s.length → 0 ≤ i.getD k 0 ∧ i.getD k 0 < s.getD k 0
  | [], [] => by simp [inx]
  | d :: r, i :: t => by
    simp only [inx, Bool.and_eq_true, decide_eq_true_eq, inx_iff (s := r) (i := t), List.length_cons]
    constructor
    · rintro ⟨⟨a, b⟩, c, e⟩
      refine ⟨by omega, fun k hk => ?_⟩
      cases k with
      | zero => exact ⟨a, b⟩
      | succ k => simpa using e k (by omega)
    · rintro ⟨a, b⟩
      refine ⟨by simpa using b 0 (by omega), by omega, fun k hk => ?_⟩
      simpa using b (k + 1) (by omega)
  | [], _ :: _ => by simp [inx]
  | _ :: _, [] => by simp [inx]
theorem ix_bd : ∀ {s i : List Int}, inx s i = true → 0 ≤ ix s i ∧ ix s i < prod s
  | [], [], _ => by simp [ix, prod]
  | d :: r, i :: t, h => by
    simp only [inx, Bool.and_eq_true, decide_eq_true_eq] at h
    obtain ⟨⟨a, b⟩, c⟩ := h
    have ih := ix_bd c
    have h1 := Int.mul_le_mul_of_nonneg_right (show i + 1 ≤ d by omega) (show 0 ≤ prod r by omega)
    have h2 := Int.mul_nonneg a (show 0 ≤ prod r by omega)
    rw [Int.add_mul, Int.one_mul] at h1
    simp only [ix, prod]
    omega
  | [], _ :: _, h => by simp [inx] at h
  | _ :: _, [], h => by simp [inx] at h

/-- The index of a place. -/
def atl : List Int → Int → List Int
  | [], _ => []
  | _ :: r, n => n / prod r :: atl r (n % prod r)
theorem atl_len : ∀ (s : List Int) (n : Int), (atl s n).length = s.length
  | [], _ => rfl
  | _ :: r, n => by simp [atl, atl_len r]
theorem atl_inx : ∀ (s : List Int) (n : Int), pos s → 0 ≤ n → n < prod s → inx s (atl s n) = true
  | [], _, _, _, _ => rfl
  | d :: r, n, h, h0, h1 => by
    have hr : pos r := fun x hx => h x (List.mem_cons_of_mem _ hx)
    have hp := prod_pos hr
    simp only [atl, inx, Bool.and_eq_true, decide_eq_true_eq]
    refine ⟨⟨Int.ediv_nonneg h0 (by omega), ?_⟩, atl_inx r _ hr (Int.emod_nonneg _ (by omega)) (Int.emod_lt_of_pos _ (by omega))⟩
    rw [Int.ediv_lt_iff_lt_mul (by omega)]
    exact h1
theorem ix_atl : ∀ (s : List Int) (n : Int), pos s → 0 ≤ n → n < prod s → ix s (atl s n) = n
  | [], n, _, h0, h1 => by simp [prod] at h1; simp [ix]; omega
  | d :: r, n, h, h0, h1 => by
    have hr : pos r := fun x hx => h x (List.mem_cons_of_mem _ hx)
    have hp := prod_pos hr
    simp only [atl, ix]
    rw [ix_atl r _ hr (Int.emod_nonneg _ (by omega)) (Int.emod_lt_of_pos _ (by omega)), Int.mul_comm]
    exact Int.mul_ediv_add_emod n (prod r)
theorem atl_ix : ∀ (s i : List Int), inx s i = true → atl s (ix s i) = i
  | [], [], _ => rfl
  | d :: r, i :: t, h => by
    simp only [inx, Bool.and_eq_true, decide_eq_true_eq] at h
    obtain ⟨⟨a, b⟩, c⟩ := h
    have ih := ix_bd c
    have e1 : (i * prod r + ix r t) / prod r = i := by
      rw [Int.mul_comm, Int.mul_add_ediv_left _ _ (by omega), Int.ediv_eq_zero_of_lt ih.1 ih.2, Int.add_zero]
    have e2 : (i * prod r + ix r t) % prod r = ix r t := by
      rw [Int.mul_comm, Int.mul_add_emod_self_left, Int.emod_eq_of_lt ih.1 ih.2]
    simp only [atl, ix, e1, e2, atl_ix r t c]
  | [], _ :: _, h => by simp [inx] at h
  | _ :: _, [], h => by simp [inx] at h
/-- The program's way: from the last dimension on. -/
theorem atl_getD : ∀ (s : List Int) (n : Int) (k : Nat), pos s → 0 ≤ n → n < prod s → k < s.length → (atl s n).getD k 0 = n / prod (s.drop (k + 1)) % s.getD k 0
  | [], _, k, _, _, _, h => by simp at h
  | d :: r, n, 0, h, h0, h1, _ => by
    have hr : pos r := fun x hx => h x (List.mem_cons_of_mem _ hx)
    have hp := prod_pos hr
    have hd := h d (List.mem_cons_self ..)
    simp only [atl, List.getD_cons_zero, List.drop_succ_cons, List.drop_zero]
    refine (Int.emod_eq_of_lt (Int.ediv_nonneg h0 (by omega)) ?_).symm
    rw [Int.ediv_lt_iff_lt_mul (by omega)]
    exact h1
  | d :: r, n, k + 1, h, h0, h1, hk => by
    have hr : pos r := fun x hx => h x (List.mem_cons_of_mem _ hx)
    have hp := prod_pos hr
    have hk' : k < r.length := by simpa using hk
    have ih := atl_getD r (n % prod r) k hr (Int.emod_nonneg _ (by omega)) (Int.emod_lt_of_pos _ (by omega)) hk'
    simp only [atl, List.getD_cons_succ, List.drop_succ_cons]
    rw [ih]
    have hd := prod_pos (pos_drop hr (k + 1))
    have hg := hr _ (getD_mem hk')
    obtain ⟨q, hq⟩ := prod_dvd r k
    rw [prod_drop hk', Int.mul_comm (r.getD k 0)] at hq
    generalize prod (r.drop (k + 1)) = P at *
    generalize r.getD k 0 = g at *
    rw [hq]
    have e1 : n % (P * g * q) / P = n / P % (g * q) := by
      rw [Int.mul_assoc]
      have a := Int.emod_def n (P * (g * q))
      rw [a, Int.mul_assoc, ← Int.ediv_ediv_of_nonneg (by omega)]
      rw [Int.emod_def, show n - P * (g * q * (n / P / (g * q))) = n + P * (-(g * q * (n / P / (g * q)))) by rw [Int.mul_neg]; omega, Int.add_mul_ediv_left _ _ (by omega)]
      omega
    rw [e1]
    exact Int.emod_emod_of_dvd _ ⟨q, rfl⟩
end Go.Proofs.Ytlidkeabadioeaa
namespace Go.Proofs.Ytlidkeabadioeaa

theorem ix_put : ∀ (s x : List Int) (k : Nat) (v : Int), s.length = x.length → k < s.length → ix s (x.set k v) = ix s x + (v - x.getD k 0) * prod (s.drop (k + 1))
  | [], _, k, _, _, h => by simp at h
  | d :: r, [], _, _, h, _ => by simp at h
  | d :: r, i :: t, 0, v, _, _ => by simp only [List.set_cons_zero, ix, List.getD_cons_zero, List.drop_succ_cons, List.drop_zero, Int.sub_mul]; omega
  | d :: r, i :: t, k + 1, v, h, hk => by
    have := ix_put r t k v (by simpa using h) (by simpa using hk)
    simp only [List.set_cons_succ, ix, List.getD_cons_succ, List.drop_succ_cons, this]; omega
theorem inx_put {s x : List Int} {k : Nat} {v : Int} (h : inx s x = true) (h0 : 0 ≤ v) (h1 : v < s.getD k 0) : inx s (x.set k v) = true := by
  rw [inx_iff] at h ⊢
  refine ⟨by simpa using h.1, fun j hj => ?_⟩
  have hx : j < x.length := by omega
  by_cases e : k = j
  · subst e
    have : (x.set k v).getD k 0 = v := by simp [List.getD, List.getElem?_set_self hx]
    rw [this]; exact ⟨h0, h1⟩
  · have : (x.set k v).getD j 0 = x.getD j 0 := by simp [List.getD, List.getElem?_set_ne e]
    rw [this]; exact h.2 j hj

/-- What lies in x is left as it was behind place m; the step that is still to be done. -/
def Car (s x : List Int) (n : Int) (m : Nat) : Prop := m ≤ s.length ∧ inx s x = true ∧ ix s x + prod (s.drop m) = n + 1
theorem car_start {s : List Int} {n : Int} (h : pos s) (h0 : 0 ≤ n) (h1 : n < prod s) : Car s (atl s n) n s.length :=
  ⟨Nat.le_refl _, atl_inx s n h h0 h1, by rw [ix_atl s n h h0 h1, List.drop_length]; rfl⟩
theorem car_step {s x : List Int} {n : Int} {m : Nat} (h : Car s x n (m + 1)) (hp : pos s) (e : x.getD m 0 + 1 = s.getD m 0) : Car s (x.set m 0) n m := by
  obtain ⟨a, b, c⟩ := h
  have hl := inx_len b
  refine ⟨by omega, inx_put b (Int.le_refl _) ?_, ?_⟩
  · have := hp _ (getD_mem (show m < s.length by omega)); omega
  · rw [ix_put s x m 0 hl (by omega), prod_drop (show m < s.length by omega), ← e, Int.sub_mul, Int.add_mul]
    omega
theorem car_end {s x : List Int} {n : Int} {m : Nat} (h : Car s x n (m + 1)) (e : ¬ x.getD m 0 + 1 = s.getD m 0) : x.set m (x.getD m 0 + 1) = atl s (n + 1) := by
  obtain ⟨a, b, c⟩ := h
  have hl := inx_len b
  have hb := (inx_iff.1 b).2 m (by omega)
  have hi := inx_put (k := m) b (show 0 ≤ x.getD m 0 + 1 by omega) (by omega)
  have hx : ix s (x.set m (x.getD m 0 + 1)) = n + 1 := by
    rw [ix_put s x m _ hl (by omega), show x.getD m 0 + 1 - x.getD m 0 = 1 by omega, Int.one_mul]; exact c
  rw [← hx, atl_ix s _ hi]
theorem car_no {s x : List Int} {n : Int} (h : Car s x n 0) (h1 : n + 1 < prod s) : False := by
  obtain ⟨_, b, c⟩ := h
  have := ix_bd b
  rw [List.drop_zero] at c
  omega
/-- One step along a dimension. -/
theorem ix_step {s : List Int} {n : Int} {k : Nat} (hp : pos s) (h0 : 0 ≤ n) (h1 : n < prod s) (hk : k < s.length) (h : (atl s n).getD k 0 + 1 < s.getD k 0) :
    inx s ((atl s n).set k ((atl s n).getD k 0 + 1)) = true ∧ ix s ((atl s n).set k ((atl s n).getD k 0 + 1)) = n + prod (s.drop (k + 1)) := by
  have hi := atl_inx s n hp h0 h1
  have hb := (inx_iff.1 hi).2 k hk
  refine ⟨inx_put hi (by omega) h, ?_⟩
  rw [ix_put s _ k _ (inx_len hi) hk, ix_atl s n hp h0 h1, show (atl s n).getD k 0 + 1 - (atl s n).getD k 0 = 1 by omega, Int.one_mul]

/-- The dimension of which, itself counted, there are j to the end; 1: none. -/
def ov (s : List Int) (j : Nat) : Int := if s.length < j then 1 else s.getD (s.length - j) 0
def fa (a b : List Int) (j : Nat) : Bool := decide (ov a j = ov b j) || decide (ov a j = 1) || decide (ov b j = 1)
def fitN (a b : List Int) : Nat → Bool
  | 0 => true
  | n + 1 => fa a b (n + 1) && fitN a b n
def gr (x y : Int) : Int := if y = 1 then x else y
def spl (a b : List Int) : Nat → List Int
  | 0 => []
  | n + 1 => gr (ov a (n + 1)) (ov b (n + 1)) :: spl a b n
def mx (a b : List Int) : Nat := max a.length b.length
def fit (a b : List Int) : Bool := fitN a b (mx a b)
def spr (a b : List Int) : List Int := spl a b (mx a b)
/-- Spread's answers: the error, the shape. -/
def spe (a b : List Int) : Int := if fit a b then (if may (spr a b) then 0 else 5) else 2
def spv (a b : List Int) : List Int := if spe a b = 0 then spr a b else []

theorem spl_len (a b : List Int) : ∀ n, (spl a b n).length = n
  | 0 => rfl
  | n + 1 => by simp [spl, spl_len a b n]
theorem spl_getD (a b : List Int) : ∀ n k, k < n → (spl a b n).getD k 0 = gr (ov a (n - k)) (ov b (n - k))
  | 0, k, h => by omega
  | n + 1, 0, _ => by simp [spl]
  | n + 1, k + 1, h => by
    have := spl_getD a b n k (by omega)
    rw [Nat.add_sub_add_right]
    simpa [spl] using this
theorem fitN_iff (a b : List Int) : ∀ n, fitN a b n = true ↔ ∀ j, 1 ≤ j → j ≤ n → fa a b j = true
  | 0 => by simp [fitN]; intro j h1 h2; omega
  | n + 1 => by
    simp only [fitN, Bool.and_eq_true, fitN_iff a b n]
    constructor
    · rintro ⟨h1, h2⟩ j a1 a2
      by_cases e : j = n + 1
      · subst e; exact h1
      · exact h2 j a1 (by omega)
    · intro h
      exact ⟨h _ (by omega) (by omega), fun j a1 a2 => h j a1 (by omega)⟩
theorem fa_iff (a b : List Int) (j : Nat) : fa a b j = true ↔ ov a j = ov b j ∨ ov a j = 1 ∨ ov b j = 1 := by
  unfold fa; simp [or_assoc]
theorem fa_sym (a b : List Int) (j : Nat) : fa a b j = fa b a j := by
  rw [Bool.eq_iff_iff, fa_iff, fa_iff]; omega
theorem fitN_sym (a b : List Int) : ∀ n, fitN a b n = fitN b a n
  | 0 => rfl
  | n + 1 => by simp only [fitN, fa_sym a b, fitN_sym a b n]
theorem mx_sym (a b : List Int) : mx a b = mx b a := by unfold mx; omega
theorem fit_sym (a b : List Int) : fit a b = fit b a := by unfold fit; rw [mx_sym a b, fitN_sym]
theorem spl_sym (a b : List Int) : ∀ n, fitN a b n = true → spl a b n = spl b a n
  | 0, _ => rfl
  | n + 1, h => by
    simp only [fitN, Bool.and_eq_true] at h
    have h1 := (fa_iff a b _).1 h.1
    simp only [spl, spl_sym a b n h.2]
    congr 1
    unfold gr
    split <;> split <;> omega
theorem spe_sym (a b : List Int) : spe a b = spe b a := by
  unfold spe
  rw [fit_sym a b]
  split
  · rename_i h
    have : fit a b = true := by rw [fit_sym]; exact h
    unfold spr
    rw [mx_sym b a, spl_sym a b _ this]
  · rfl
theorem spe_fit {a b : List Int} (h : spe a b = 0) : fit a b = true ∧ may (spr a b) = true := by
  unfold spe at h
  split at h
  · rename_i h1
    split at h
    · rename_i h2; exact ⟨h1, h2⟩
    · omega
  · omega
theorem spv_sym (a b : List Int) : spv a b = spv b a := by
  unfold spv
  rw [spe_sym b a]
  split
  · rename_i h
    obtain ⟨h1, _⟩ := spe_fit h
    unfold spr
    rw [mx_sym b a, spl_sym a b _ h1]
  · rfl
theorem ext_getD {a b : List Int} (h : a.length = b.length) (hg : ∀ k, k < a.length → a.getD k 0 = b.getD k 0) : a = b := by
  apply List.ext_getElem h
  intro i h1 h2
  have := hg i h1
  simpa [List.getD, List.getElem?_eq_getElem h1, List.getElem?_eq_getElem h2] using this
theorem ov_at {s : List Int} {k : Nat} (h : k < s.length) : ov s (s.length - k) = s.getD k 0 := by
  unfold ov
  rw [if_neg (by omega), show s.length - (s.length - k) = k by omega]
theorem spr_self (s : List Int) : fit s s = true ∧ spr s s = s := by
  refine ⟨(fitN_iff _ _ _).2 fun j _ _ => (fa_iff _ _ _).2 (.inl rfl), ?_⟩
  unfold spr
  have e : mx s s = s.length := by unfold mx; omega
  rw [e]
  refine ext_getD (spl_len _ _ _) fun k hk => ?_
  rw [spl_len] at hk
  rw [spl_getD _ _ _ _ hk, ov_at hk]
  unfold gr; split <;> rfl
theorem spr_one (s : List Int) (h : 0 < s.length) : fit s [1] = true ∧ spr s [1] = s := by
  have o : ∀ j, 1 ≤ j → ov [1] j = 1 := by
    intro j hj
    unfold ov
    split
    · rfl
    · rename_i g
      have : j = 1 := by simp at g; omega
      subst this; rfl
  refine ⟨(fitN_iff _ _ _).2 fun j hj _ => (fa_iff _ _ _).2 (.inr (.inr (o j hj))), ?_⟩
  unfold spr
  have e : mx s [1] = s.length := by unfold mx; simp; omega
  rw [e]
  refine ext_getD (spl_len _ _ _) fun k hk => ?_
  rw [spl_len] at hk
  rw [spl_getD _ _ _ _ hk, ov_at hk, o _ (by omega)]
  rfl
theorem spe_self {s : List Int} (h : may s = true) : spe s s = 0 ∧ spv s s = s := by
  have e : spe s s = 0 := by unfold spe; rw [if_pos (spr_self s).1, (spr_self s).2, if_pos h]
  exact ⟨e, by unfold spv; rw [if_pos e, (spr_self s).2]⟩
theorem spe_one {s : List Int} (h : may s = true) (h0 : 0 < s.length) : spe s [1] = 0 ∧ spv s [1] = s := by
  have e : spe s [1] = 0 := by unfold spe; rw [if_pos (spr_one s h0).1, (spr_one s h0).2, if_pos h]
  exact ⟨e, by unfold spv; rw [if_pos e, (spr_one s h0).2]⟩
theorem spe_nil : spe [] [1] = 0 := by decide
theorem ov_pos {s : List Int} (h : pos s) {j : Nat} (h1 : 1 ≤ j) : 1 ≤ ov s j := by
  unfold ov
  split
  · decide
  · exact h _ (getD_mem (by omega))
theorem ov_dms {s : List Int} (h : dms s) {j : Nat} (h1 : 1 ≤ j) : 1 ≤ ov s j ∧ ov s j ≤ 4096 := by
  unfold ov
  split
  · decide
  · exact h _ (getD_mem (by omega))
theorem spl_dms {a b : List Int} (ha : dms a) (hb : dms b) (n : Nat) : dms (spl a b n) := by
  intro d hd
  obtain ⟨i, hi, rfl⟩ := List.mem_iff_getElem.1 hd
  have hn := spl_len a b n
  have := spl_getD a b n i (by omega)
  have e : (spl a b n).getD i 0 = (spl a b n)[i] := by simp [List.getD, List.getElem?_eq_getElem hi]
  rw [← e, this]
  have a1 := ov_dms ha (j := n - i) (by omega)
  have b1 := ov_dms hb (j := n - i) (by omega)
  unfold gr; split <;> omega

/-- Spread of s and t is t. -/
def goes (s t : List Int) : Bool := decide (spe s t = 0) && decide (spv s t = t)
def gN (s t : List Int) : Nat → Bool
  | 0 => true
  | n + 1 => (decide (ov s (n + 1) = 1) || decide (ov s (n + 1) = ov t (n + 1))) && gN s t n
theorem gN_iff (s t : List Int) : ∀ n, gN s t n = true ↔ ∀ j, 1 ≤ j → j ≤ n → ov s j = 1 ∨ ov s j = ov t j
  | 0 => by simp [gN]; intro j h1 h2; omega
  | n + 1 => by
    simp only [gN, Bool.and_eq_true, Bool.or_eq_true, decide_eq_true_eq, gN_iff s t n]
    constructor
    · rintro ⟨h1, h2⟩ j a1 a2
      by_cases e : j = n + 1
      · subst e; exact h1
      · exact h2 j a1 (by omega)
    · intro h
      exact ⟨h _ (by omega) (by omega), fun j a1 a2 => h j a1 (by omega)⟩
theorem goes_is {s t : List Int} (_hs : may s = true) (ht : may t = true) : goes s t = (decide (s.length ≤ t.length) && gN s t t.length) := by
  rw [Bool.eq_iff_iff]
  unfold goes
  simp only [Bool.and_eq_true, decide_eq_true_eq, gN_iff]
  constructor
  · rintro ⟨h1, h2⟩
    obtain ⟨f, m⟩ := spe_fit h1
    unfold spv at h2
    rw [if_pos h1] at h2
    have hl : mx s t = t.length := by
      have := spl_len s t (mx s t)
      unfold spr at h2
      rw [h2] at this; exact this.symm
    refine ⟨by unfold mx at hl; omega, fun j a1 a2 => ?_⟩
    have hf := (fa_iff s t j).1 ((fitN_iff _ _ _).1 f j a1 (by omega))
    unfold spr at h2
    rw [hl] at h2
    have g := spl_getD s t t.length (t.length - j) (by omega)
    rw [h2, show t.length - (t.length - j) = j by omega] at g
    have o := ov_at (s := t) (k := t.length - j) (by omega)
    rw [show t.length - (t.length - j) = j by omega] at o
    rw [← o] at g
    unfold gr at g
    split at g <;> omega
  · rintro ⟨h1, h2⟩
    have hl : mx s t = t.length := by unfold mx; omega
    have hf : fit s t = true := by
      unfold fit
      rw [hl]
      exact (fitN_iff _ _ _).2 fun j a1 a2 => (fa_iff _ _ _).2 (by have := h2 j a1 a2; omega)
    have e : spr s t = t := by
      unfold spr
      rw [hl]
      refine ext_getD (spl_len _ _ _) fun k hk => ?_
      rw [spl_len] at hk
      rw [spl_getD _ _ _ _ hk]
      have o := ov_at hk
      have := h2 (t.length - k) (by omega) (by omega)
      unfold gr
      split <;> omega
    have h0 : spe s t = 0 := by unfold spe; rw [if_pos hf, e, if_pos ht]
    exact ⟨h0, by unfold spv; rw [if_pos h0, e]⟩

/-- What of an index counts in s. -/
def msk : List Int → List Int → List Int
  | d :: r, i :: t => (if 1 < d then i else 0) :: msk r t
  | _, _ => []
theorem msk_len : ∀ (s i : List Int), s.length = i.length → (msk s i).length = s.length
  | [], _, _ => rfl
  | d :: r, [], h => by simp at h
  | d :: r, i :: t, h => by simp [msk, msk_len r t (by simpa using h)]
theorem msk_getD : ∀ (s i : List Int) (k : Nat), s.length = i.length → k < s.length → (msk s i).getD k 0 = if 1 < s.getD k 0 then i.getD k 0 else 0
  | [], _, k, _, h => by simp at h
  | d :: r, [], _, h, _ => by simp at h
  | d :: r, i :: t, 0, _, _ => by simp [msk]
  | d :: r, i :: t, k + 1, h, hk => by
    have := msk_getD r t k (by simpa using h) (by simpa using hk)
    simpa [msk] using this
theorem msk_inx {s i : List Int} (h : inx s i = true) : msk s i = i := by
  obtain ⟨a, b⟩ := inx_iff.1 h
  refine ext_getD ((msk_len s i a).trans a) fun k hk => ?_
  rw [msk_len s i a] at hk
  rw [msk_getD s i k a hk]
  have := b k hk
  split <;> omega
/-- The last numbers of an index of t, as one of s. -/
def lst (s i : List Int) : List Int := i.drop (i.length - s.length)
theorem lst_len {s i : List Int} (h : s.length ≤ i.length) : s.length = (lst s i).length := by unfold lst; simp; omega
theorem lst_getD {s i : List Int} (_h : s.length ≤ i.length) (k : Nat) : (lst s i).getD k 0 = i.getD (k + i.length - s.length) 0 := by
  unfold lst
  simp only [List.getD, List.getElem?_drop]
  congr 2
  omega
theorem under_inx {s t i : List Int} (hs : may s = true) (ht : may t = true) (hg : goes s t = true) (hi : inx t i = true) : inx s (msk s (lst s i)) = true := by
  rw [goes_is hs ht] at hg
  simp only [Bool.and_eq_true, decide_eq_true_eq, gN_iff] at hg
  obtain ⟨g1, g2⟩ := hg
  obtain ⟨a, b⟩ := inx_iff.1 hi
  have hl := lst_len (s := s) (i := i) (by omega)
  rw [inx_iff]
  refine ⟨(msk_len s _ hl).symm, fun k hk => ?_⟩
  rw [msk_getD s _ k hl hk, lst_getD (by omega)]
  have p := may_dim hs hk
  have o := ov_at hk
  have gg := g2 (s.length - k) (by omega) (by omega)
  have o2 := ov_at (s := t) (k := k + i.length - s.length) (by omega)
  rw [show t.length - (k + i.length - s.length) = s.length - k by omega] at o2
  have := b (k + i.length - s.length) (by omega)
  split <;> omega
/-- The place under an index. -/
def und (s i : List Int) : Int := ix s (msk s (lst s i))
theorem lst_same {s i : List Int} (h : s.length = i.length) : lst s i = i := by unfold lst; rw [h, Nat.sub_self, List.drop_zero]
theorem und_same {s i : List Int} (h : inx s i = true) : und s i = ix s i := by
  unfold und
  rw [lst_same (inx_len h), msk_inx h]

theorem ix_step_at {s i : List Int} {k : Nat} (h : s.length = i.length) (hk : k < s.length) : ix (s.drop k) (i.drop k) = i.getD k 0 * prod (s.drop (k + 1)) + ix (s.drop (k + 1)) (i.drop (k + 1)) := by
  rw [drop_getD hk, drop_getD (show k < i.length by omega)]; rfl
theorem inx_drop : ∀ {s i : List Int} (k : Nat), inx s i = true → inx (s.drop k) (i.drop k) = true
  | s, i, 0, h => by simpa using h
  | [], [], k + 1, _ => rfl
  | d :: r, i :: t, k + 1, h => by
    simp only [inx, Bool.and_eq_true] at h
    simpa using inx_drop k h.2
  | [], _ :: _, _, h => by simp [inx] at h
  | _ :: _, [], _, h => by simp [inx] at h
/-- Horner's way. -/
def Hor (s m : List Int) (V p : Int) (k : Nat) : Prop := k ≤ s.length ∧ 0 ≤ p ∧ p ≤ V ∧ p * prod (s.drop k) + ix (s.drop k) (m.drop k) = V
theorem hor_start {s m : List Int} (h : inx s m = true) : Hor s m (ix s m) 0 0 := ⟨Nat.zero_le _, Int.le_refl _, (ix_bd h).1, by simp⟩
theorem hor_step {s m : List Int} {V p : Int} {k : Nat} (h : Hor s m V p k) (hi : inx s m = true) (hp : pos s) (hk : k < s.length) : Hor s m V (p * s.getD k 0 + m.getD k 0) (k + 1) ∧ 0 ≤ p * s.getD k 0 ∧ p * s.getD k 0 ≤ V := by
  obtain ⟨a, b, c, d⟩ := h
  obtain ⟨l, g⟩ := inx_iff.1 hi
  have gk := g k hk
  have q := prod_pos (pos_drop hp (k + 1))
  have r := ix_bd (inx_drop (k + 1) hi)
  have sk := hp _ (getD_mem hk)
  rw [ix_step_at l hk, prod_drop hk, ← Int.mul_assoc] at d
  have e : p * s.getD k 0 * prod (s.drop (k + 1)) + m.getD k 0 * prod (s.drop (k + 1)) = (p * s.getD k 0 + m.getD k 0) * prod (s.drop (k + 1)) := by rw [Int.add_mul]
  have n0 := Int.mul_nonneg b (show 0 ≤ s.getD k 0 by omega)
  have n1 := Int.mul_le_mul_of_nonneg_left q (show 0 ≤ p * s.getD k 0 + m.getD k 0 by omega)
  exact ⟨⟨by omega, by omega, by omega, by omega⟩, n0, by omega⟩
theorem hor_end {s m : List Int} {V p : Int} (h : Hor s m V p s.length) : p = V := by
  obtain ⟨_, _, _, d⟩ := h
  rw [List.drop_length] at d
  simp [prod, ix] at d
  exact d
/-- The sum, from the first number on. -/
def Sum (s m : List Int) (V p : Int) (k : Nat) : Prop := k ≤ s.length ∧ 0 ≤ p ∧ p + ix (s.drop k) (m.drop k) = V
theorem sum_start {s m : List Int} : Sum s m (ix s m) 0 0 := ⟨Nat.zero_le _, Int.le_refl _, by simp⟩
theorem sum_step {s m : List Int} {V p : Int} {k : Nat} (h : Sum s m V p k) (hi : inx s m = true) (hp : pos s) (hk : k < s.length) : Sum s m V (p + m.getD k 0 * prod (s.drop (k + 1))) (k + 1) ∧ 0 ≤ m.getD k 0 * prod (s.drop (k + 1)) ∧ m.getD k 0 * prod (s.drop (k + 1)) ≤ V ∧ p + m.getD k 0 * prod (s.drop (k + 1)) ≤ V := by
  obtain ⟨a, b, d⟩ := h
  obtain ⟨l, g⟩ := inx_iff.1 hi
  have gk := g k hk
  have q := prod_pos (pos_drop hp (k + 1))
  have r := ix_bd (inx_drop (k + 1) hi)
  rw [ix_step_at l hk] at d
  have n0 := Int.mul_nonneg gk.1 (show 0 ≤ prod (s.drop (k + 1)) by omega)
  exact ⟨⟨by omega, by omega, by omega⟩, n0, by omega, by omega⟩
theorem sum_end {s m : List Int} {V p : Int} (h : Sum s m V p s.length) : p = V := by
  obtain ⟨_, _, d⟩ := h
  rw [List.drop_length] at d
  simp [ix] at d
  exact d
end Go.Proofs.Ytlidkeabadioeaa
namespace Go.Proofs.Ytlidkeabadioeaa
open Go.RowKit

/-- What a slice of whole numbers reads as. -/
def Ld (w : World) (v : Value) (ls : List Int) : Prop := ∃ o c, v = .slice o ls.length c ∧ ls.length ≤ c ∧
  ∀ i, i < ls.length → ∃ b f, o = some ⟨b, f, none⟩ ∧ b < w.heap.size ∧ w.cell? ⟨b, f + i, none⟩ = some (.int .i64 (ls.getD i 0))
theorem Ld.keep {w w' : World} {B : Nat} {v : Value} {ls : List Int} (h : Ld w v ls) (hB : w.heap.size ≤ B) (hb : Below B w w') : Ld w' v ls := by
  obtain ⟨o, c, rfl, hc, h⟩ := h
  refine ⟨o, c, rfl, hc, fun i hi => ?_⟩
  obtain ⟨b, f, ho, hl, hx⟩ := h i hi
  exact ⟨b, f, ho, Nat.lt_of_lt_of_le hl hb.size, (hb.cell (p := ⟨b, f + i, none⟩) (Nat.lt_of_lt_of_le hl hB)).trans hx⟩
theorem Ld.below {w w' : World} {v : Value} {ls : List Int} (h : Ld w v ls) (hb : Below w.heap.size w w') : Ld w' v ls := h.keep (Nat.le_refl _) hb
theorem Ld.nil (w : World) : Ld w (.slice none 0 0) [] := ⟨none, 0, rfl, Nat.le_refl _, fun i hi => by simp at hi⟩
/-- The same slice, in an earlier world of which it lay below. -/
theorem Ld.form {w : World} {v : Value} {ls : List Int} (h : Ld w v ls) : ∃ o c, v = .slice o ls.length c ∧ ls.length ≤ c ∧
  ∀ i, i < ls.length → ∃ b f, o = some ⟨b, f, none⟩ ∧ b < w.heap.size ∧ w.cell? ⟨b, f + i, none⟩ = some (.int .i64 (ls.getD i 0)) := h

/-- A block that is known whole. -/
def Blk (w : World) (g : Nat) (t : TypeId) (cs : Array Value) : Prop := w.heap[g]? = some (.cells cs t (0, 0))
section
variable {w w' : World} {g : Nat} {t : TypeId} {cs : Array Value}
theorem Blk.lt (h : Blk w g t cs) : g < w.heap.size := by
  rcases Nat.lt_or_ge g w.heap.size with hlt | hge
  · exact hlt
  · unfold Blk at h; rw [Array.getElem?_eq_none hge] at h; cases h
theorem Blk.cell (h : Blk w g t cs) (i : Nat) : w.cell? ⟨g, i, none⟩ = cs[i]? := cell_of_row w g i cs t (0, 0) h
theorem Blk.frozen (h : Blk w g t cs) (i : Nat) : w.frozen? ⟨g, i, none⟩ = false := by
  unfold Blk at h
  simp [World.frozen?, h]
theorem Blk.new (w : World) (t : TypeId) (cs : Array Value) : Blk (w.alloc (.cells cs t)) w.heap.size t cs := heap_alloc_new w _
theorem Blk.drew (h : Blk w g t cs) : Blk w.drew g t cs := h
theorem Blk.alloc (h : Blk w g t cs) (o : Obj) : Blk (w.alloc o) g t cs := (Below.heap_alloc w o g h.lt).trans h
theorem Blk.set_ (h : Blk w g t cs) (i : Nat) (u : Value) : Blk (w.setCell ⟨g, i, none⟩ u) g t (cs.setIfInBounds i u) := by
  unfold Blk at h ⊢
  simp [World.setCell, Array.getElem?_modify, h]
theorem Blk.far (h : Blk w g t cs) {p : Addr} (hp : g ≠ p.block) (u : Value) : Blk (w.setCell p u) g t cs := (Below.heap_setCell w p u g hp).trans h
theorem Blk.below {B : Nat} (h : Blk w g t cs) (hb : Below B w w') (hg : g < B) : Blk w' g t cs := (hb.block g hg).trans h
end

/-- The cells of a list. -/
def ints (ls : List Int) : List Value := ls.map (Value.int .i64 ·)
theorem ints_at {ls : List Int} {i : Nat} (h : i < ls.length) : (ints ls).toArray[i]? = some (.int .i64 (ls.getD i 0)) := by
  simp [ints, List.getD, List.getElem?_eq_getElem h]
/-- A block that holds a list. -/
theorem Ld.of_blk {w : World} {g : Nat} {t : TypeId} {ls : List Int} (h : Blk w g t (ints ls).toArray) {c : Nat} (hc : ls.length ≤ c) : Ld w (.slice (some ⟨g, 0, none⟩) ls.length c) ls :=
  ⟨_, c, rfl, hc, fun i hi => ⟨g, 0, rfl, h.lt, by rw [Nat.zero_add, h.cell, ints_at hi]⟩⟩
theorem made_ints (n : Nat) : madeCells #[.int .i64 0] n = (ints (List.replicate n 0)).toArray := by
  apply Array.ext
  · simp [madeCells, ints]
  · intro i h1 h2
    simp [madeCells, ints, Nat.mod_one]
theorem ints_set (ls : List Int) (k : Nat) (v : Int) : (ints ls).toArray.setIfInBounds k (.int .i64 v) = (ints (ls.set k v)).toArray := by
  apply Array.ext
  · simp [ints]
  · intro i h1 h2
    by_cases e : k = i
    · subst e; simp [ints]
    · simp only [List.setIfInBounds_toArray, List.getElem_toArray, List.getElem_set, ints, List.getElem_map]
      simp [e]
theorem Blk.put {w : World} {g : Nat} {t : TypeId} {ls : List Int} (h : Blk w g t (ints ls).toArray) (k : Nat) (v : Int) : Blk (w.setCell ⟨g, k, none⟩ (.int .i64 v)) g t (ints (ls.set k v)).toArray := by
  rw [← ints_set]; exact h.set_ k _
theorem set_getD_self {ls : List Int} {k : Nat} {v : Int} (h : k < ls.length) : (ls.set k v).getD k 0 = v := by simp [List.getD, List.getElem?_set_self h]
theorem set_getD_ne {ls : List Int} {k j : Nat} {v : Int} (h : k ≠ j) : (ls.set k v).getD j 0 = ls.getD j 0 := by simp [List.getD, List.getElem?_set_ne h]
end Go.Proofs.Ytlidkeabadioeaa
namespace Go.Proofs.Ytlidkeabadioeaa
open Go.ChangeShapes Go.WideShapes Go.ChangeAt Go.RowKit Go.Deep

theorem Try.own : ownKnob Try.prog.godebug = none := by kernel_rfl
theorem Try.laidOut : laidOutB Try.prog = true := by kernel_rfl
theorem s_i64 {x : Int} (h : (Lit.int .i64 x).wf = true) : -9223372036854775808 ≤ x ∧ x ≤ 9223372036854775807 := by
  simp [Lit.wf, IntKind.min, IntKind.max, IntKind.signed, IntKind.bits] at h
  exact ⟨by omega, by omega⟩
theorem cS1 : Try.prog.cellsOf 23 = 1 := by kernel_rfl
theorem cS2 : Try.prog.cellsOf 3 = 1 := by kernel_rfl
theorem cS5 : Try.prog.cellsOf 24 = 1 := by kernel_rfl
theorem cS6 : Try.prog.cellsOf 2 = 1 := by kernel_rfl
theorem cS7 : Try.prog.cellsOf 26 = 2 := by kernel_rfl
theorem cS8 : Try.prog.cellsOf 28 = 5 := by kernel_rfl
theorem bS2 : Try.prog.bytesOf 3 = 8 := by kernel_rfl
theorem bS6 : Try.prog.bytesOf 2 = 8 := by kernel_rfl
theorem reach_is : reachBytes = 140737488351232 := rfl

/-- An element: two tensors, fraction bits. -/
structure Mk where
  A : Value
  X : Value
  B : Value
  Y : Value
  sa : List Int
  da : List Int
  sb : List Int
  db : List Int
  f : Int
def Mk.ok (w : World) (e : Mk) : Prop := (Ld w e.A e.sa ∧ Ld w e.X e.da ∧ Ld w e.B e.sb ∧ Ld w e.Y e.db) ∧ (e.sa.length ≤ 17592186043904 ∧ e.da.length ≤ 17592186043904 ∧ e.sb.length ≤ 17592186043904 ∧ e.db.length ≤ 17592186043904) ∧ (-9223372036854775808 ≤ e.f ∧ e.f ≤ 9223372036854775807)
def MkAt (w : World) (b p : Nat) (e : Mk) : Prop := w.cell? ⟨b, p, none⟩ = some e.A ∧ w.cell? ⟨b, p + 1, none⟩ = some e.X ∧ w.cell? ⟨b, p + 2, none⟩ = some e.B ∧ w.cell? ⟨b, p + 3, none⟩ = some e.Y ∧ w.cell? ⟨b, p + 4, none⟩ = some (.int .i64 e.f)
theorem MkAt.below {w W : World} {b p : Nat} {e : Mk} (h : MkAt w b p e) (hB : Below w.heap.size w W) (hb : b < w.heap.size) : MkAt W b p e := by
  obtain ⟨h0, h1, h2, h3, h4⟩ := h
  have k : ∀ (i : Nat) (v : Value), w.cell? ⟨b, i, none⟩ = some v → W.cell? ⟨b, i, none⟩ = some v := fun i v hh => (hB.cell (p := ⟨b, i, none⟩) hb).trans hh
  exact ⟨k _ _ h0, k _ _ h1, k _ _ h2, k _ _ h3, k _ _ h4⟩

/-- All that it weighs is within reach. -/
def Lite {H : Type} (t : TypeId) (d : DataW H) : Prop := ∀ n ∈ d.weights Try.prog t, n ≤ reachBytes
theorem lite_all {H : Type} {e : TypeId} : ∀ {l : List (DataW H)} {d : DataW H}, d ∈ l → ∀ n ∈ d.weights Try.prog e, n ∈ DataW.weightsAll Try.prog e l
  | d' :: r, d, hd, n, hn => by
    simp only [DataW.weightsAll, List.mem_append]
    rcases List.mem_cons.1 hd with rfl | h
    · exact .inl hn
    · exact .inr (lite_all h n hn)
theorem lite_in {H : Type} {t e : TypeId} {elems spare : List (DataW H)} {d : DataW H} (hu : Try.prog.underlying t = some (.slice e)) (h : Lite t (.slice elems spare)) (hd : d ∈ elems) : Lite e d := fun n hn =>
  h n (by simp only [DataW.weights, hu, List.mem_cons, List.mem_append]; exact .inr (.inl (lite_all hd n hn)))
theorem lite_len {H : Type} {t e : TypeId} {elems spare : List (DataW H)} (hu : Try.prog.underlying t = some (.slice e)) (hb : Try.prog.bytesOf e = 8) (h : Lite t (.slice elems spare)) : elems.length ≤ 17592186043904 := by
  have := h ((elems.length + spare.length) * Try.prog.bytesOf e) (by simp [DataW.weights, hu])
  rw [hb, reach_is] at this
  omega
theorem lite_part {H : Type} {t : TypeId} {fs : Array Field} {parts : List (DataW H)} {j : Nat} {d : DataW H} {u : TypeId} (hu : Try.prog.underlying t = some (.struct fs)) (h : Lite t (.agg parts)) (hj : (fs.toList.map (·.type))[j]? = some u) (hd : parts[j]? = some d) : Lite u d := fun n hn =>
  h n (by simp only [DataW.weights, hu]; exact DataW.weights_mem_each hj hd n hn)

section
variable {H : Type} {enc : TypeId × Value → H} {w : World} {base : Nat} {spare : Nat → Bool} {held : Bool}
set_option maxRecDepth 100000 in
theorem open_nums {t e : TypeId} {fuel : Nat} {v : Value} {x : DataW H × List MemPlace} (hu : Try.prog.underlying t = some (.slice e)) (hc : Try.prog.cellsOf e = 1) (hb : Try.prog.bytesOf e = 8) (hi : Try.prog.underlying e = some (.int .i64))
    (h : DataW.trod enc Try.prog w base spare held fuel t [v] = some x) (hz : Lite t x.1) : ∃ ls, Ld w v ls ∧ ls.length ≤ 17592186043904 := by
  rcases open_slice1 hu hc h with ⟨hcs, _⟩ | ⟨a, len, cap, m, n, V, D, Pl, hcs, _, hl, hm, hmm, hx, hia⟩
  · simp only [List.cons.injEq, and_true] at hcs
    subst hcs
    exact ⟨[], Ld.nil w, by simp⟩
  · simp only [List.cons.injEq, and_true] at hcs
    subst hcs
    have hle : len ≤ m := by rw [hmm]; split <;> omega
    have hlen2 : len ≤ 17592186043904 := by
      rw [hx] at hz
      have := lite_len hu hb hz
      simpa using this
    have hall : ∀ i, i < len → ∃ y : Int, w.cell? (a.add i) = some (.int .i64 y) := by
      intro i hik
      obtain ⟨hc, ht⟩ := hia i (by omega)
      obtain ⟨y, e0, _, _⟩ := DataW.trod_int hi ht
      simp only [List.cons.injEq, and_true] at e0
      exact ⟨y, by rw [hc, e0]⟩
    let ys : Nat → Int := fun i => if h : i < len then (hall i h).choose else 0
    have hys : ∀ i, i < len → w.cell? (a.add i) = some (.int .i64 (ys i)) := by
      intro i hik
      have := (hall i hik).choose_spec
      simp only [ys, dif_pos hik]
      exact this
    have hlen : ((List.range len).map ys).length = len := by simp
    refine ⟨(List.range len).map ys, ⟨some a, cap, by rw [hlen], by rw [hlen]; exact hl, fun i hi2 => ?_⟩, by rw [hlen]; exact hlen2⟩
    rw [hlen] at hi2
    obtain ⟨b, off, spot⟩ := a
    have hc := hys i hi2
    have hspot : spot = none := by simpa [Addr.add] using World.cell?_spot (hys 0 (by omega))
    subst hspot
    rw [Go.WideShapes.add_plain] at hc
    have hg : ((List.range len).map ys).getD i 0 = ys i := by simp [List.getD, hi2]
    exact ⟨b, off, rfl, World.block_lt_of_cell? w _ hc, by rw [hg]; exact hc⟩

set_option maxRecDepth 100000 in
theorem open_tens {fuel : Nat} {v0 v1 : Value} {x : DataW H × List MemPlace} (h : DataW.trod enc Try.prog w base spare held fuel 26 [v0, v1] = some x) (hz : Lite 26 x.1) :
    ∃ ts tds, Ld w v0 ts ∧ Ld w v1 tds ∧ ts.length ≤ 17592186043904 ∧ tds.length ≤ 17592186043904 := by
  obtain ⟨xs, n, _, hx, _, hxl, hf⟩ := DataW.trod_struct Try.underlying26 h
  have hxl2 : xs.length = 2 := hxl
  match xs, hxl2 with
  | [x0, x1], _ =>
    have h0 : DataW.trod enc Try.prog w base spare held n 23 ((([v0, v1] : List Value).drop 0).take (Try.prog.cellsOf 23)) = some x0 := hf 0 _ rfl
    have h1 : DataW.trod enc Try.prog w base spare held n 24 ((([v0, v1] : List Value).drop 1).take (Try.prog.cellsOf 24)) = some x1 := hf 1 _ rfl
    simp only [cS1, cS5, List.drop_zero, List.drop_succ_cons, List.take_succ_cons, List.take_zero] at h0 h1
    rw [hx] at hz
    obtain ⟨s, hs, ls⟩ := open_nums Try.underlying23 cS2 bS2 Try.underlying3 h0 (lite_part (j := 0) Try.underlying26 hz rfl rfl)
    obtain ⟨t, ht, lt⟩ := open_nums Try.underlying24 cS6 bS6 Try.underlying2 h1 (lite_part (j := 1) Try.underlying26 hz rfl rfl)
    exact ⟨s, t, hs, ht, ls, lt⟩
set_option maxRecDepth 100000 in
set_option maxHeartbeats 2000000 in
theorem open_mk {fuel : Nat} {cs : List Value} {x : DataW H × List MemPlace} (h : DataW.trod enc Try.prog w base spare held fuel 28 cs = some x) (hz : Lite 28 x.1) :
    ∃ e : Mk, e.ok w ∧ cs = [e.A, e.X, e.B, e.Y, .int .i64 e.f] := by
  obtain ⟨xs, n, _, hx, hl, hxl, hf⟩ := DataW.trod_struct Try.underlying28 h
  rw [cS8] at hl
  match cs, hl with
  | [v0, v1, v2, v3, v4], _ =>
    have hxl2 : xs.length = 3 := hxl
    match xs, hxl2 with
    | [x0, x1, x2], _ =>
      have h0 : DataW.trod enc Try.prog w base spare held n 26 ((([v0, v1, v2, v3, v4] : List Value).drop 0).take (Try.prog.cellsOf 26)) = some x0 := hf 0 _ rfl
      have h1 : DataW.trod enc Try.prog w base spare held n 26 ((([v0, v1, v2, v3, v4] : List Value).drop 2).take (Try.prog.cellsOf 26)) = some x1 := hf 1 _ rfl
      have h2 : DataW.trod enc Try.prog w base spare held n 3 ((([v0, v1, v2, v3, v4] : List Value).drop 4).take (Try.prog.cellsOf 3)) = some x2 := hf 2 _ rfl
      simp only [cS2, cS7, List.drop_zero, List.drop_succ_cons, List.take_succ_cons, List.take_zero] at h0 h1 h2
      rw [hx] at hz
      have q := fun (j : Nat) (u : TypeId) (d : DataW H) => lite_part (j := j) (u := u) (d := d) Try.underlying28 hz
      obtain ⟨sa, da, hs, hd, l0, l1⟩ := open_tens h0 (q 0 _ _ rfl rfl)
      obtain ⟨sb, db, hs2, hd2, l2, l3⟩ := open_tens h1 (q 1 _ _ rfl rfl)
      obtain ⟨a, ea, _, wa⟩ := DataW.trod_int Try.underlying3 h2
      simp only [List.cons.injEq, and_true] at ea
      subst ea
      exact ⟨⟨v0, v1, v2, v3, sa, da, sb, db, a⟩, ⟨⟨hs, hd, hs2, hd2⟩, ⟨l0, l1, l2, l3⟩, s_i64 wa⟩, rfl⟩

set_option maxRecDepth 100000 in
set_option maxHeartbeats 2000000 in
/-- The list: nil or empty, or its elements' cells. -/
theorem open_mks {fuel : Nat} {v : Value} {x : DataW H × List MemPlace} (h : DataW.trod enc Try.prog w base spare held fuel 22 [v] = some x) (hz : Lite 22 x.1) :
    (∃ o cap, v = .slice o 0 cap) ∨ ∃ (b off len cap : Nat) (es : Nat → Mk), v = .slice (some ⟨b, off, none⟩) len cap ∧ len ≤ 9223372036854775807 ∧ b < w.heap.size ∧
      (∀ i, i < len → MkAt w b (off + i * 5) (es i)) ∧ (∀ i, i < len → (es i).ok w) := by
  rcases open_slice Try.underlying22 h with ⟨hcs, _⟩ | ⟨a, len, cap, m, n, D, Pl, hcs, _, hl, hm, hmm, hx, hi⟩
  · left
    simp only [List.cons.injEq, and_true] at hcs
    exact ⟨_, _, hcs⟩
  · simp only [List.cons.injEq, and_true] at hcs
    subst hcs
    by_cases h0 : len = 0
    · subst h0; exact .inl ⟨_, _, rfl⟩
    right
    have hle : len ≤ m := by rw [hmm]; split <;> omega
    rw [cS8] at hi
    rw [hx] at hz
    have hall : ∀ i, i < len → ∃ e : Mk, e.ok w ∧ ∀ j, j < 5 → w.cell? ((a.add (i * 5)).add j) = ([e.A, e.X, e.B, e.Y, .int .i64 e.f] : List Value)[j]? := by
      intro i hik
      obtain ⟨cs', hc, ht⟩ := hi i (by omega)
      obtain ⟨e, he, rfl⟩ := open_mk ht (lite_in Try.underlying22 hz (List.mem_map.2 ⟨i, List.mem_range.2 hik, rfl⟩))
      exact ⟨e, he, (World.cells?_some hc).2.2⟩
    let es : Nat → Mk := fun i => if h : i < len then (hall i h).choose else ⟨.bool false, .bool false, .bool false, .bool false, [], [], [], [], 0⟩
    have hes : ∀ i, i < len → (es i).ok w ∧ ∀ j, j < 5 → w.cell? ((a.add (i * 5)).add j) = ([(es i).A, (es i).X, (es i).B, (es i).Y, .int .i64 (es i).f] : List Value)[j]? := by
      intro i hik
      have := (hall i hik).choose_spec
      simp only [es, dif_pos hik]
      exact this
    obtain ⟨b, off, spot⟩ := a
    have hspot : spot = none := by
      have := (hes 0 (by omega)).2 0 (by decide)
      simpa [Addr.add] using World.cell?_spot this
    subst hspot
    have cell : ∀ i, i < len → ∀ j, j < 5 → w.cell? ⟨b, off + i * 5 + j, none⟩ = ([(es i).A, (es i).X, (es i).B, (es i).Y, .int .i64 (es i).f] : List Value)[j]? := by
      intro i hik j hj
      rw [← (hes i hik).2 j hj, Go.WideShapes.add_plain, Go.WideShapes.add_plain]
    refine ⟨b, off, len, cap, es, rfl, by unfold maxLen at hm; omega, ?_, fun i hik => ?_, fun i hik => (hes i hik).1⟩
    · exact World.block_lt_of_cell? w _ (by have := cell 0 (by omega) 0 (by decide); simpa using this)
    · exact ⟨cell i hik 0 (by decide), cell i hik 1 (by decide), cell i hik 2 (by decide), cell i hik 3 (by decide), cell i hik 4 (by decide)⟩
end
end Go.Proofs.Ytlidkeabadioeaa
