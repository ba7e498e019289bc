/-
  Shapes as lists of whole numbers: counts, strides, indexes, places; plain mathematics.
  Shapes as lists of whole numbers: steps of an index, spread shapes, what stands under an index; plain mathematics.
  Views as lists of whole numbers: where an index stands; plain mathematics.
  Views as lists of whole numbers: which may be; axes; what transposed, sliced, widened, reshaped views are; plain mathematics.
  Slices of whole numbers: what they read as; blocks of the call's own.
  shape.Count and shape.Check.
-/
import Derived.Test.YtpfcjajmfadcbaaGreatRows
import Derived.WalkKit
import Derived.WalkSpells
import Derived.Lib.Hide
import Derived.LoopTactic
import Derived.Below
import Derived.Laws.OwnMore
import Derived.Deep.AppendLies
import Derived.Deep.Draws
namespace Go.Proofs.YtpfcjajmfadcbaaGreat

def prod : List Int → Int
  | [] => 1
  | d :: r => d * prod r
/-- c times the dimensions, as far as each is one and the product is not too great; else 0. -/
def cnt (c : Int) : List Int → Int
  | [] => c
  | d :: r => if 1 ≤ d ∧ d ≤ 4096 ∧ d * c ≤ 65536 then cnt (c * d) r else 0
def may (ls : List Int) : Bool := decide (ls.length ≤ 4) && decide (cnt 1 ls ≠ 0)
/-- All from 1 to 4096. -/
def dms (ls : List Int) : Prop := ∀ d ∈ ls, 1 ≤ d ∧ d ≤ 4096
def pos (ls : List Int) : Prop := ∀ d ∈ ls, 1 ≤ d

theorem drop_getD {ls : List Int} {i : Nat} (h : i < ls.length) : ls.drop i = ls.getD i 0 :: ls.drop (i + 1) := by
  rw [List.drop_eq_getElem_cons h]; simp [List.getD, List.getElem?_eq_getElem h]
theorem getD_mem {ls : List Int} {i : Nat} (h : i < ls.length) : ls.getD i 0 ∈ ls := by
  simp [List.getD, List.getElem?_eq_getElem h]
theorem dms_pos {ls : List Int} (h : dms ls) : pos ls := fun d hd => (h d hd).1
theorem prod_pos : ∀ {ls : List Int}, pos ls → 1 ≤ prod ls
  | [], _ => Int.le_refl _
  | d :: r, h => by
    have h1 := h d (List.mem_cons_self ..)
    have h2 := prod_pos (ls := r) fun x hx => h x (List.mem_cons_of_mem _ hx)
    have := Int.mul_le_mul h1 h2 (by decide) (by omega)
    simpa [prod] using this
theorem prod_drop_le : ∀ {ls : List Int} (k : Nat), pos ls → prod (ls.drop k) ≤ prod ls
  | [], k, _ => by simp
  | d :: r, 0, _ => Int.le_refl _
  | d :: r, k + 1, h => by
    have h1 := h d (List.mem_cons_self ..)
    have hr : pos r := fun x hx => h x (List.mem_cons_of_mem _ hx)
    have h2 := prod_drop_le (ls := r) k hr
    have h3 := prod_pos hr
    have := Int.mul_le_mul_of_nonneg_right h1 (show 0 ≤ prod r by omega)
    simp only [List.drop_succ_cons, prod]
    omega
theorem pos_drop {ls : List Int} (h : pos ls) (k : Nat) : pos (ls.drop k) := fun x hx => h x (List.mem_of_mem_drop hx)
theorem prod_dvd : ∀ (ls : List Int) (k : Nat), ∃ q, prod ls = prod (ls.drop k) * q
  | [], _ => ⟨1, by simp⟩
  | d :: r, 0 => ⟨1, by simp⟩
  | d :: r, k + 1 => by
    obtain ⟨q, hq⟩ := prod_dvd r k
    refine ⟨d * q, ?_⟩
    rw [List.drop_succ_cons, prod, hq]
    simp only [Int.mul_left_comm]
theorem prod_drop {ls : List Int} {k : Nat} (h : k < ls.length) : prod (ls.drop k) = ls.getD k 0 * prod (ls.drop (k + 1)) := by rw [drop_getD h]; rfl

theorem cnt_cases : ∀ (ls : List Int) (c : Int), 1 ≤ c → c ≤ 65536 → cnt c ls = 0 ∨ (1 ≤ cnt c ls ∧ cnt c ls ≤ 65536 ∧ cnt c ls = c * prod ls ∧ dms ls)
  | [], c, h0, h1 => .inr ⟨h0, h1, by simp [cnt, prod], fun d hd => by cases hd⟩
  | d :: r, c, h0, h1 => by
    unfold cnt
    split
    · rename_i h
      obtain ⟨a, b, g⟩ := h
      have h2 := Int.mul_le_mul h0 a (by decide) (by omega)
      rw [Int.mul_comm] at g
      rcases cnt_cases r (c * d) (by omega) g with k | ⟨k1, k2, k3, k4⟩
      · exact .inl k
      · refine .inr ⟨k1, k2, by rw [k3, prod, Int.mul_assoc], fun x hx => ?_⟩
        rcases List.mem_cons.1 hx with rfl | hx
        · exact ⟨a, b⟩
        · exact k4 x hx
    · exact .inl rfl
theorem cnt_of : ∀ (ls : List Int) (c : Int), 1 ≤ c → dms ls → c * prod ls ≤ 65536 → cnt c ls = c * prod ls
  | [], c, _, _, _ => by simp [cnt, prod]
  | d :: r, c, h0, h, hp => by
    have h1 := h d (List.mem_cons_self ..)
    have hr : dms r := fun x hx => h x (List.mem_cons_of_mem _ hx)
    have h3 := prod_pos (dms_pos hr)
    have e : c * prod (d :: r) = c * d * prod r := by rw [prod, Int.mul_assoc]
    have h2 := Int.mul_le_mul h0 h1.1 (by decide) (by omega)
    have h4 := Int.mul_le_mul_of_nonneg_left h3 (show 0 ≤ c * d by omega)
    rw [e] at hp ⊢
    unfold cnt
    rw [if_pos ⟨h1.1, h1.2, by rw [Int.mul_comm]; omega⟩]
    exact cnt_of r (c * d) (by omega) hr hp
theorem may_iff (ls : List Int) : may ls = true ↔ ls.length ≤ 4 ∧ dms ls ∧ prod ls ≤ 65536 := by
  unfold may
  simp only [Bool.and_eq_true, decide_eq_true_eq]
  constructor
  · rintro ⟨a, b⟩
    rcases cnt_cases ls 1 (by decide) (by decide) with h | ⟨_, h2, h3, h4⟩
    · exact absurd h b
    · exact ⟨a, h4, by omega⟩
  · rintro ⟨a, b, c⟩
    refine ⟨a, ?_⟩
    rw [cnt_of ls 1 (by decide) b (by omega)]
    have := prod_pos (dms_pos b)
    omega
theorem may_cnt {ls : List Int} (h : may ls = true) : cnt 1 ls = prod ls := by
  obtain ⟨_, b, c⟩ := (may_iff ls).1 h
  rw [cnt_of ls 1 (by decide) b (by omega), Int.one_mul]
theorem may_prod {ls : List Int} (h : may ls = true) : 1 ≤ prod ls ∧ prod ls ≤ 65536 := by
  obtain ⟨_, b, c⟩ := (may_iff ls).1 h
  exact ⟨prod_pos (dms_pos b), c⟩
theorem may_len {ls : List Int} (h : may ls = true) : ls.length ≤ 4 := ((may_iff ls).1 h).1
theorem may_dms {ls : List Int} (h : may ls = true) : dms ls := ((may_iff ls).1 h).2.1
theorem may_pos {ls : List Int} (h : may ls = true) : pos ls := dms_pos (may_dms h)
theorem may_no {ls : List Int} (h : may ls = false) : 4 < ls.length ∨ cnt 1 ls = 0 := by
  unfold may at h
  simp only [Bool.and_eq_false_iff, decide_eq_false_iff_not] at h
  rcases h with h | h
  · exact .inl (by omega)
  · exact .inr (by omega)
theorem may_yes {ls : List Int} (a : ls.length ≤ 4) (b : cnt 1 ls ≠ 0) : may ls = true := by
  unfold may; simp [a, b]
theorem may_not {ls : List Int} (b : cnt 1 ls = 0) : may ls = false := by
  unfold may; simp [b]
theorem may_long {ls : List Int} (b : 4 < ls.length) : may ls = false := by
  unfold may
  have : ¬ ls.length ≤ 4 := by omega
  simp [this]
theorem may_dim {ls : List Int} (h : may ls = true) {i : Nat} (hi : i < ls.length) : 1 ≤ ls.getD i 0 ∧ ls.getD i 0 ≤ 4096 := may_dms h _ (getD_mem hi)
theorem may_drop {ls : List Int} (h : may ls = true) (k : Nat) : 1 ≤ prod (ls.drop k) ∧ prod (ls.drop k) ≤ 65536 :=
  ⟨prod_pos (pos_drop (may_pos h) k), Int.le_trans (prod_drop_le k (may_pos h)) (may_prod h).2⟩

/-- One step of a count. -/
theorem cnt_step {ls : List Int} {i : Nat} (h : i < ls.length) (c : Int) : cnt c (ls.drop i) = if 1 ≤ ls.getD i 0 ∧ ls.getD i 0 ≤ 4096 ∧ ls.getD i 0 * c ≤ 65536 then cnt (c * ls.getD i 0) (ls.drop (i + 1)) else 0 := by
  rw [drop_getD h]; rfl
theorem quo_lt {c d : Int} (hc : 1 ≤ c) : (65536 / c < d) ↔ ¬ d * c ≤ 65536 := by
  rw [Int.ediv_lt_iff_lt_mul (by omega)]; omega

/-- Strides. -/
def stl : List Int → List Int
  | [] => []
  | _ :: r => prod r :: stl r
theorem stl_len : ∀ ls : List Int, (stl ls).length = ls.length
  | [] => rfl
  | _ :: r => by simp [stl, stl_len r]
theorem stl_getD : ∀ (ls : List Int) (k : Nat), k < ls.length → (stl ls).getD k 0 = prod (ls.drop (k + 1))
  | [], k, h => by simp at h
  | _ :: r, 0, _ => by simp [stl]
  | _ :: r, k + 1, h => by
    have := stl_getD r k (by simpa using h)
    simpa [stl] using this

/-- The sum of an index times the strides. -/
def ix : List Int → List Int → Int
  | _ :: r, i :: t => i * prod r + ix r t
  | _, _ => 0
/-- An index of a shape. -/
def inx : List Int → List Int → Bool
  | [], [] => true
  | d :: r, i :: t => decide (0 ≤ i) && decide (i < d) && inx r t
  | _, _ => false
theorem inx_len : ∀ {s i : List Int}, inx s i = true → s.length = i.length
  | [], [], _ => rfl
  | d :: r, i :: t, h => by
    simp only [inx, Bool.and_eq_true] at h
    simp [inx_len h.2]
  | [], _ :: _, h => by simp [inx] at h
  | _ :: _, [], h => by simp [inx] at h
theorem inx_iff : ∀ {s i : List Int}, inx s i = true ↔ s.length = i.length ∧ ∀ k, k < s.length → 0 ≤ i.getD k 0 ∧ i.getD k 0 < s.getD k 0
  | [], [] => by simp [inx]
  | d :: r, i :: t => by
    simp only [inx, Bool.and_eq_true, decide_eq_true_eq, inx_iff (s := r) (i := t), List.length_cons]
    constructor
    · rintro ⟨⟨a, b⟩, c, e⟩
      refine ⟨by omega, fun k hk => ?_⟩
      cases k with
      | zero => exact ⟨a, b⟩
      | succ k => simpa using e k (by omega)
    · rintro ⟨a, b⟩
      refine ⟨by simpa using b 0 (by omega), by omega, fun k hk => ?_⟩
      simpa using b (k + 1) (by omega)
  | [], _ :: _ => by simp [inx]
  | _ :: _, [] => by simp [inx]
theorem ix_bd : ∀ {s i : List Int}, inx s i = true → 0 ≤ ix s i ∧ ix s i < prod s
  | [], [], _ => by simp [ix, prod]
  | d :: r, i :: t, h => by
    simp only [inx, Bool.and_eq_true, decide_eq_true_eq] at h
    obtain ⟨⟨a, b⟩, c⟩ := h
    have ih := ix_bd c
    have h1 := Int.mul_le_mul_of_nonneg_right (show i + 1 ≤ d by omega) (show 0 ≤ prod r by omega)
    have h2 := Int.mul_nonneg a (show 0 ≤ prod r by omega)
    rw [Int.add_mul, Int.one_mul] at h1
    simp only [ix, prod]
    omega
  | [], _ :: _, h => by simp [inx] at h
  | _ :: _, [], h => by simp [inx] at h

/-- The index of a place. -/
def atl : List Int → Int → List Int
  | [], _ => []
  | _ :: r, n => n / prod r :: atl r (n % prod r)
theorem atl_len : ∀ (s : List Int) (n : Int), (atl s n).length = s.length
  | [], _ => rfl
  | _ :: r, n => by simp [atl, atl_len r]
theorem atl_inx : ∀ (s : List Int) (n : Int), pos s → 0 ≤ n → n < prod s → inx s (atl s n) = true
  | [], _, _, _, _ => rfl
  | d :: r, n, h, h0, h1 => by
    have hr : pos r := fun x hx => h x (List.mem_cons_of_mem _ hx)
    have hp := prod_pos hr
    simp only [atl, inx, Bool.and_eq_true, decide_eq_true_eq]
    refine ⟨⟨Int.ediv_nonneg h0 (by omega), ?_⟩, atl_inx r _ hr (Int.emod_nonneg _ (by omega)) (Int.emod_lt_of_pos _ (by omega))⟩
    rw [Int.ediv_lt_iff_lt_mul (by omega)]
    exact h1
theorem ix_atl : ∀ (s : List Int) (n : Int), pos s → 0 ≤ n → n < prod s → ix s (atl s n) = n
  | [], n, _, h0, h1 => by simp [prod] at h1; simp [ix]; omega
  | d :: r, n, h, h0, h1 => by
    have hr : pos r := fun x hx => h x (List.mem_cons_of_mem _ hx)
    have hp := prod_pos hr
    simp only [atl, ix]
    rw [ix_atl r _ hr (Int.emod_nonneg _ (by omega)) (Int.emod_lt_of_pos _ (by omega)), Int.mul_comm]
    exact Int.mul_ediv_add_emod n (prod r)
theorem atl_ix : ∀ (s i : List Int), inx s i = true → atl s (ix s i) = i
  | [], [], _ => rfl
  | d :: r, i :: t, h => by
    simp only [inx, Bool.and_eq_true, decide_eq_true_eq] at h
    obtain ⟨⟨a, b⟩, c⟩ := h
    have ih := ix_bd c
    have e1 : (i * prod r + ix r t) / prod r = i := by
      rw [Int.mul_comm, Int.mul_add_ediv_left _ _ (by omega), Int.ediv_eq_zero_of_lt ih.1 ih.2, Int.add_zero]
    have e2 : (i * prod r + ix r t) % prod r = ix r t := by
      rw [Int.mul_comm, Int.mul_add_emod_self_left, Int.emod_eq_of_lt ih.1 ih.2]
    simp only [atl, ix, e1, e2, atl_ix r t c]
  | [], _ :: _, h => by simp [inx] at h
  | _ :: _, [], h => by simp [inx] at h
/-- The program's way: from the last dimension on. -/
theorem atl_getD : ∀ (s : List Int) (n : Int) (k : Nat), pos s → 0 ≤ n → n < prod s → k < s.length → (atl s n).getD k 0 = n / prod (s.drop (k + 1)) % s.getD k 0
  | [], _, k, _, _, _, h => by simp at h
  | d :: r, n, 0, h, h0, h1, _ => by
    have hr : pos r := fun x hx => h x (List.mem_cons_of_mem _ hx)
    have hp := prod_pos hr
    have hd := h d (List.mem_cons_self ..)
    simp only [atl, List.getD_cons_zero, List.drop_succ_cons, List.drop_zero]
    refine (Int.emod_eq_of_lt (Int.ediv_nonneg h0 (by omega)) ?_).symm
    rw [Int.ediv_lt_iff_lt_mul (by omega)]
    exact h1
  | d :: r, n, k + 1, h, h0, h1, hk => by
    have hr : pos r := fun x hx => h x (List.mem_cons_of_mem _ hx)
    have hp := prod_pos hr
    have hk' : k < r.length := by simpa using hk
    have ih := atl_getD r (n % prod r) k hr (Int.emod_nonneg _ (by omega)) (Int.emod_lt_of_pos _ (by omega)) hk'
    simp only [atl, List.getD_cons_succ, List.drop_succ_cons]
    rw [ih]
    have hd := prod_pos (pos_drop hr (k + 1))
    have hg := hr _ (getD_mem hk')
    obtain ⟨q, hq⟩ := prod_dvd r k
    rw [prod_drop hk', Int.mul_comm (r.getD k 0)] at hq
    generalize prod (r.drop (k + 1)) = P at *
    generalize r.getD k 0 = g at *
    rw [hq]
    have e1 : n % (P * g * q) / P = n / P % (g * q) := by
      rw [Int.mul_assoc]
      have a := Int.emod_def n (P * (g * q))
      rw [a, Int.mul_assoc, ← Int.ediv_ediv_of_nonneg (by omega)]
      rw [Int.emod_def, show n - P * (g * q * (n / P / (g * q))) = n + P * (-(g * q * (n / P / (g * q)))) by rw [Int.mul_neg]; omega, Int.add_mul_ediv_left _ _ (by omega)]
      omega
    rw [e1]
    exact Int.emod_emod_of_dvd _ ⟨q, rfl⟩
end Go.Proofs.YtpfcjajmfadcbaaGreat
namespace Go.Proofs.YtpfcjajmfadcbaaGreat

theorem ix_put : ∀ (s x : List Int) (k : Nat) (v : Int), s.length = x.length → k < s.length → ix s (x.set k v) = ix s x + (v - x.getD k 0) * prod (s.drop (k + 1))
  | [], _, k, _, _, h => by simp at h
  | d :: r, [], _, _, h, _ => by simp at h
  | d :: r, i :: t, 0, v, _, _ => by simp only [List.set_cons_zero, ix, List.getD_cons_zero, List.drop_succ_cons, List.drop_zero, Int.sub_mul]; omega
  | d :: r, i :: t, k + 1, v, h, hk => by
    have := ix_put r t k v (by simpa using h) (by simpa using hk)
    simp only [List.set_cons_succ, ix, List.getD_cons_succ, List.drop_succ_cons, this]; omega
theorem inx_put {s x : List Int} {k : Nat} {v : Int} (h : inx s x = true) (h0 : 0 ≤ v) (h1 : v < s.getD k 0) : inx s (x.set k v) = true := by
  rw [inx_iff] at h ⊢
  refine ⟨by simpa using h.1, fun j hj => ?_⟩
  have hx : j < x.length := by omega
  by_cases e : k = j
  · subst e
    have : (x.set k v).getD k 0 = v := by simp [List.getD, List.getElem?_set_self hx]
    rw [this]; exact ⟨h0, h1⟩
  · have : (x.set k v).getD j 0 = x.getD j 0 := by simp [List.getD, List.getElem?_set_ne e]
    rw [this]; exact h.2 j hj

/-- What lies in x is left as it was behind place m; the step that is still to be done. -/
def Car (s x : List Int) (n : Int) (m : Nat) : Prop := m ≤ s.length ∧ inx s x = true ∧ ix s x + prod (s.drop m) = n + 1
theorem car_start {s : List Int} {n : Int} (h : pos s) (h0 : 0 ≤ n) (h1 : n < prod s) : Car s (atl s n) n s.length :=
  ⟨Nat.le_refl _, atl_inx s n h h0 h1, by rw [ix_atl s n h h0 h1, List.drop_length]; rfl⟩
theorem car_step {s x : List Int} {n : Int} {m : Nat} (h : Car s x n (m + 1)) (hp : pos s) (e : x.getD m 0 + 1 = s.getD m 0) : Car s (x.set m 0) n m := by
  obtain ⟨a, b, c⟩ := h
  have hl := inx_len b
  refine ⟨by omega, inx_put b (Int.le_refl _) ?_, ?_⟩
  · have := hp _ (getD_mem (show m < s.length by omega)); omega
  · rw [ix_put s x m 0 hl (by omega), prod_drop (show m < s.length by omega), ← e, Int.sub_mul, Int.add_mul]
    omega
theorem car_end {s x : List Int} {n : Int} {m : Nat} (h : Car s x n (m + 1)) (e : ¬ x.getD m 0 + 1 = s.getD m 0) : x.set m (x.getD m 0 + 1) = atl s (n + 1) := by
  obtain ⟨a, b, c⟩ := h
  have hl := inx_len b
  have hb := (inx_iff.1 b).2 m (by omega)
  have hi := inx_put (k := m) b (show 0 ≤ x.getD m 0 + 1 by omega) (by omega)
  have hx : ix s (x.set m (x.getD m 0 + 1)) = n + 1 := by
    rw [ix_put s x m _ hl (by omega), show x.getD m 0 + 1 - x.getD m 0 = 1 by omega, Int.one_mul]; exact c
  rw [← hx, atl_ix s _ hi]
theorem car_no {s x : List Int} {n : Int} (h : Car s x n 0) (h1 : n + 1 < prod s) : False := by
  obtain ⟨_, b, c⟩ := h
  have := ix_bd b
  rw [List.drop_zero] at c
  omega
/-- One step along a dimension. -/
theorem ix_step {s : List Int} {n : Int} {k : Nat} (hp : pos s) (h0 : 0 ≤ n) (h1 : n < prod s) (hk : k < s.length) (h : (atl s n).getD k 0 + 1 < s.getD k 0) :
    inx s ((atl s n).set k ((atl s n).getD k 0 + 1)) = true ∧ ix s ((atl s n).set k ((atl s n).getD k 0 + 1)) = n + prod (s.drop (k + 1)) := by
  have hi := atl_inx s n hp h0 h1
  have hb := (inx_iff.1 hi).2 k hk
  refine ⟨inx_put hi (by omega) h, ?_⟩
  rw [ix_put s _ k _ (inx_len hi) hk, ix_atl s n hp h0 h1, show (atl s n).getD k 0 + 1 - (atl s n).getD k 0 = 1 by omega, Int.one_mul]

/-- The dimension of which, itself counted, there are j to the end; 1: none. -/
def ov (s : List Int) (j : Nat) : Int := if s.length < j then 1 else s.getD (s.length - j) 0
def fa (a b : List Int) (j : Nat) : Bool := decide (ov a j = ov b j) || decide (ov a j = 1) || decide (ov b j = 1)
def fitN (a b : List Int) : Nat → Bool
  | 0 => true
  | n + 1 => fa a b (n + 1) && fitN a b n
def gr (x y : Int) : Int := if y = 1 then x else y
def spl (a b : List Int) : Nat → List Int
  | 0 => []
  | n + 1 => gr (ov a (n + 1)) (ov b (n + 1)) :: spl a b n
def mx (a b : List Int) : Nat := max a.length b.length
def fit (a b : List Int) : Bool := fitN a b (mx a b)
def spr (a b : List Int) : List Int := spl a b (mx a b)
/-- Spread's answers: the error, the shape. -/
def spe (a b : List Int) : Int := if fit a b then (if may (spr a b) then 0 else 5) else 2
def spv (a b : List Int) : List Int := if spe a b = 0 then spr a b else []

theorem spl_len (a b : List Int) : ∀ n, (spl a b n).length = n
  | 0 => rfl
  | n + 1 => by simp [spl, spl_len a b n]
theorem spl_getD (a b : List Int) : ∀ n k, k < n → (spl a b n).getD k 0 = gr (ov a (n - k)) (ov b (n - k))
  | 0, k, h => by omega
  | n + 1, 0, _ => by simp [spl]
  | n + 1, k + 1, h => by
    have := spl_getD a b n k (by omega)
    rw [Nat.add_sub_add_right]
    simpa [spl] using this
theorem fitN_iff (a b : List Int) : ∀ n, fitN a b n = true ↔ ∀ j, 1 ≤ j → j ≤ n → fa a b j = true
  | 0 => by simp [fitN]; intro j h1 h2; omega
  | n + 1 => by
    simp only [fitN, Bool.and_eq_true, fitN_iff a b n]
    constructor
    · rintro ⟨h1, h2⟩ j a1 a2
      by_cases e : j = n + 1
      · subst e; exact h1
      · exact h2 j a1 (by omega)
    · intro h
      exact ⟨h _ (by omega) (by omega), fun j a1 a2 => h j a1 (by omega)⟩
theorem fa_iff (a b : List Int) (j : Nat) : fa a b j = true ↔ ov a j = ov b j ∨ ov a j = 1 ∨ ov b j = 1 := by
  unfold fa; simp [or_assoc]
theorem fa_sym (a b : List Int) (j : Nat) : fa a b j = fa b a j := by
  rw [Bool.eq_iff_iff, fa_iff, fa_iff]; omega
theorem fitN_sym (a b : List Int) : ∀ n, fitN a b n = fitN b a n
  | 0 => rfl
  | n + 1 => by simp only [fitN, fa_sym a b, fitN_sym a b n]
theorem mx_sym (a b : List Int) : mx a b = mx b a := by unfold mx; omega
theorem fit_sym (a b : List Int) : fit a b = fit b a := by unfold fit; rw [mx_sym a b, fitN_sym]
theorem spl_sym (a b : List Int) : ∀ n, fitN a b n = true → spl a b n = spl b a n
  | 0, _ => rfl
  | n + 1, h => by
    simp only [fitN, Bool.and_eq_true] at h
    have h1 := (fa_iff a b _).1 h.1
    simp only [spl, spl_sym a b n h.2]
    congr 1
    unfold gr
    split <;> split <;> omega
theorem spe_sym (a b : List Int) : spe a b = spe b a := by
  unfold spe
  rw [fit_sym a b]
  split
  · rename_i h
    have : fit a b = true := by rw [fit_sym]; exact h
    unfold spr
    rw [mx_sym b a, spl_sym a b _ this]
  · rfl
theorem spe_fit {a b : List Int} (h : spe a b = 0) : fit a b = true ∧ may (spr a b) = true := by
  unfold spe at h
  split at h
  · rename_i h1
    split at h
    · rename_i h2; exact ⟨h1, h2⟩
    · omega
  · omega
theorem spv_sym (a b : List Int) : spv a b = spv b a := by
  unfold spv
  rw [spe_sym b a]
  split
  · rename_i h
    obtain ⟨h1, _⟩ := spe_fit h
    unfold spr
    rw [mx_sym b a, spl_sym a b _ h1]
  · rfl
theorem ext_getD {a b : List Int} (h : a.length = b.length) (hg : ∀ k, k < a.length → a.getD k 0 = b.getD k 0) : a = b := by
  apply List.ext_getElem h
  intro i h1 h2
  have := hg i h1
  simpa [List.getD, List.getElem?_eq_getElem h1, List.getElem?_eq_getElem h2] using this
theorem ov_at {s : List Int} {k : Nat} (h : k < s.length) : ov s (s.length - k) = s.getD k 0 := by
  unfold ov
  rw [if_neg (by omega), show s.length - (s.length - k) = k by omega]
theorem spr_self (s : List Int) : fit s s = true ∧ spr s s = s := by
  refine ⟨(fitN_iff _ _ _).2 fun j _ _ => (fa_iff _ _ _).2 (.inl rfl), ?_⟩
  unfold spr
  have e : mx s s = s.length := by unfold mx; omega
  rw [e]
  refine ext_getD (spl_len _ _ _) fun k hk => ?_
  rw [spl_len] at hk
  rw [spl_getD _ _ _ _ hk, ov_at hk]
  unfold gr; split <;> rfl
theorem spr_one (s : List Int) (h : 0 < s.length) : fit s [1] = true ∧ spr s [1] = s := by
  have o : ∀ j, 1 ≤ j → ov [1] j = 1 := by
    intro j hj
    unfold ov
    split
    · rfl
    · rename_i g
      have : j = 1 := by simp at g; omega
      subst this; rfl
  refine ⟨(fitN_iff _ _ _).2 fun j hj _ => (fa_iff _ _ _).2 (.inr (.inr (o j hj))), ?_⟩
  unfold spr
  have e : mx s [1] = s.length := by unfold mx; simp; omega
  rw [e]
  refine ext_getD (spl_len _ _ _) fun k hk => ?_
  rw [spl_len] at hk
  rw [spl_getD _ _ _ _ hk, ov_at hk, o _ (by omega)]
  rfl
theorem spe_self {s : List Int} (h : may s = true) : spe s s = 0 ∧ spv s s = s := by
  have e : spe s s = 0 := by unfold spe; rw [if_pos (spr_self s).1, (spr_self s).2, if_pos h]
  exact ⟨e, by unfold spv; rw [if_pos e, (spr_self s).2]⟩
theorem spe_one {s : List Int} (h : may s = true) (h0 : 0 < s.length) : spe s [1] = 0 ∧ spv s [1] = s := by
  have e : spe s [1] = 0 := by unfold spe; rw [if_pos (spr_one s h0).1, (spr_one s h0).2, if_pos h]
  exact ⟨e, by unfold spv; rw [if_pos e, (spr_one s h0).2]⟩
theorem spe_nil : spe [] [1] = 0 := by decide
theorem ov_pos {s : List Int} (h : pos s) {j : Nat} (h1 : 1 ≤ j) : 1 ≤ ov s j := by
  unfold ov
  split
  · decide
  · exact h _ (getD_mem (by omega))
theorem ov_dms {s : List Int} (h : dms s) {j : Nat} (h1 : 1 ≤ j) : 1 ≤ ov s j ∧ ov s j ≤ 4096 := by
  unfold ov
  split
  · decide
  · exact h _ (getD_mem (by omega))
theorem spl_dms {a b : List Int} (ha : dms a) (hb : dms b) (n : Nat) : dms (spl a b n) := by
  intro d hd
  obtain ⟨i, hi, rfl⟩ := List.mem_iff_getElem.1 hd
  have hn := spl_len a b n
  have := spl_getD a b n i (by omega)
  have e : (spl a b n).getD i 0 = (spl a b n)[i] := by simp [List.getD, List.getElem?_eq_getElem hi]
  rw [← e, this]
  have a1 := ov_dms ha (j := n - i) (by omega)
  have b1 := ov_dms hb (j := n - i) (by omega)
  unfold gr; split <;> omega

/-- Spread of s and t is t. -/
def goes (s t : List Int) : Bool := decide (spe s t = 0) && decide (spv s t = t)
def gN (s t : List Int) : Nat → Bool
  | 0 => true
  | n + 1 => (decide (ov s (n + 1) = 1) || decide (ov s (n + 1) = ov t (n + 1))) && gN s t n
theorem gN_iff (s t : List Int) : ∀ n, gN s t n = true ↔ ∀ j, 1 ≤ j → j ≤ n → ov s j = 1 ∨ ov s j = ov t j
  | 0 => by simp [gN]; intro j h1 h2; omega
  | n + 1 => by
    simp only [gN, Bool.and_eq_true, Bool.or_eq_true, decide_eq_true_eq, gN_iff s t n]
    constructor
    · rintro ⟨h1, h2⟩ j a1 a2
      by_cases e : j = n + 1
      · subst e; exact h1
      · exact h2 j a1 (by omega)
    · intro h
      exact ⟨h _ (by omega) (by omega), fun j a1 a2 => h j a1 (by omega)⟩
theorem goes_is {s t : List Int} (_hs : may s = true) (ht : may t = true) : goes s t = (decide (s.length ≤ t.length) && gN s t t.length) := by
  rw [Bool.eq_iff_iff]
  unfold goes
  simp only [Bool.and_eq_true, decide_eq_true_eq, gN_iff]
  constructor
  · rintro ⟨h1, h2⟩
    obtain ⟨f, m⟩ := spe_fit h1
    unfold spv at h2
    rw [if_pos h1] at h2
    have hl : mx s t = t.length := by
      have := spl_len s t (mx s t)
      unfold spr at h2
      rw [h2] at this; exact this.symm
    refine ⟨by unfold mx at hl; omega, fun j a1 a2 => ?_⟩
    have hf := (fa_iff s t j).1 ((fitN_iff _ _ _).1 f j a1 (by omega))
    unfold spr at h2
    rw [hl] at h2
    have g := spl_getD s t t.length (t.length - j) (by omega)
    rw [h2, show t.length - (t.length - j) = j by omega] at g
    have o := ov_at (s := t) (k := t.length - j) (by omega)
    rw [show t.length - (t.length - j) = j by omega] at o
    rw [← o] at g
    unfold gr at g
    split at g <;> omega
  · rintro ⟨h1, h2⟩
    have hl : mx s t = t.length := by unfold mx; omega
    have hf : fit s t = true := by
      unfold fit
      rw [hl]
      exact (fitN_iff _ _ _).2 fun j a1 a2 => (fa_iff _ _ _).2 (by have := h2 j a1 a2; omega)
    have e : spr s t = t := by
      unfold spr
      rw [hl]
      refine ext_getD (spl_len _ _ _) fun k hk => ?_
      rw [spl_len] at hk
      rw [spl_getD _ _ _ _ hk]
      have o := ov_at hk
      have := h2 (t.length - k) (by omega) (by omega)
      unfold gr
      split <;> omega
    have h0 : spe s t = 0 := by unfold spe; rw [if_pos hf, e, if_pos ht]
    exact ⟨h0, by unfold spv; rw [if_pos h0, e]⟩

/-- What of an index counts in s. -/
def msk : List Int → List Int → List Int
  | d :: r, i :: t => (if 1 < d then i else 0) :: msk r t
  | _, _ => []
theorem msk_len : ∀ (s i : List Int), s.length = i.length → (msk s i).length = s.length
  | [], _, _ => rfl
  | d :: r, [], h => by simp at h
  | d :: r, i :: t, h => by simp [msk, msk_len r t (by simpa using h)]
theorem msk_getD : ∀ (s i : List Int) (k : Nat), s.length = i.length → k < s.length → (msk s i).getD k 0 = if 1 < s.getD k 0 then i.getD k 0 else 0
  | [], _, k, _, h => by simp at h
  | d :: r, [], _, h, _ => by simp at h
  | d :: r, i :: t, 0, _, _ => by simp [msk]
  | d :: r, i :: t, k + 1, h, hk => by
    have := msk_getD r t k (by simpa using h) (by simpa using hk)
    simpa [msk] using this
theorem msk_inx {s i : List Int} (h : inx s i = true) : msk s i = i := by
  obtain ⟨a, b⟩ := inx_iff.1 h
  refine ext_getD ((msk_len s i a).trans a) fun k hk => ?_
  rw [msk_len s i a] at hk
  rw [msk_getD s i k a hk]
  have := b k hk
  split <;> omega
/-- The last numbers of an index of t, as one of s. -/
def lst (s i : List Int) : List Int := i.drop (i.length - s.length)
theorem lst_len {s i : List Int} (h : s.length ≤ i.length) : s.length = (lst s i).length := by unfold lst; simp; omega
theorem lst_getD {s i : List Int} (_h : s.length ≤ i.length) (k : Nat) : (lst s i).getD k 0 = i.getD (k + i.length - s.length) 0 := by
  unfold lst
  simp only [List.getD, List.getElem?_drop]
  congr 2
  omega
theorem under_inx {s t i : List Int} (hs : may s = true) (ht : may t = true) (hg : goes s t = true) (hi : inx t i = true) : inx s (msk s (lst s i)) = true := by
  rw [goes_is hs ht] at hg
  simp only [Bool.and_eq_true, decide_eq_true_eq, gN_iff] at hg
  obtain ⟨g1, g2⟩ := hg
  obtain ⟨a, b⟩ := inx_iff.1 hi
  have hl := lst_len (s := s) (i := i) (by omega)
  rw [inx_iff]
  refine ⟨(msk_len s _ hl).symm, fun k hk => ?_⟩
  rw [msk_getD s _ k hl hk, lst_getD (by omega)]
  have p := may_dim hs hk
  have o := ov_at hk
  have gg := g2 (s.length - k) (by omega) (by omega)
  have o2 := ov_at (s := t) (k := k + i.length - s.length) (by omega)
  rw [show t.length - (k + i.length - s.length) = s.length - k by omega] at o2
  have := b (k + i.length - s.length) (by omega)
  split <;> omega
/-- The place under an index. -/
def und (s i : List Int) : Int := ix s (msk s (lst s i))
theorem lst_same {s i : List Int} (h : s.length = i.length) : lst s i = i := by unfold lst; rw [h, Nat.sub_self, List.drop_zero]
theorem und_same {s i : List Int} (h : inx s i = true) : und s i = ix s i := by
  unfold und
  rw [lst_same (inx_len h), msk_inx h]

theorem ix_step_at {s i : List Int} {k : Nat} (h : s.length = i.length) (hk : k < s.length) : ix (s.drop k) (i.drop k) = i.getD k 0 * prod (s.drop (k + 1)) + ix (s.drop (k + 1)) (i.drop (k + 1)) := by
  rw [drop_getD hk, drop_getD (show k < i.length by omega)]; rfl
theorem inx_drop : ∀ {s i : List Int} (k : Nat), inx s i = true → inx (s.drop k) (i.drop k) = true
  | s, i, 0, h => by simpa using h
  | [], [], k + 1, _ => rfl
  | d :: r, i :: t, k + 1, h => by
    simp only [inx, Bool.and_eq_true] at h
    simpa using inx_drop k h.2
  | [], _ :: _, _, h => by simp [inx] at h
  | _ :: _, [], _, h => by simp [inx] at h
/-- Horner's way. -/
def Hor (s m : List Int) (V p : Int) (k : Nat) : Prop := k ≤ s.length ∧ 0 ≤ p ∧ p ≤ V ∧ p * prod (s.drop k) + ix (s.drop k) (m.drop k) = V
theorem hor_start {s m : List Int} (h : inx s m = true) : Hor s m (ix s m) 0 0 := ⟨Nat.zero_le _, Int.le_refl _, (ix_bd h).1, by simp⟩
theorem hor_step {s m : List Int} {V p : Int} {k : Nat} (h : Hor s m V p k) (hi : inx s m = true) (hp : pos s) (hk : k < s.length) : Hor s m V (p * s.getD k 0 + m.getD k 0) (k + 1) ∧ 0 ≤ p * s.getD k 0 ∧ p * s.getD k 0 ≤ V := by
  obtain ⟨a, b, c, d⟩ := h
  obtain ⟨l, g⟩ := inx_iff.1 hi
  have gk := g k hk
  have q := prod_pos (pos_drop hp (k + 1))
  have r := ix_bd (inx_drop (k + 1) hi)
  have sk := hp _ (getD_mem hk)
  rw [ix_step_at l hk, prod_drop hk, ← Int.mul_assoc] at d
  have e : p * s.getD k 0 * prod (s.drop (k + 1)) + m.getD k 0 * prod (s.drop (k + 1)) = (p * s.getD k 0 + m.getD k 0) * prod (s.drop (k + 1)) := by rw [Int.add_mul]
  have n0 := Int.mul_nonneg b (show 0 ≤ s.getD k 0 by omega)
  have n1 := Int.mul_le_mul_of_nonneg_left q (show 0 ≤ p * s.getD k 0 + m.getD k 0 by omega)
  exact ⟨⟨by omega, by omega, by omega, by omega⟩, n0, by omega⟩
theorem hor_end {s m : List Int} {V p : Int} (h : Hor s m V p s.length) : p = V := by
  obtain ⟨_, _, _, d⟩ := h
  rw [List.drop_length] at d
  simp [prod, ix] at d
  exact d
/-- The sum, from the first number on. -/
def Sum (s m : List Int) (V p : Int) (k : Nat) : Prop := k ≤ s.length ∧ 0 ≤ p ∧ p + ix (s.drop k) (m.drop k) = V
theorem sum_start {s m : List Int} : Sum s m (ix s m) 0 0 := ⟨Nat.zero_le _, Int.le_refl _, by simp⟩
theorem sum_step {s m : List Int} {V p : Int} {k : Nat} (h : Sum s m V p k) (hi : inx s m = true) (hp : pos s) (hk : k < s.length) : Sum s m V (p + m.getD k 0 * prod (s.drop (k + 1))) (k + 1) ∧ 0 ≤ m.getD k 0 * prod (s.drop (k + 1)) ∧ m.getD k 0 * prod (s.drop (k + 1)) ≤ V ∧ p + m.getD k 0 * prod (s.drop (k + 1)) ≤ V := by
  obtain ⟨a, b, d⟩ := h
  obtain ⟨l, g⟩ := inx_iff.1 hi
  have gk := g k hk
  have q := prod_pos (pos_drop hp (k + 1))
  have r := ix_bd (inx_drop (k + 1) hi)
  rw [ix_step_at l hk] at d
  have n0 := Int.mul_nonneg gk.1 (show 0 ≤ prod (s.drop (k + 1)) by omega)
  exact ⟨⟨by omega, by omega, by omega⟩, n0, by omega, by omega⟩
theorem sum_end {s m : List Int} {V p : Int} (h : Sum s m V p s.length) : p = V := by
  obtain ⟨_, _, d⟩ := h
  rw [List.drop_length] at d
  simp [ix] at d
  exact d
end Go.Proofs.YtpfcjajmfadcbaaGreat
namespace Go.Proofs.YtpfcjajmfadcbaaGreat

/-- The sum of an index times any strides. -/
def dot : List Int → List Int → Int
  | s :: r, i :: t => i * s + dot r t
  | _, _ => 0
/-- How far the last index stands from the first one. -/
def far : List Int → List Int → Int
  | s :: r, d :: t => (d - 1) * s + far r t
  | _, _ => 0
/-- Strides that may be. -/
def sts (st : List Int) : Prop := ∀ s ∈ st, 0 ≤ s ∧ s ≤ 65536
/-- A view of n words. -/
def Vw (sh st : List Int) (off n : Int) : Prop := may sh = true ∧ st.length = sh.length ∧ sts st ∧ 0 ≤ off ∧ n ≤ 65536 ∧ off < n ∧ off + far st sh < n
theorem dot_bd : ∀ {st sh i : List Int}, st.length = sh.length → sts st → inx sh i = true → 0 ≤ dot st i ∧ dot st i ≤ far st sh
  | [], [], [], _, _, _ => by simp [dot, far]
  | s :: r, d :: t, x :: u, hl, hs, hi => by
    simp only [inx, Bool.and_eq_true, decide_eq_true_eq] at hi
    obtain ⟨⟨a, b⟩, c⟩ := hi
    have h1 := (hs s (List.mem_cons_self ..)).1
    have ih := dot_bd (st := r) (sh := t) (i := u) (by simpa using hl) (fun y hy => hs y (List.mem_cons_of_mem _ hy)) c
    have h2 := Int.mul_nonneg a h1
    have h3 := Int.mul_le_mul_of_nonneg_right (show x ≤ d - 1 by omega) h1
    simp only [dot, far]
    omega
  | [], _ :: _, _, h, _, _ => by simp at h
  | _ :: _, [], _, h, _, _ => by simp at h
  | [], [], _ :: _, _, _, h => by simp [inx] at h
  | _ :: _, _ :: _, [], _, _, h => by simp [inx] at h
theorem far_nn : ∀ {st sh : List Int}, sts st → pos sh → 0 ≤ far st sh
  | [], _, _, _ => by simp [far]
  | _ :: _, [], _, _ => by simp [far]
  | s :: r, d :: t, hs, hp => by
    have h1 := (hs s (List.mem_cons_self ..)).1
    have h2 := hp d (List.mem_cons_self ..)
    have ih := far_nn (st := r) (sh := t) (fun y hy => hs y (List.mem_cons_of_mem _ hy)) (fun y hy => hp y (List.mem_cons_of_mem _ hy))
    have := Int.mul_nonneg (show 0 ≤ d - 1 by omega) h1
    simp only [far]
    omega
/-- Every index stands at a word. -/
theorem vw_at {sh st i : List Int} {off n : Int} (h : Vw sh st off n) (hi : inx sh i = true) : 0 ≤ off + dot st i ∧ off + dot st i < n := by
  obtain ⟨_, hl, hs, h0, _, _, h2⟩ := h
  have := dot_bd hl hs hi
  omega
/-- The plain view's places are the shape's own. -/
theorem dot_stl : ∀ (sh i : List Int), sh.length = i.length → dot (stl sh) i = ix sh i
  | [], [], _ => rfl
  | _ :: r, x :: t, h => by simp only [stl, dot, ix, dot_stl r t (by simpa using h)]
  | [], _ :: _, h => by simp at h
  | _ :: _, [], h => by simp at h
theorem far_stl : ∀ (sh : List Int), far (stl sh) sh = prod sh - 1
  | [] => rfl
  | d :: r => by
    simp only [stl, far, prod, far_stl r, Int.sub_mul]
    omega
theorem dot_step {st i : List Int} {k : Nat} (h : st.length = i.length) (hk : k < st.length) : dot (st.drop k) (i.drop k) = i.getD k 0 * st.getD k 0 + dot (st.drop (k + 1)) (i.drop (k + 1)) := by
  rw [drop_getD hk, drop_getD (show k < i.length by omega)]; rfl
theorem far_step {st sh : List Int} {k : Nat} (h : st.length = sh.length) (hk : k < st.length) : far (st.drop k) (sh.drop k) = (sh.getD k 0 - 1) * st.getD k 0 + far (st.drop (k + 1)) (sh.drop (k + 1)) := by
  rw [drop_getD hk, drop_getD (show k < sh.length by omega)]; rfl
/-- A place, from the first number on: n so far. -/
theorem dot_all {st i : List Int} : dot (st.drop st.length) (i.drop st.length) = 0 := by rw [List.drop_length]; simp [dot]
/-- A list in another order. -/
def prm (l : List Int) (axes : List Nat) : List Int := axes.map fun a => l.getD a 0
theorem prm_len (l : List Int) (axes : List Nat) : (prm l axes).length = axes.length := by simp [prm]
theorem prm_getD {l : List Int} {axes : List Nat} {k : Nat} (h : k < axes.length) : (prm l axes).getD k 0 = l.getD axes[k] 0 := by simp [prm, List.getD, List.getElem?_eq_getElem h]
end Go.Proofs.YtpfcjajmfadcbaaGreat
namespace Go.Proofs.YtpfcjajmfadcbaaGreat

def stb : List Int → Bool
  | [] => true
  | s :: r => decide (0 ≤ s) && decide (s ≤ 65536) && stb r
theorem stb_iff : ∀ {st : List Int}, stb st = true ↔ sts st
  | [] => by simp [stb, sts]
  | s :: r => by
    simp only [stb, Bool.and_eq_true, decide_eq_true_eq, stb_iff (st := r), sts, List.mem_cons, forall_eq_or_imp, and_assoc]
/-- All indexes stand from 0 to below n. -/
def sty (sh st : List Int) (off n : Int) : Bool := decide (0 ≤ off) && decide (off < n) && stb st && decide (off + far st sh < n)
/-- A view of n words? -/
def vwb (sh st : List Int) (off n : Int) : Bool := may sh && decide (st.length = sh.length) && decide (n ≤ 65536) && sty sh st off n
theorem vwb_iff {sh st : List Int} {off n : Int} : vwb sh st off n = true ↔ Vw sh st off n := by
  unfold vwb sty Vw
  simp only [Bool.and_eq_true, decide_eq_true_eq, stb_iff]
  constructor
  · rintro ⟨⟨⟨a, b⟩, c⟩, ⟨⟨d, e⟩, f⟩, g⟩; exact ⟨a, b, f, d, c, e, g⟩
  · rintro ⟨a, b, f, d, c, e, g⟩; exact ⟨⟨⟨a, b⟩, c⟩, ⟨⟨d, e⟩, f⟩, g⟩
theorem vwb_sty {sh st : List Int} {off n : Int} (a : may sh = true) (b : st.length = sh.length) (c : n ≤ 65536) : vwb sh st off n = sty sh st off n := by
  unfold vwb; rw [a, decide_eq_true b, decide_eq_true c]; simp
theorem vwb_no1 {sh st : List Int} {off n : Int} (a : may sh = false) : vwb sh st off n = false := by unfold vwb; rw [a]; simp
theorem vwb_no2 {sh st : List Int} {off n : Int} (a : ¬ st.length = sh.length) : vwb sh st off n = false := by unfold vwb; rw [decide_eq_false a]; simp
theorem vwb_no3 {sh st : List Int} {off n : Int} (a : ¬ n ≤ 65536) : vwb sh st off n = false := by unfold vwb; rw [decide_eq_false a]; simp
theorem vwb_no4 {sh st : List Int} {off n : Int} (a : sty sh st off n = false) : vwb sh st off n = false := by unfold vwb; rw [a]; simp
theorem sty_no1 {sh st : List Int} {off n : Int} (a : ¬ 0 ≤ off) : sty sh st off n = false := by unfold sty; rw [decide_eq_false a]; simp
theorem sty_no2 {sh st : List Int} {off n : Int} (a : ¬ off < n) : sty sh st off n = false := by unfold sty; rw [decide_eq_false a]; simp
theorem sty_no3 {sh st : List Int} {off n : Int} {k : Nat} (hk : k < st.length) (a : ¬ (0 ≤ st.getD k 0 ∧ st.getD k 0 ≤ 65536)) : sty sh st off n = false := by
  cases h : sty sh st off n with
  | false => rfl
  | true =>
    unfold sty at h
    simp only [Bool.and_eq_true, decide_eq_true_eq, stb_iff] at h
    exact absurd (h.1.2 _ (getD_mem hk)) a
/-- Where the last index stands, so far. -/
def Sty (sh st : List Int) (off _n L : Int) (k : Nat) : Prop := k ≤ st.length ∧ 0 ≤ L ∧ L + far (st.drop k) (sh.drop k) = off + far st sh ∧ ∀ j, j < k → 0 ≤ st.getD j 0 ∧ st.getD j 0 ≤ 65536
theorem sty_start {sh st : List Int} {off n : Int} (a : 0 ≤ off) : Sty sh st off n off 0 := ⟨Nat.zero_le _, a, by simp, fun j hj => absurd hj (Nat.not_lt_zero _)⟩
theorem sty_step {sh st : List Int} {off n L : Int} {k : Nat} (h : Sty sh st off n L k) (hl : st.length = sh.length) (hd : pos sh) (hk : k < st.length) (h0 : 0 ≤ st.getD k 0) (h1 : st.getD k 0 ≤ 65536) : Sty sh st off n (L + (sh.getD k 0 - 1) * st.getD k 0) (k + 1) := by
  obtain ⟨a, b, c, d⟩ := h
  have hp := hd _ (getD_mem (show k < sh.length by omega))
  have := Int.mul_nonneg (show 0 ≤ sh.getD k 0 - 1 by omega) h0
  rw [far_step hl hk] at c
  refine ⟨by omega, by omega, by omega, fun j hj => ?_⟩
  by_cases e : j = k
  · subst e; exact ⟨h0, h1⟩
  · exact d j (by omega)
theorem sty_bad {sh st : List Int} {off n L : Int} {k : Nat} (h : Sty sh st off n L k) (hl : st.length = sh.length) (hd : pos sh) (hk : k < st.length) (g : n - L ≤ (sh.getD k 0 - 1) * st.getD k 0) : sty sh st off n = false := by
  cases e : sty sh st off n with
  | false => rfl
  | true =>
    unfold sty at e
    simp only [Bool.and_eq_true, decide_eq_true_eq, stb_iff] at e
    obtain ⟨a, b, c, d⟩ := h
    rw [far_step hl hk] at c
    have := far_nn (st := st.drop (k + 1)) (sh := sh.drop (k + 1)) (fun s hs => e.1.2 s (List.mem_of_mem_drop hs)) (pos_drop hd _)
    omega
theorem sty_end {sh st : List Int} {off n L : Int} {k : Nat} (h : Sty sh st off n L k) (hl : st.length = sh.length) (hk : ¬ k < st.length) (h0 : 0 ≤ off) (h1 : off < n) : sty sh st off n = decide (L < n) := by
  obtain ⟨a, b, c, d⟩ := h
  have hk : k = st.length := by omega
  subst hk
  rw [List.drop_length, hl, List.drop_length] at c
  simp only [far, Int.add_zero] at c
  unfold sty
  rw [← c, decide_eq_true h0, decide_eq_true h1, stb_iff.2 (fun s hs => by
    obtain ⟨i, hi, rfl⟩ := List.mem_iff_getElem.1 hs
    have := d i hi
    simpa [List.getD, List.getElem?_eq_getElem hi] using this)]
  simp
theorem sty_bd {sh st : List Int} {off n L : Int} {k : Nat} (h : Sty sh st off n L k) : 0 ≤ L := h.2.1

/-- The numbers 0 to below n, each in l? -/
def axN (l : List Int) : Nat → Bool
  | 0 => true
  | n + 1 => axN l n && decide ((n : Int) ∈ l)
theorem axN_iff {l : List Int} : ∀ {n : Nat}, axN l n = true ↔ ∀ i, i < n → (i : Int) ∈ l
  | 0 => by simp [axN]
  | n + 1 => by
    simp only [axN, Bool.and_eq_true, decide_eq_true_eq, axN_iff (n := n)]
    constructor
    · rintro ⟨a, b⟩ i hi
      by_cases e : i = n
      · subst e; exact b
      · exact a i (by omega)
    · intro h; exact ⟨fun i hi => h i (by omega), h n (by omega)⟩
/-- The axes 0 to n - 1, each once? -/
def axs (l : List Int) (n : Nat) : Bool := decide (l.length = n) && axN l n
theorem axs_len {l : List Int} {n : Nat} (h : axs l n = true) : l.length = n := by
  unfold axs at h
  simp only [Bool.and_eq_true, decide_eq_true_eq] at h
  exact h.1
theorem axs_perm : ∀ (n : Nat) (l : List Int), l.length = n → (∀ i, i < n → (i : Int) ∈ l) → (∀ x ∈ l, 0 ≤ x ∧ x < n) ∧ l.Nodup
  | 0, l, h, _ => by
    have : l = [] := List.eq_nil_of_length_eq_zero h
    subst this; simp
  | n + 1, l, h, hm => by
    have hn := hm n (by omega)
    have ih := axs_perm n (l.erase n) (by rw [List.length_erase_of_mem hn, h]; rfl) (fun i hi => (List.mem_erase_of_ne (by omega)).2 (hm i (by omega)))
    have hp := List.perm_cons_erase hn
    refine ⟨fun x hx => ?_, hp.nodup_iff.2 (List.nodup_cons.2 ⟨fun hx => ?_, ih.2⟩)⟩
    · rcases List.mem_cons.1 (hp.mem_iff.1 hx) with rfl | hx
      · omega
      · have := ih.1 x hx; omega
    · have := ih.1 _ hx; omega
theorem axs_all {l : List Int} {n : Nat} (h : axs l n = true) : (∀ x ∈ l, 0 ≤ x ∧ x < n) ∧ l.Nodup := by
  have hl := axs_len h
  unfold axs at h
  simp only [Bool.and_eq_true, axN_iff] at h
  exact axs_perm n l hl h.2
theorem axs_at {l : List Int} {n k : Nat} (h : axs l n = true) (hk : k < l.length) : ∃ a : Nat, l.getD k 0 = (a : Int) ∧ a < n := by
  have := (axs_all h).1 _ (getD_mem hk)
  exact ⟨(l.getD k 0).toNat, by omega, by omega⟩
/-- A list in the order of axes. -/
def trl (l ax : List Int) : List Int := ax.map fun a => l.getD a.toNat 0
theorem trl_len (l ax : List Int) : (trl l ax).length = ax.length := by simp [trl]
theorem trl_getD {l ax : List Int} {k : Nat} (h : k < ax.length) : (trl l ax).getD k 0 = l.getD (ax.getD k 0).toNat 0 := by simp [trl, List.getD, List.getElem?_eq_getElem h]
theorem trl_take (l ax : List Int) (k : Nat) : trl l (ax.take k) = (trl l ax).take k := by simp [trl]
theorem trl_snoc {l ax : List Int} {k a : Nat} (h : k < ax.length) (e : ax.getD k 0 = (a : Int)) : (trl l ax).take (k + 1) = (trl l ax).take k ++ [l.getD a 0] := by
  have hk : k < (trl l ax).length := by rw [trl_len]; exact h
  rw [List.take_succ_eq_append_getElem hk]
  have := trl_getD (l := l) h
  rw [e, Int.toNat_natCast] at this
  rw [List.getD_eq_getElem?_getD, List.getElem?_eq_getElem hk] at this
  rw [← this]; rfl

/-- Transpose's answers: the error; the lists. -/
def tre (sh st : List Int) (off : Int) (ax : List Int) : Int := if vwb sh st off 65536 then (if axs ax sh.length then 0 else 2) else 1
/-- Slice's. -/
def slb (sh : List Int) (x y z : Int) : Bool := decide (0 ≤ x) && decide (x < sh.length) && decide (0 ≤ y) && decide (y < z) && decide (z ≤ sh.getD x.toNat 0)
def sle (sh st : List Int) (off x y z : Int) : Int := if vwb sh st off 65536 then (if slb sh x y z then 0 else 2) else 1
/-- Widened strides. -/
def wsn (sh st s : List Int) : Nat → List Int
  | 0 => List.replicate s.length 0
  | k + 1 => if sh.getD k 0 = s.getD (k + (s.length - sh.length)) 0 then (wsn sh st s k).set (k + (s.length - sh.length)) (st.getD k 0) else wsn sh st s k
theorem wsn_len (sh st s : List Int) : ∀ k, (wsn sh st s k).length = s.length
  | 0 => by simp [wsn]
  | k + 1 => by
    unfold wsn
    split
    · rw [List.length_set, wsn_len sh st s k]
    · exact wsn_len sh st s k
def wst (sh st s : List Int) : List Int := wsn sh st s sh.length
def wie (sh st : List Int) (off : Int) (s : List Int) : Int := if vwb sh st off 65536 && may s then (if goes sh s then 0 else 2) else 1
/-- Reshape's. -/
def pln (sh st : List Int) (off : Int) : Bool := decide (off = 0) && decide (st = stl sh)
def ree (sh st : List Int) (off : Int) (s : List Int) : Int := if vwb sh st off 65536 && may s then (if decide (prod sh = prod s) && pln sh st off then 0 else 2) else 1
def ofe (s : List Int) : Int := if may s then 0 else 1
/-- A list, where there is no error. -/
def unl (e : Int) (l : List Int) : List Int := if e = 0 then l else []
def unn (e n : Int) : Int := if e = 0 then n else 0
theorem goes_len {s t : List Int} (hs : may s = true) (ht : may t = true) (hg : goes s t = true) : s.length ≤ t.length := by
  rw [goes_is hs ht] at hg
  simp only [Bool.and_eq_true, decide_eq_true_eq] at hg
  exact hg.1
end Go.Proofs.YtpfcjajmfadcbaaGreat
namespace Go.Proofs.YtpfcjajmfadcbaaGreat
open Go.RowKit

/-- What a slice of whole numbers reads as. -/
def Ld (w : World) (v : Value) (ls : List Int) : Prop := ∃ o c, v = .slice o ls.length c ∧ ls.length ≤ c ∧
  ∀ i, i < ls.length → ∃ b f, o = some ⟨b, f, none⟩ ∧ b < w.heap.size ∧ w.cell? ⟨b, f + i, none⟩ = some (.int .i64 (ls.getD i 0))
theorem Ld.keep {w w' : World} {B : Nat} {v : Value} {ls : List Int} (h : Ld w v ls) (hB : w.heap.size ≤ B) (hb : Below B w w') : Ld w' v ls := by
  obtain ⟨o, c, rfl, hc, h⟩ := h
  refine ⟨o, c, rfl, hc, fun i hi => ?_⟩
  obtain ⟨b, f, ho, hl, hx⟩ := h i hi
  exact ⟨b, f, ho, Nat.lt_of_lt_of_le hl hb.size, (hb.cell (p := ⟨b, f + i, none⟩) (Nat.lt_of_lt_of_le hl hB)).trans hx⟩
theorem Ld.below {w w' : World} {v : Value} {ls : List Int} (h : Ld w v ls) (hb : Below w.heap.size w w') : Ld w' v ls := h.keep (Nat.le_refl _) hb
theorem Ld.nil (w : World) : Ld w (.slice none 0 0) [] := ⟨none, 0, rfl, Nat.le_refl _, fun i hi => by simp at hi⟩
/-- The same slice, in an earlier world of which it lay below. -/
theorem Ld.form {w : World} {v : Value} {ls : List Int} (h : Ld w v ls) : ∃ o c, v = .slice o ls.length c ∧ ls.length ≤ c ∧
  ∀ i, i < ls.length → ∃ b f, o = some ⟨b, f, none⟩ ∧ b < w.heap.size ∧ w.cell? ⟨b, f + i, none⟩ = some (.int .i64 (ls.getD i 0)) := h

/-- A block that is known whole. -/
def Blk (w : World) (g : Nat) (t : TypeId) (cs : Array Value) : Prop := w.heap[g]? = some (.cells cs t (0, 0))
section
variable {w w' : World} {g : Nat} {t : TypeId} {cs : Array Value}
theorem Blk.lt (h : Blk w g t cs) : g < w.heap.size := by
  rcases Nat.lt_or_ge g w.heap.size with hlt | hge
  · exact hlt
  · unfold Blk at h; rw [Array.getElem?_eq_none hge] at h; cases h
theorem Blk.cell (h : Blk w g t cs) (i : Nat) : w.cell? ⟨g, i, none⟩ = cs[i]? := cell_of_row w g i cs t (0, 0) h
theorem Blk.frozen (h : Blk w g t cs) (i : Nat) : w.frozen? ⟨g, i, none⟩ = false := by
  unfold Blk at h
  simp [World.frozen?, h]
theorem Blk.new (w : World) (t : TypeId) (cs : Array Value) : Blk (w.alloc (.cells cs t)) w.heap.size t cs := heap_alloc_new w _
theorem Blk.drew (h : Blk w g t cs) : Blk w.drew g t cs := h
theorem Blk.alloc (h : Blk w g t cs) (o : Obj) : Blk (w.alloc o) g t cs := (Below.heap_alloc w o g h.lt).trans h
theorem Blk.set_ (h : Blk w g t cs) (i : Nat) (u : Value) : Blk (w.setCell ⟨g, i, none⟩ u) g t (cs.setIfInBounds i u) := by
  unfold Blk at h ⊢
  simp [World.setCell, Array.getElem?_modify, h]
theorem Blk.far (h : Blk w g t cs) {p : Addr} (hp : g ≠ p.block) (u : Value) : Blk (w.setCell p u) g t cs := (Below.heap_setCell w p u g hp).trans h
theorem Blk.below {B : Nat} (h : Blk w g t cs) (hb : Below B w w') (hg : g < B) : Blk w' g t cs := (hb.block g hg).trans h
end

/-- The cells of a list. -/
def ints (ls : List Int) : List Value := ls.map (Value.int .i64 ·)
theorem ints_at {ls : List Int} {i : Nat} (h : i < ls.length) : (ints ls).toArray[i]? = some (.int .i64 (ls.getD i 0)) := by
  simp [ints, List.getD, List.getElem?_eq_getElem h]
/-- A block that holds a list. -/
theorem Ld.of_blk {w : World} {g : Nat} {t : TypeId} {ls : List Int} (h : Blk w g t (ints ls).toArray) {c : Nat} (hc : ls.length ≤ c) : Ld w (.slice (some ⟨g, 0, none⟩) ls.length c) ls :=
  ⟨_, c, rfl, hc, fun i hi => ⟨g, 0, rfl, h.lt, by rw [Nat.zero_add, h.cell, ints_at hi]⟩⟩
theorem made_ints (n : Nat) : madeCells #[.int .i64 0] n = (ints (List.replicate n 0)).toArray := by
  apply Array.ext
  · simp [madeCells, ints]
  · intro i h1 h2
    simp [madeCells, ints, Nat.mod_one]
theorem ints_set (ls : List Int) (k : Nat) (v : Int) : (ints ls).toArray.setIfInBounds k (.int .i64 v) = (ints (ls.set k v)).toArray := by
  apply Array.ext
  · simp [ints]
  · intro i h1 h2
    by_cases e : k = i
    · subst e; simp [ints]
    · simp only [List.setIfInBounds_toArray, List.getElem_toArray, List.getElem_set, ints, List.getElem_map]
      simp [e]
theorem Blk.put {w : World} {g : Nat} {t : TypeId} {ls : List Int} (h : Blk w g t (ints ls).toArray) (k : Nat) (v : Int) : Blk (w.setCell ⟨g, k, none⟩ (.int .i64 v)) g t (ints (ls.set k v)).toArray := by
  rw [← ints_set]; exact h.set_ k _
theorem set_getD_self {ls : List Int} {k : Nat} {v : Int} (h : k < ls.length) : (ls.set k v).getD k 0 = v := by simp [List.getD, List.getElem?_set_self h]
theorem set_getD_ne {ls : List Int} {k j : Nat} {v : Int} (h : k ≠ j) : (ls.set k v).getD j 0 = ls.getD j 0 := by simp [List.getD, List.getElem?_set_ne h]
end Go.Proofs.YtpfcjajmfadcbaaGreat
namespace Go.Proofs.YtpfcjajmfadcbaaGreat
open Go.RowKit

set_option maxRecDepth 100000 in
set_option maxHeartbeats 2000000 in
theorem count_ok (v : Value) (ls : List Int) (w : World) (h : Ld w v ls) (hm : may ls = true) :
    Calls Tryz.prog 43 #[v] w fun e w' => e = .returned (.tuple #[.int .i64 (prod ls), .int .i64 0]) ∧ w = w' := by
  obtain ⟨o, c, rfl, _, hx⟩ := h
  have HX := Lib.hid hx
  have hl := may_len hm
  have HC := Lib.hid (may_cnt hm)
  have HP := Lib.hid (may_prod hm)
  clear hx hm
  go_enter Tryz.func43, Tryz.ntmps43
  go_wp2
  go_loop [4, 12] (fun s4 s12 => ∃ (k : Nat) (m : Int), k ≤ ls.length ∧ 1 ≤ m ∧ m ≤ 65536 ∧ s12 = .int .i64 k ∧ s4 = .int .i64 m ∧ Hid (cnt m (ls.drop k) = cnt 1 ls)) (fun _ s12 => ls.length - (intOf s12).toNat)
  case atStart => exact ⟨0, 1, Nat.zero_le _, by decide, by decide, rfl, rfl, rfl⟩
  case round =>
    obtain ⟨k, m, hk, m0, m1, rfl, rfl, HM⟩ := hrel
    by_cases hlt : k < ls.length
    · obtain ⟨b, f, rfl, hb, hc⟩ := HX.out k hlt
      have st := cnt_step hlt m
      rw [HM.out, HC.out] at st
      obtain ⟨d, hd⟩ : ∃ d, d = ls.getD k 0 := ⟨_, rfl⟩
      rw [← hd] at st hc
      have hp := HP.out
      have g : 1 ≤ d ∧ d ≤ 4096 ∧ d * m ≤ 65536 := Classical.byContradiction fun g => by rw [if_neg g] at st; omega
      rw [if_pos g] at st
      obtain ⟨g1, g2, g3⟩ := g
      have q : ¬ 65536 / m < d := by rw [quo_lt m0]; omega
      have m2 : 1 ≤ m * d := by have := Int.mul_le_mul m0 g1 (by decide) (by omega); omega
      have m3 : m * d ≤ 65536 := by rw [Int.mul_comm]; omega
      have ST := Lib.hid st
      clear st hd hp g3
      go_wp2
      refine ⟨⟨k + 1, m * d, by omega, m2, m3, by go_num, rfl, by unfold Hid; rw [← ST.out, HC.out]⟩, by simp [intOf]; omega⟩
    · obtain rfl : m = prod ls := by
        have := HM.out
        rw [List.drop_eq_nil_of_le (by omega), HC.out] at this
        exact this
      go_wp2
      go_ret2
      exact ⟨rfl, rfl⟩

set_option maxRecDepth 100000 in
set_option maxHeartbeats 2000000 in
theorem count_no (v : Value) (ls : List Int) (w : World) (h : Ld w v ls) (hm : may ls = false) :
    Calls Tryz.prog 43 #[v] w fun e w' => e = .returned (.tuple #[.int .i64 0, .int .i64 1]) ∧ w = w' := by
  obtain ⟨o, c, rfl, _, hx⟩ := h
  have HX := Lib.hid hx
  clear hx
  by_cases h4 : 4 < ls.length
  · clear hm
    go_enter Tryz.func43, Tryz.ntmps43
    go_wp2
    go_ret2
    exact ⟨rfl, rfl⟩
  have HC : Hid (cnt 1 ls = 0) := by rcases may_no hm with a | a
                                     · exact absurd a h4
                                     · exact a
  clear hm
  go_enter Tryz.func43, Tryz.ntmps43
  go_wp2
  go_loop [4, 12] (fun s4 s12 => ∃ (k : Nat) (m : Int), k ≤ ls.length ∧ 1 ≤ m ∧ m ≤ 65536 ∧ s12 = .int .i64 k ∧ s4 = .int .i64 m ∧ Hid (cnt m (ls.drop k) = cnt 1 ls)) (fun _ s12 => ls.length - (intOf s12).toNat)
  case atStart => exact ⟨0, 1, Nat.zero_le _, by decide, by decide, rfl, rfl, rfl⟩
  case round =>
    obtain ⟨k, m, hk, m0, m1, rfl, rfl, HM⟩ := hrel
    by_cases hlt : k < ls.length
    · obtain ⟨b, f, rfl, hb, hc⟩ := HX.out k hlt
      have st := cnt_step hlt m
      rw [HM.out, HC.out] at st
      obtain ⟨d, hd⟩ : ∃ d, d = ls.getD k 0 := ⟨_, rfl⟩
      rw [← hd] at st hc
      by_cases g1 : d < 1
      · clear st hd
        go_wp2
        go_ret2
        exact ⟨rfl, rfl⟩
      by_cases g2 : 4096 < d
      · clear st hd
        go_wp2
        go_ret2
        exact ⟨rfl, rfl⟩
      by_cases g3 : 65536 / m < d
      · clear st hd
        go_wp2
        go_ret2
        exact ⟨rfl, rfl⟩
      have g4 : d * m ≤ 65536 := Classical.byContradiction fun g => g3 ((quo_lt m0).2 g)
      rw [if_pos ⟨by omega, by omega, g4⟩] at st
      have m2 : 1 ≤ m * d := by have := Int.mul_le_mul m0 (show 1 ≤ d by omega) (by decide) (by omega); omega
      have m3 : m * d ≤ 65536 := by rw [Int.mul_comm]; omega
      have ST := Lib.hid st
      clear st hd g4
      go_wp2
      refine ⟨⟨k + 1, m * d, by omega, m2, m3, by go_num, rfl, by unfold Hid; rw [← ST.out, HC.out]⟩, by simp [intOf]; omega⟩
    · exfalso
      have := HM.out
      rw [List.drop_eq_nil_of_le (by omega), HC.out] at this
      simp [cnt] at this
      omega

set_option maxRecDepth 100000 in
theorem check_ok (v : Value) (ls : List Int) (w : World) (h : Ld w v ls) (hm : may ls = true) :
    Calls Tryz.prog 55 #[v] w fun e w' => e = .returned (.int .i64 0) ∧ w = w' := by
  have C := Lib.hid (count_ok v ls w h hm)
  clear h hm
  go_enter Tryz.func55, Tryz.ntmps55
  go_wp2_with (go_at_call 43; (with_reducible refine C.out.mono ?_); rintro e w' ⟨rfl, rfl⟩)
  go_ret
  exact ⟨rfl, rfl⟩
set_option maxRecDepth 100000 in
theorem check_no (v : Value) (ls : List Int) (w : World) (h : Ld w v ls) (hm : may ls = false) :
    Calls Tryz.prog 55 #[v] w fun e w' => e = .returned (.int .i64 1) ∧ w = w' := by
  have C := Lib.hid (count_no v ls w h hm)
  clear h hm
  go_enter Tryz.func55, Tryz.ntmps55
  go_wp2_with (go_at_call 43; (with_reducible refine C.out.mono ?_); rintro e w' ⟨rfl, rfl⟩)
  go_ret
  exact ⟨rfl, rfl⟩
end Go.Proofs.YtpfcjajmfadcbaaGreat
