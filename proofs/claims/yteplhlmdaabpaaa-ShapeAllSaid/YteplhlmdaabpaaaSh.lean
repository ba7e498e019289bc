/-
  Shapes as lists of whole numbers: counts, strides, indexes, places; plain mathematics.
-/
import Derived.Test.YteplhlmdaabpaaaRows
namespace Go.Proofs.Yteplhlmdaabpaaa

def prod : List Int → Int
  | [] => 1
  | d :: r => d * prod r
/-- c times the dimensions, as far as each is one and the product is not too great; else 0. -/
def cnt (c : Int) : List Int → Int
  | [] => c
  | d :: r => if 1 ≤ d ∧ d ≤ 4096 ∧ d * c ≤ 65536 then cnt (c * d) r else 0
def may (ls : List Int) : Bool := decide (ls.length ≤ 4) && decide (cnt 1 ls ≠ 0)
/-- All from 1 to 4096. -/
def dms (ls : List Int) : Prop := ∀ d ∈ ls, 1 ≤ d ∧ d ≤ 4096
def pos (ls : List Int) : Prop := ∀ d ∈ ls, 1 ≤ d

theorem drop_getD {ls : List Int} {i : Nat} (h : i < ls.length) : ls.drop i = ls.getD i 0 :: ls.drop (i + 1) := by
  rw [List.drop_eq_getElem_cons h]; simp [List.getD, List.getElem?_eq_getElem h]
theorem getD_mem {ls : List Int} {i : Nat} (h : i < ls.length) : ls.getD i 0 ∈ ls := by
  simp [List.getD, List.getElem?_eq_getElem h]
theorem dms_pos {ls : List Int} (h : dms ls) : pos ls := fun d hd => (h d hd).1
theorem prod_pos : ∀ {ls : List Int}, pos ls → 1 ≤ prod ls
  | [], _ => Int.le_refl _
  | d :: r, h => by
    have h1 := h d (List.mem_cons_self ..)
    have h2 := prod_pos (ls := r) fun x hx => h x (List.mem_cons_of_mem _ hx)
    have := Int.mul_le_mul h1 h2 (by decide) (by omega)
    simpa [prod] using this
theorem prod_drop_le : ∀ {ls : List Int} (k : Nat), pos ls → prod (ls.drop k) ≤ prod ls
  | [], k, _ => by simp
  | d :: r, 0, _ => Int.le_refl _
  | d :: r, k + 1, h => by
    have h1 := h d (List.mem_cons_self ..)
    have hr : pos r := fun x hx => h x (List.mem_cons_of_mem _ hx)
    have h2 := prod_drop_le (ls := r) k hr
    have h3 := prod_pos hr
    have := Int.mul_le_mul_of_nonneg_right h1 (show 0 ≤ prod r by omega)
    simp only [List.drop_succ_cons, prod]
    omega
theorem pos_drop {ls : List Int} (h : pos ls) (k : Nat) : pos (ls.drop k) := fun x hx => h x (List.mem_of_mem_drop hx)
theorem prod_dvd : ∀ (ls : List Int) (k : Nat), ∃ q, prod ls = prod (ls.drop k) * q
  | [], _ => ⟨1, by simp⟩
  | d :: r, 0 => ⟨1, by simp⟩
  | d :: r, k + 1 => by
    obtain ⟨q, hq⟩ := prod_dvd r k
    refine ⟨d * q, ?_⟩
    rw [List.drop_succ_cons, prod, hq]
    simp only [Int.mul_left_comm]
theorem prod_drop {ls : List Int} {k : Nat} (h : k < ls.length) : prod (ls.drop k) = ls.getD k 0 * prod (ls.drop (k + 1)) := by rw [drop_getD h]; rfl

theorem cnt_cases : ∀ (ls : List Int) (c : Int), 1 ≤ c → c ≤ 65536 → cnt c ls = 0 ∨ (1 ≤ cnt c ls ∧ cnt c ls ≤ 65536 ∧ cnt c ls = c * prod ls ∧ dms ls)
  | [], c, h0, h1 => .inr ⟨h0, h1, by simp [cnt, prod], fun d hd => by cases hd⟩
  | d :: r, c, h0, h1 => by
    unfold cnt
    split
    · rename_i h
      obtain ⟨a, b, g⟩ := h
      have h2 := Int.mul_le_mul h0 a (by decide) (by omega)
      rw [Int.mul_comm] at g
      rcases cnt_cases r (c * d) (by omega) g with k | ⟨k1, k2, k3, k4⟩
      · exact .inl k
      · refine .inr ⟨k1, k2, by rw [k3, prod, Int.mul_assoc], fun x hx => ?_⟩
        rcases List.mem_cons.1 hx with rfl | hx
        · exact ⟨a, b⟩
        · exact k4 x hx
    · exact .inl rfl
theorem cnt_of : ∀ (ls : List Int) (c : Int), 1 ≤ c → dms ls → c * prod ls ≤ 65536 → cnt c ls = c * prod ls
  | [], c, _, _, _ => by simp [cnt, prod]
  | d :: r, c, h0, h, hp => by
    have h1 := h d (List.mem_cons_self ..)
    have hr : dms r := fun x hx => h x (List.mem_cons_of_mem _ hx)
    have h3 := prod_pos (dms_pos hr)
    have e : c * prod (d :: r) = c * d * prod r := by rw [prod, Int.mul_assoc]
    have h2 := Int.mul_le_mul h0 h1.1 (by decide) (by omega)
    have h4 := Int.mul_le_mul_of_nonneg_left h3 (show 0 ≤ c * d by omega)
    rw [e] at hp ⊢
    unfold cnt
    rw [if_pos ⟨h1.1, h1.2, by rw [Int.mul_comm]; omega⟩]
    exact cnt_of r (c * d) (by omega) hr hp
theorem may_iff (ls : List Int) : may ls = true ↔ ls.length ≤ 4 ∧ dms ls ∧ prod ls ≤ 65536 := by
  unfold may
  simp only [Bool.and_eq_true, decide_eq_true_eq]
  constructor
  · rintro ⟨a, b⟩
    rcases cnt_cases ls 1 (by decide) (by decide) with h | ⟨_, h2, h3, h4⟩
    · exact absurd h b
    · exact ⟨a, h4, by omega⟩
  · rintro ⟨a, b, c⟩
    refine ⟨a, ?_⟩
    rw [cnt_of ls 1 (by decide) b (by omega)]
    have := prod_pos (dms_pos b)
    omega
theorem may_cnt {ls : List Int} (h : may ls = true) : cnt 1 ls = prod ls := by
  obtain ⟨_, b, c⟩ := (may_iff ls).1 h
  rw [cnt_of ls 1 (by decide) b (by omega), Int.one_mul]
theorem may_prod {ls : List Int} (h : may ls = true) : 1 ≤ prod ls ∧ prod ls ≤ 65536 := by
  obtain ⟨_, b, c⟩ := (may_iff ls).1 h
  exact ⟨prod_pos (dms_pos b), c⟩
theorem may_len {ls : List Int} (h : may ls = true) : ls.length ≤ 4 := ((may_iff ls).1 h).1
theorem may_dms {ls : List Int} (h : may ls = true) : dms ls := ((may_iff ls).1 h).2.1
theorem may_pos {ls : List Int} (h : may ls = true) : pos ls := dms_pos (may_dms h)
theorem may_no {ls : List Int} (h : may ls = false) : 4 < ls.length ∨ cnt 1 ls = 0 := by
  unfold may at h
  simp only [Bool.and_eq_false_iff, decide_eq_false_iff_not] at h
  rcases h with h | h
  · exact .inl (by omega)
  · exact .inr (by omega)
theorem may_yes {ls : List Int} (a : ls.length ≤ 4) (b : cnt 1 ls ≠ 0) : may ls = true := by
  unfold may; simp [a, b]
theorem may_not {ls : List Int} (b : cnt 1 ls = 0) : may ls = false := by
  unfold may; simp [b]
theorem may_long {ls : List Int} (b : 4 < ls.length) : may ls = false := by
  unfold may
  have : ¬ ls.length ≤ 4 := by omega
  simp [this]
theorem may_dim {ls : List Int} (h : may ls = true) {i : Nat} (hi : i < ls.length) : 1 ≤ ls.getD i 0 ∧ ls.getD i 0 ≤ 4096 := may_dms h _ (getD_mem hi)
theorem may_drop {ls : List Int} (h : may ls = true) (k : Nat) : 1 ≤ prod (ls.drop k) ∧ prod (ls.drop k) ≤ 65536 :=
  ⟨prod_pos (pos_drop (may_pos h) k), Int.le_trans (prod_drop_le k (may_pos h)) (may_prod h).2⟩

/-- One step of a count. -/
theorem cnt_step {ls : List Int} {i : Nat} (h : i < ls.length) (c : Int) : cnt c (ls.drop i) = if 1 ≤ ls.getD i 0 ∧ ls.getD i 0 ≤ 4096 ∧ ls.getD i 0 * c ≤ 65536 then cnt (c * ls.getD i 0) (ls.drop (i + 1)) else 0 := by
  rw [drop_getD h]; rfl
theorem quo_lt {c d : Int} (hc : 1 ≤ c) : (65536 / c < d) ↔ ¬ d * c ≤ 65536 := by
  rw [Int.ediv_lt_iff_lt_mul (by omega)]; omega

/-- Strides. -/
def stl : List Int → List Int
  | [] => []
  | _ :: r => prod r :: stl r
theorem stl_len : ∀ ls : List Int, (stl ls).length = ls.length
  | [] => rfl
  | _ :: r => by simp [stl, stl_len r]
theorem stl_getD : ∀ (ls : List Int) (k : Nat), k < ls.length → (stl ls).getD k 0 = prod (ls.drop (k + 1))
  | [], k, h => by simp at h
  | _ :: r, 0, _ => by simp [stl]
  | _ :: r, k + 1, h => by
    have := stl_getD r k (by simpa using h)
    simpa [stl] using this

/-- The sum of an index times the strides. -/
def ix : List Int → List Int → Int
  | _ :: r, i :: t => i * prod r + ix r t
  | _, _ => 0
/-- An index of a shape. -/
def inx : List Int → List Int → Bool
  | [], [] => true
  | d :: r, i :: t => decide (0 ≤ i) && decide (i < d) && inx r t
  | _, _ => false
theorem inx_len : ∀ {s i : List Int}, inx s i = true → s.length = i.length
  | [], [], _ => rfl
  | d :: r, i :: t, h => by
    simp only [inx, Bool.and_eq_true] at h
    simp [inx_len h.2]
  | [], _ :: _, h => by simp [inx] at h
  | _ :: _, [], h => by simp [inx] at h
theorem inx_iff : ∀ {s i : List Int}, inx s i = true ↔ s.length = i.length ∧ ∀ k, k < s.length → 0 ≤ i.getD k 0 ∧ i.getD k 0 < s.getD k 0
  | [], [] => by simp [inx]
  | d :: r, i :: t => by
    simp only [inx, Bool.and_eq_true, decide_eq_true_eq, inx_iff (s := r) (i := t), List.length_cons]
    constructor
    · rintro ⟨⟨a, b⟩, c, e⟩
      refine ⟨by omega, fun k hk => ?_⟩
      cases k with
      | zero => exact ⟨a, b⟩
      | succ k => simpa using e k (by omega)
    · rintro ⟨a, b⟩
      refine ⟨by simpa using b 0 (by omega), by omega, fun k hk => ?_⟩
      simpa using b (k + 1) (by omega)
  | [], _ :: _ => by simp [inx]
  | _ :: _, [] => by simp [inx]
theorem ix_bd : ∀ {s i : List Int}, inx s i = true → 0 ≤ ix s i ∧ ix s i < prod s
  | [], [], _ => by simp [ix, prod]
  | d :: r, i :: t, h => by
    simp only [inx, Bool.and_eq_true, decide_eq_true_eq] at h
    obtain ⟨⟨a, b⟩, c⟩ := h
    have ih := ix_bd c
    have h1 := Int.mul_le_mul_of_nonneg_right (show i + 1 ≤ d by omega) (show 0 ≤ prod r by omega)
    have h2 := Int.mul_nonneg a (show 0 ≤ prod r by omega)
    rw [Int.add_mul, Int.one_mul] at h1
    simp only [ix, prod]
    omega
  | [], _ :: _, h => by simp [inx] at h
  | _ :: _, [], h => by simp [inx] at h

/-- The index of a place. -/
def atl : List Int → Int → List Int
  | [], _ => []
  | _ :: r, n => n / prod r :: atl r (n % prod r)
theorem atl_len : ∀ (s : List Int) (n : Int), (atl s n).length = s.length
  | [], _ => rfl
  | _ :: r, n => by simp [atl, atl_len r]
theorem atl_inx : ∀ (s : List Int) (n : Int), pos s → 0 ≤ n → n < prod s → inx s (atl s n) = true
  | [], _, _, _, _ => rfl
  | d :: r, n, h, h0, h1 => by
    have hr : pos r := fun x hx => h x (List.mem_cons_of_mem _ hx)
    have hp := prod_pos hr
    simp only [atl, inx, Bool.and_eq_true, decide_eq_true_eq]
    refine ⟨⟨Int.ediv_nonneg h0 (by omega), ?_⟩, atl_inx r _ hr (Int.emod_nonneg _ (by omega)) (Int.emod_lt_of_pos _ (by omega))⟩
    rw [Int.ediv_lt_iff_lt_mul (by omega)]
    exact h1
theorem ix_atl : ∀ (s : List Int) (n : Int), pos s → 0 ≤ n → n < prod s → ix s (atl s n) = n
  | [], n, _, h0, h1 => by simp [prod] at h1; simp [ix]; omega
  | d :: r, n, h, h0, h1 => by
    have hr : pos r := fun x hx => h x (List.mem_cons_of_mem _ hx)
    have hp := prod_pos hr
    simp only [atl, ix]
    rw [ix_atl r _ hr (Int.emod_nonneg _ (by omega)) (Int.emod_lt_of_pos _ (by omega)), Int.mul_comm]
    exact Int.mul_ediv_add_emod n (prod r)
theorem atl_ix : ∀ (s i : List Int), inx s i = true → atl s (ix s i) = i
  | [], [], _ => rfl
  | d :: r, i :: t, h => by
    simp only [inx, Bool.and_eq_true, decide_eq_true_eq] at h
    obtain ⟨⟨a, b⟩, c⟩ := h
    have ih := ix_bd c
    have e1 : (i * prod r + ix r t) / prod r = i := by
      rw [Int.mul_comm, Int.mul_add_ediv_left _ _ (by omega), Int.ediv_eq_zero_of_lt ih.1 ih.2, Int.add_zero]
    have e2 : (i * prod r + ix r t) % prod r = ix r t := by
      rw [Int.mul_comm, Int.mul_add_emod_self_left, Int.emod_eq_of_lt ih.1 ih.2]
    simp only [atl, ix, e1, e2, atl_ix r t c]
  | [], _ :: _, h => by simp [inx] at h
  | _ :: _, [], h => by simp [inx] at h
/-- The program's way: from the last dimension on. -/
theorem atl_getD : ∀ (s : List Int) (n : Int) (k : Nat), pos s → 0 ≤ n → n < prod s → k < s.length → (atl s n).getD k 0 = n / prod (s.drop (k + 1)) % s.getD k 0
  | [], _, k, _, _, _, h => by simp at h
  | d :: r, n, 0, h, h0, h1, _ => by
    have hr : pos r := fun x hx => h x (List.mem_cons_of_mem _ hx)
    have hp := prod_pos hr
    have hd := h d (List.mem_cons_self ..)
    simp only [atl, List.getD_cons_zero, List.drop_succ_cons, List.drop_zero]
    refine (Int.emod_eq_of_lt (Int.ediv_nonneg h0 (by omega)) ?_).symm
    rw [Int.ediv_lt_iff_lt_mul (by omega)]
    exact h1
  | d :: r, n, k + 1, h, h0, h1, hk => by
    have hr : pos r := fun x hx => h x (List.mem_cons_of_mem _ hx)
    have hp := prod_pos hr
    have hk' : k < r.length := by simpa using hk
    have ih := atl_getD r (n % prod r) k hr (Int.emod_nonneg _ (by omega)) (Int.emod_lt_of_pos _ (by omega)) hk'
    simp only [atl, List.getD_cons_succ, List.drop_succ_cons]
    rw [ih]
    have hd := prod_pos (pos_drop hr (k + 1))
    have hg := hr _ (getD_mem hk')
    obtain ⟨q, hq⟩ := prod_dvd r k
    rw [prod_drop hk', Int.mul_comm (r.getD k 0)] at hq
    generalize prod (r.drop (k + 1)) = P at *
    generalize r.getD k 0 = g at *
    rw [hq]
    have e1 : n % (P * g * q) / P = n / P % (g * q) := by
      rw [Int.mul_assoc]
      have a := Int.emod_def n (P * (g * q))
      rw [a, Int.mul_assoc, ← Int.ediv_ediv_of_nonneg (by omega)]
      rw [Int.emod_def, show n - P * (g * q * (n / P / (g * q))) = n + P * (-(g * q * (n / P / (g * q)))) by rw [Int.mul_neg]; omega, Int.add_mul_ediv_left _ _ (by omega)]
      omega
    rw [e1]
    exact Int.emod_emod_of_dvd _ ⟨q, rfl⟩
end Go.Proofs.Yteplhlmdaabpaaa
