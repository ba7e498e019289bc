/-
  
  
  
  
  
  
  
  
  
  
-/
import Derived.OrdersHeld
import Derived.Test.YtmafgdinegboeaaGreatRows
import Derived.WalkKit
import Derived.WalkSpells
import Derived.Lib.Hide
import Derived.LoopTactic
import Derived.Below
import Derived.Laws.OwnMore
import Derived.Deep.AppendLies
import Derived.Deep.Draws
import Derived.RangeFuncNested
import Derived.RangeFuncBound
import Derived.RangeFuncCalls
import Derived.RangeFuncLeaves
import Derived.RangeFuncBox
import Derived.Shelf.Abstract
import Derived.Shelf.RegionOpen
import Derived.OwnWalkIn
import Derived.TacticsInMore
import Derived.LoopNIn
import Derived.LoopIn
import Derived.Maps.AppendAt
namespace Go.Proofs.YtmafgdinegboeaaGreat
open Go

theorem pq : (∀ (xs : List Value) (i : Nat) (v : Value), xs.toArray.setIfInBounds i v = (xs.set i v).toArray) ∧ (∀ (x v : Value) (xs : List Value), (x :: xs).set 0 v = v :: xs) ∧ (∀ (x v : Value) (xs : List Value) (i : Nat), (x :: xs).set (i + 1) v = x :: xs.set i v) := ⟨fun _ _ _ => List.setIfInBounds_toArray .., fun _ _ _ => rfl, fun _ _ _ _ => rfl⟩
theorem tk {P : Program} {ops : Array Oper} {Q : Exit → Act → World → Prop} {md : Region.Mode} {S : World → Prop} {i : Nat} {oi : Oper} {v : Value} {fuel : Nat} {listed : Array Bool} {a : Act} {w : World} (hi : ops[i]? = some oi)
    (hy : ∀ w, S w → (execOp a.eval oi).run P w = .ok (.value v) w) (h : wpAnyH P md ops Q S fuel (listed.setIfInBounds i true) (a.put oi.dst v) w)
    (hs : Region.noSelect ops = true := by kernel_rfl) (hf : Region.free md ops listed i = true := by kernel_rfl) (hr : (Region.ready md ops listed).contains i = true := by kernel_rfl)
    (hQ : ∀ c a w, Q (.panic c) (a.put oi.dst v) w → Q (.panic c) a w := by exact fun _ _ _ h => h) (hg : Region.wanted oi (yielded ops a.tmps) = true := by rfl) (hS : S w := by assumption) : wpAnyH P md ops Q S (fuel + 1) listed a w :=
  wpAnyH_take hi hs hf hr hQ (.inl ⟨hg, hy⟩) hS h
theorem ts {P : Program} {ops : Array Oper} {Q : Exit → Act → World → Prop} {md : Region.Mode} {S : World → Prop} {i : Nat} {oi : Oper} {fuel : Nat} {listed : Array Bool} {a : Act} {w : World} (hi : ops[i]? = some oi)
    (h : wpAnyH P md ops Q S fuel (listed.setIfInBounds i true) (a.put oi.dst undef) w)
    (hs : Region.noSelect ops = true := by kernel_rfl) (hf : Region.free md ops listed i = true := by kernel_rfl) (hr : (Region.ready md ops listed).contains i = true := by kernel_rfl)
    (hQ : ∀ c a w, Q (.panic c) (a.put oi.dst undef) w → Q (.panic c) a w := by exact fun _ _ _ h => h) (hg : Region.wanted oi (yielded ops a.tmps) = false := by rfl) (hS : S w := by assumption) : wpAnyH P md ops Q S (fuel + 1) listed a w :=
  wpAnyH_take hi hs hf hr hQ (.inr ⟨hg, rfl⟩) hS h
end Go.Proofs.YtmafgdinegboeaaGreat
namespace Go.Proofs.YtmafgdinegboeaaGreat

def prod : List Int → Int
  | [] => 1
  | d :: r => d * prod r
def cnt (c : Int) : List Int → Int
  | [] => c
  | d :: r => if 1 ≤ d ∧ d ≤ 4096 ∧ d * c ≤ 65536 then cnt (c * d) r else 0
def may (ls : List Int) : Bool := decide (ls.length ≤ 4) && decide (cnt 1 ls ≠ 0)
def dms (ls : List Int) : Prop := ∀ d ∈ ls, 1 ≤ d ∧ d ≤ 4096
def pos (ls : List Int) : Prop := ∀ d ∈ ls, 1 ≤ d

theorem drop_getD {ls : List Int} {i : Nat} (h : i < ls.length) : ls.drop i = ls.getD i 0 :: ls.drop (i + 1) := by
  rw [List.drop_eq_getElem_cons h]; simp [List.getD, List.getElem?_eq_getElem h]
theorem getD_mem {ls : List Int} {i : Nat} (h : i < ls.length) : ls.getD i 0 ∈ ls := by
  simp [List.getD, List.getElem?_eq_getElem h]
theorem dms_pos {ls : List Int} (h : dms ls) : pos ls := fun d hd => (h d hd).1
theorem prod_pos : ∀ {ls : List Int}, pos ls → 1 ≤ prod ls
  | [], _ => Int.le_refl _
  | d :: r, h => by
    have h1 := h d (List.mem_cons_self ..)
    have h2 := prod_pos (ls := r) fun x hx => h x (List.mem_cons_of_mem _ hx)
    have := Int.mul_le_mul h1 h2 (by decide) (by omega)
    simpa [prod] using this
theorem prod_drop_le : ∀ {ls : List Int} (k : Nat), pos ls → prod (ls.drop k) ≤ prod ls
  | [], k, _ => by simp
  | d :: r, 0, _ => Int.le_refl _
  | d :: r, k + 1, h => by
    have h1 := h d (List.mem_cons_self ..)
    have hr : pos r := fun x hx => h x (List.mem_cons_of_mem _ hx)
    have h2 := prod_drop_le (ls := r) k hr
    have h3 := prod_pos hr
    have := Int.mul_le_mul_of_nonneg_right h1 (show 0 ≤ prod r by omega)
    simp only [List.drop_succ_cons, prod]
    omega
theorem pos_drop {ls : List Int} (h : pos ls) (k : Nat) : pos (ls.drop k) := fun x hx => h x (List.mem_of_mem_drop hx)
theorem prod_dvd : ∀ (ls : List Int) (k : Nat), ∃ q, prod ls = prod (ls.drop k) * q
  | [], _ => ⟨1, by simp⟩
  | d :: r, 0 => ⟨1, by simp⟩
  | d :: r, k + 1 => by
    obtain ⟨q, hq⟩ := prod_dvd r k
    refine ⟨d * q, ?_⟩
    rw [List.drop_succ_cons, prod, hq]
    simp only [Int.mul_left_comm]
theorem prod_drop {ls : List Int} {k : Nat} (h : k < ls.length) : prod (ls.drop k) = ls.getD k 0 * prod (ls.drop (k + 1)) := by rw [drop_getD h]; rfl

theorem cnt_cases : ∀ (ls : List Int) (c : Int), 1 ≤ c → c ≤ 65536 → cnt c ls = 0 ∨ (1 ≤ cnt c ls ∧ cnt c ls ≤ 65536 ∧ cnt c ls = c * prod ls ∧ dms ls)
  | [], c, h0, h1 => .inr ⟨h0, h1, by simp [cnt, prod], fun d hd => by cases hd⟩
  | d :: r, c, h0, h1 => by
    unfold cnt
    split
    · rename_i h
      obtain ⟨a, b, g⟩ := h
      have h2 := Int.mul_le_mul h0 a (by decide) (by omega)
      rw [Int.mul_comm] at g
      rcases cnt_cases r (c * d) (by omega) g with k | ⟨k1, k2, k3, k4⟩
      · exact .inl k
      · refine .inr ⟨k1, k2, by rw [k3, prod, Int.mul_assoc], fun x hx => ?_⟩
        rcases List.mem_cons.1 hx with rfl | hx
        · exact ⟨a, b⟩
        · exact k4 x hx
    · exact .inl rfl
theorem cnt_of : ∀ (ls : List Int) (c : Int), 1 ≤ c → dms ls → c * prod ls ≤ 65536 → cnt c ls = c * prod ls
  | [], c, _, _, _ => by simp [cnt, prod]
  | d :: r, c, h0, h, hp => by
    have h1 := h d (List.mem_cons_self ..)
    have hr : dms r := fun x hx => h x (List.mem_cons_of_mem _ hx)
    have h3 := prod_pos (dms_pos hr)
    have e : c * prod (d :: r) = c * d * prod r := by rw [prod, Int.mul_assoc]
    have h2 := Int.mul_le_mul h0 h1.1 (by decide) (by omega)
    have h4 := Int.mul_le_mul_of_nonneg_left h3 (show 0 ≤ c * d by omega)
    rw [e] at hp ⊢
    unfold cnt
    rw [if_pos ⟨h1.1, h1.2, by rw [Int.mul_comm]; omega⟩]
    exact cnt_of r (c * d) (by omega) hr hp
theorem may_iff (ls : List Int) : may ls = true ↔ ls.length ≤ 4 ∧ dms ls ∧ prod ls ≤ 65536 := by
  unfold may
  simp only [Bool.and_eq_true, decide_eq_true_eq]
  constructor
  · rintro ⟨a, b⟩
    rcases cnt_cases ls 1 (by decide) (by decide) with h | ⟨_, h2, h3, h4⟩
    · exact absurd h b
    · exact ⟨a, h4, by omega⟩
  · rintro ⟨a, b, c⟩
    refine ⟨a, ?_⟩
    rw [cnt_of ls 1 (by decide) b (by omega)]
    have := prod_pos (dms_pos b)
    omega
theorem may_cnt {ls : List Int} (h : may ls = true) : cnt 1 ls = prod ls := by
  obtain ⟨_, b, c⟩ := (may_iff ls).1 h
  rw [cnt_of ls 1 (by decide) b (by omega), Int.one_mul]
theorem may_prod {ls : List Int} (h : may ls = true) : 1 ≤ prod ls ∧ prod ls ≤ 65536 := by
  obtain ⟨_, b, c⟩ := (may_iff ls).1 h
  exact ⟨prod_pos (dms_pos b), c⟩
theorem may_len {ls : List Int} (h : may ls = true) : ls.length ≤ 4 := ((may_iff ls).1 h).1
theorem may_dms {ls : List Int} (h : may ls = true) : dms ls := ((may_iff ls).1 h).2.1
theorem may_pos {ls : List Int} (h : may ls = true) : pos ls := dms_pos (may_dms h)
theorem may_no {ls : List Int} (h : may ls = false) : 4 < ls.length ∨ cnt 1 ls = 0 := by
  unfold may at h
  simp only [Bool.and_eq_false_iff, decide_eq_false_iff_not] at h
  rcases h with h | h
  · exact .inl (by omega)
  · exact .inr (by omega)
theorem may_yes {ls : List Int} (a : ls.length ≤ 4) (b : cnt 1 ls ≠ 0) : may ls = true := by
  unfold may; simp [a, b]
theorem may_not {ls : List Int} (b : cnt 1 ls = 0) : may ls = false := by
  unfold may; simp [b]
theorem may_long {ls : List Int} (b : 4 < ls.length) : may ls = false := by
  unfold may
  have : ¬ ls.length ≤ 4 := by omega
  simp [this]
theorem may_dim {ls : List Int} (h : may ls = true) {i : Nat} (hi : i < ls.length) : 1 ≤ ls.getD i 0 ∧ ls.getD i 0 ≤ 4096 := may_dms h _ (getD_mem hi)
theorem may_drop {ls : List Int} (h : may ls = true) (k : Nat) : 1 ≤ prod (ls.drop k) ∧ prod (ls.drop k) ≤ 65536 :=
  ⟨prod_pos (pos_drop (may_pos h) k), Int.le_trans (prod_drop_le k (may_pos h)) (may_prod h).2⟩

theorem cnt_step {ls : List Int} {i : Nat} (h : i < ls.length) (c : Int) : cnt c (ls.drop i) = if 1 ≤ ls.getD i 0 ∧ ls.getD i 0 ≤ 4096 ∧ ls.getD i 0 * c ≤ 65536 then cnt (c * ls.getD i 0) (ls.drop (i + 1)) else 0 := by
  rw [drop_getD h]; rfl
theorem quo_lt {c d : Int} (hc : 1 ≤ c) : (65536 / c < d) ↔ ¬ d * c ≤ 65536 := by
  rw [Int.ediv_lt_iff_lt_mul (by omega)]; omega

def stl : List Int → List Int
  | [] => []
  | _ :: r => prod r :: stl r
theorem stl_len : ∀ ls : List Int, (stl ls).length = ls.length
  | [] => rfl
  | _ :: r => by simp [stl, stl_len r]
theorem stl_getD : ∀ (ls : List Int) (k : Nat), k < ls.length → (stl ls).getD k 0 = prod (ls.drop (k + 1))
  | [], k, h => by simp at h
  | _ :: r, 0, _ => by simp [stl]
  | _ :: r, k + 1, h => by
    have := stl_getD r k (by simpa using h)
    simpa [stl] using this

def ix : List Int → List Int → Int
  | _ :: r, i :: t => i * prod r + ix r t
  | _, _ => 0
def inx : List Int → List Int → Bool
  | [], [] => true
  | d :: r, i :: t => decide (0 ≤ i) && decide (i < d) && inx r t
  | _, _ => false
theorem inx_len : ∀ {s i : List Int}, inx s i = true → s.length = i.length
  | [], [], _ => rfl
  | d :: r, i :: t, h => by
    simp only [inx, Bool.and_eq_true] at h
    simp [inx_len h.2]
  | [], _ :: _, h => by simp [inx] at h
  | _ :: _, [], h => by simp [inx] at h
theorem inx_iff : ∀ {s i : List Int}, inx s i = true ↔ s.length = i.length ∧ ∀ k, k < s.length → 0 ≤ i.getD k 0 ∧ i.getD k 0 < s.getD k 0
  | [], [] => by simp [inx]
  | d :: r, i :: t => by
    simp only [inx, Bool.and_eq_true, decide_eq_true_eq, inx_iff (s := r) (i := t), List.length_cons]
    constructor
    · rintro ⟨⟨a, b⟩, c, e⟩
      refine ⟨by omega, fun k hk => ?_⟩
      cases k with
      | zero => exact ⟨a, b⟩
      | succ k => simpa using e k (by omega)
    · rintro ⟨a, b⟩
      refine ⟨by simpa using b 0 (by omega), by omega, fun k hk => ?_⟩
      simpa using b (k + 1) (by omega)
  | [], _ :: _ => by simp [inx]
  | _ :: _, [] => by simp [inx]
theorem ix_bd : ∀ {s i : List Int}, inx s i = true → 0 ≤ ix s i ∧ ix s i < prod s
  | [], [], _ => by simp [ix, prod]
  | d :: r, i :: t, h => by
    simp only [inx, Bool.and_eq_true, decide_eq_true_eq] at h
    obtain ⟨⟨a, b⟩, c⟩ := h
    have ih := ix_bd c
    have h1 := Int.mul_le_mul_of_nonneg_right (show i + 1 ≤ d by omega) (show 0 ≤ prod r by omega)
    have h2 := Int.mul_nonneg a (show 0 ≤ prod r by omega)
    rw [Int.add_mul, Int.one_mul] at h1
    simp only [ix, prod]
    omega
  | [], _ :: _, h => by simp [inx] at h
  | _ :: _, [], h => by simp [inx] at h

def atl : List Int → Int → List Int
  | [], _ => []
  | _ :: r, n => n / prod r :: atl r (n % prod r)
theorem atl_len : ∀ (s : List Int) (n : Int), (atl s n).length = s.length
  | [], _ => rfl
  | _ :: r, n => by simp [atl, atl_len r]
theorem atl_inx : ∀ (s : List Int) (n : Int), pos s → 0 ≤ n → n < prod s → inx s (atl s n) = true
  | [], _, _, _, _ => rfl
  | d :: r, n, h, h0, h1 => by
    have hr : pos r := fun x hx => h x (List.mem_cons_of_mem _ hx)
    have hp := prod_pos hr
    simp only [atl, inx, Bool.and_eq_true, decide_eq_true_eq]
    refine ⟨⟨Int.ediv_nonneg h0 (by omega), ?_⟩, atl_inx r _ hr (Int.emod_nonneg _ (by omega)) (Int.emod_lt_of_pos _ (by omega))⟩
    rw [Int.ediv_lt_iff_lt_mul (by omega)]
    exact h1
theorem ix_atl : ∀ (s : List Int) (n : Int), pos s → 0 ≤ n → n < prod s → ix s (atl s n) = n
  | [], n, _, h0, h1 => by simp [prod] at h1; simp [ix]; omega
  | d :: r, n, h, h0, h1 => by
    have hr : pos r := fun x hx => h x (List.mem_cons_of_mem _ hx)
    have hp := prod_pos hr
    simp only [atl, ix]
    rw [ix_atl r _ hr (Int.emod_nonneg _ (by omega)) (Int.emod_lt_of_pos _ (by omega)), Int.mul_comm]
    exact Int.mul_ediv_add_emod n (prod r)
theorem atl_ix : ∀ (s i : List Int), inx s i = true → atl s (ix s i) = i
  | [], [], _ => rfl
  | d :: r, i :: t, h => by
    simp only [inx, Bool.and_eq_true, decide_eq_true_eq] at h
    obtain ⟨⟨a, b⟩, c⟩ := h
    have ih := ix_bd c
    have e1 : (i * prod r + ix r t) / prod r = i := by
      rw [Int.mul_comm, Int.mul_add_ediv_left _ _ (by omega), Int.ediv_eq_zero_of_lt ih.1 ih.2, Int.add_zero]
    have e2 : (i * prod r + ix r t) % prod r = ix r t := by
      rw [Int.mul_comm, Int.mul_add_emod_self_left, Int.emod_eq_of_lt ih.1 ih.2]
    simp only [atl, ix, e1, e2, atl_ix r t c]
  | [], _ :: _, h => by simp [inx] at h
  | _ :: _, [], h => by simp [inx] at h
theorem atl_getD : ∀ (s : List Int) (n : Int) (k : Nat), pos s → 0 ≤ n → n < prod s → k < s.length → (atl s n).getD k 0 = n / prod (s.drop (k + 1)) % s.getD k 0
  | [], _, k, _, _, _, h => by simp at h
  | d :: r, n, 0, h, h0, h1, _ => by
    have hr : pos r := fun x hx => h x (List.mem_cons_of_mem _ hx)
    have hp := prod_pos hr
    have hd := h d (List.mem_cons_self ..)
    simp only [atl, List.getD_cons_zero, List.drop_succ_cons, List.drop_zero]
    refine (Int.emod_eq_of_lt (Int.ediv_nonneg h0 (by omega)) ?_).symm
    rw [Int.ediv_lt_iff_lt_mul (by omega)]
    exact h1
  | d :: r, n, k + 1, h, h0, h1, hk => by
    have hr : pos r := fun x hx => h x (List.mem_cons_of_mem _ hx)
    have hp := prod_pos hr
    have hk' : k < r.length := by simpa using hk
    have ih := atl_getD r (n % prod r) k hr (Int.emod_nonneg _ (by omega)) (Int.emod_lt_of_pos _ (by omega)) hk'
    simp only [atl, List.getD_cons_succ, List.drop_succ_cons]
    rw [ih]
    have hd := prod_pos (pos_drop hr (k + 1))
    have hg := hr _ (getD_mem hk')
    obtain ⟨q, hq⟩ := prod_dvd r k
    rw [prod_drop hk', Int.mul_comm (r.getD k 0)] at hq
    generalize prod (r.drop (k + 1)) = P at *
    generalize r.getD k 0 = g at *
    rw [hq]
    have e1 : n % (P * g * q) / P = n / P % (g * q) := by
      rw [Int.mul_assoc]
      have a := Int.emod_def n (P * (g * q))
      rw [a, Int.mul_assoc, ← Int.ediv_ediv_of_nonneg (by omega)]
      rw [Int.emod_def, show n - P * (g * q * (n / P / (g * q))) = n + P * (-(g * q * (n / P / (g * q)))) by rw [Int.mul_neg]; omega, Int.add_mul_ediv_left _ _ (by omega)]
      omega
    rw [e1]
    exact Int.emod_emod_of_dvd _ ⟨q, rfl⟩
end Go.Proofs.YtmafgdinegboeaaGreat
namespace Go.Proofs.YtmafgdinegboeaaGreat

theorem ext_getD {a b : List Int} (h : a.length = b.length) (hg : ∀ k, k < a.length → a.getD k 0 = b.getD k 0) : a = b := by
  apply List.ext_getElem h
  intro i h1 h2
  have := hg i h1
  simpa [List.getD, List.getElem?_eq_getElem h1, List.getElem?_eq_getElem h2] using this
theorem ix_step_at {s i : List Int} {k : Nat} (h : s.length = i.length) (hk : k < s.length) : ix (s.drop k) (i.drop k) = i.getD k 0 * prod (s.drop (k + 1)) + ix (s.drop (k + 1)) (i.drop (k + 1)) := by
  rw [drop_getD hk, drop_getD (show k < i.length by omega)]; rfl
theorem inx_drop : ∀ {s i : List Int} (k : Nat), inx s i = true → inx (s.drop k) (i.drop k) = true
  | s, i, 0, h => by simpa using h
  | [], [], k + 1, _ => rfl
  | d :: r, i :: t, k + 1, h => by
    simp only [inx, Bool.and_eq_true] at h
    simpa using inx_drop k h.2
  | [], _ :: _, _, h => by simp [inx] at h
  | _ :: _, [], _, h => by simp [inx] at h
def Sum (s m : List Int) (V p : Int) (k : Nat) : Prop := k ≤ s.length ∧ 0 ≤ p ∧ p + ix (s.drop k) (m.drop k) = V
theorem sum_start {s m : List Int} : Sum s m (ix s m) 0 0 := ⟨Nat.zero_le _, Int.le_refl _, by simp⟩
theorem sum_step {s m : List Int} {V p : Int} {k : Nat} (h : Sum s m V p k) (hi : inx s m = true) (hp : pos s) (hk : k < s.length) : Sum s m V (p + m.getD k 0 * prod (s.drop (k + 1))) (k + 1) ∧ 0 ≤ m.getD k 0 * prod (s.drop (k + 1)) ∧ m.getD k 0 * prod (s.drop (k + 1)) ≤ V ∧ p + m.getD k 0 * prod (s.drop (k + 1)) ≤ V := by
  obtain ⟨a, b, d⟩ := h
  obtain ⟨l, g⟩ := inx_iff.1 hi
  have gk := g k hk
  have q := prod_pos (pos_drop hp (k + 1))
  have r := ix_bd (inx_drop (k + 1) hi)
  rw [ix_step_at l hk] at d
  have n0 := Int.mul_nonneg gk.1 (show 0 ≤ prod (s.drop (k + 1)) by omega)
  exact ⟨⟨by omega, by omega, by omega⟩, n0, by omega, by omega⟩
theorem sum_end {s m : List Int} {V p : Int} (h : Sum s m V p s.length) : p = V := by
  obtain ⟨_, _, d⟩ := h
  rw [List.drop_length] at d
  simp [ix] at d
  exact d
end Go.Proofs.YtmafgdinegboeaaGreat
namespace Go.Proofs.YtmafgdinegboeaaGreat

def alx (n : Nat) : List Int := (List.range n).map fun k : Nat => (k : Int)
def smA (d : Nat → Int) : Nat → Int
  | 0 => 0
  | n + 1 => smA d n + d n
theorem smA_same {d d' : Nat → Int} : ∀ {n : Nat}, (∀ k, k < n → d k = d' k) → smA d n = smA d' n
  | 0, _ => rfl
  | n + 1, h => by
    unfold smA
    rw [smA_same (fun k hk => h k (by omega)), h n (by omega)]
end Go.Proofs.YtmafgdinegboeaaGreat
namespace Go.Proofs.YtmafgdinegboeaaGreat

end Go.Proofs.YtmafgdinegboeaaGreat
namespace Go.Proofs.YtmafgdinegboeaaGreat

theorem alx_snoc (n : Nat) : alx (n + 1) = alx n ++ [(n : Int)] := by
  unfold alx
  rw [List.range_succ, List.map_append]; rfl
theorem alx_len (n : Nat) : (alx n).length = n := by simp [alx]
end Go.Proofs.YtmafgdinegboeaaGreat
namespace Go.Proofs.YtmafgdinegboeaaGreat
open Go.RowKit

def Ld (w : World) (v : Value) (ls : List Int) : Prop := ∃ o c, v = .slice o ls.length c ∧ ls.length ≤ c ∧
  ∀ i, i < ls.length → ∃ b f, o = some ⟨b, f, none⟩ ∧ b < w.heap.size ∧ w.cell? ⟨b, f + i, none⟩ = some (.int .i64 (ls.getD i 0))
theorem Ld.keep {w w' : World} {B : Nat} {v : Value} {ls : List Int} (h : Ld w v ls) (hB : w.heap.size ≤ B) (hb : Below B w w') : Ld w' v ls := by
  obtain ⟨o, c, rfl, hc, h⟩ := h
  refine ⟨o, c, rfl, hc, fun i hi => ?_⟩
  obtain ⟨b, f, ho, hl, hx⟩ := h i hi
  exact ⟨b, f, ho, Nat.lt_of_lt_of_le hl hb.size, (hb.cell (p := ⟨b, f + i, none⟩) (Nat.lt_of_lt_of_le hl hB)).trans hx⟩
theorem Ld.below {w w' : World} {v : Value} {ls : List Int} (h : Ld w v ls) (hb : Below w.heap.size w w') : Ld w' v ls := h.keep (Nat.le_refl _) hb
theorem Ld.nil (w : World) : Ld w (.slice none 0 0) [] := ⟨none, 0, rfl, Nat.le_refl _, fun i hi => by simp at hi⟩
def Blk (w : World) (g : Nat) (t : TypeId) (cs : Array Value) : Prop := w.heap[g]? = some (.cells cs t (0, 0))
section
variable {w w' : World} {g : Nat} {t : TypeId} {cs : Array Value}
theorem Blk.lt (h : Blk w g t cs) : g < w.heap.size := by
  rcases Nat.lt_or_ge g w.heap.size with hlt | hge
  · exact hlt
  · unfold Blk at h; rw [Array.getElem?_eq_none hge] at h; cases h
theorem Blk.cell (h : Blk w g t cs) (i : Nat) : w.cell? ⟨g, i, none⟩ = cs[i]? := cell_of_row w g i cs t (0, 0) h
theorem Blk.frozen (h : Blk w g t cs) (i : Nat) : w.frozen? ⟨g, i, none⟩ = false := by
  unfold Blk at h
  simp [World.frozen?, h]
theorem Blk.new (w : World) (t : TypeId) (cs : Array Value) : Blk (w.alloc (.cells cs t)) w.heap.size t cs := heap_alloc_new w _
theorem Blk.drew (h : Blk w g t cs) : Blk w.drew g t cs := h
theorem Blk.alloc (h : Blk w g t cs) (o : Obj) : Blk (w.alloc o) g t cs := (Below.heap_alloc w o g h.lt).trans h
theorem Blk.set_ (h : Blk w g t cs) (i : Nat) (u : Value) : Blk (w.setCell ⟨g, i, none⟩ u) g t (cs.setIfInBounds i u) := by
  unfold Blk at h ⊢
  simp [World.setCell, Array.getElem?_modify, h]
theorem Blk.far (h : Blk w g t cs) {p : Addr} (hp : g ≠ p.block) (u : Value) : Blk (w.setCell p u) g t cs := (Below.heap_setCell w p u g hp).trans h
theorem Blk.below {B : Nat} (h : Blk w g t cs) (hb : Below B w w') (hg : g < B) : Blk w' g t cs := (hb.block g hg).trans h
end

def ints (ls : List Int) : List Value := ls.map (Value.int .i64 ·)
theorem ints_at {ls : List Int} {i : Nat} (h : i < ls.length) : (ints ls).toArray[i]? = some (.int .i64 (ls.getD i 0)) := by
  simp [ints, List.getD, List.getElem?_eq_getElem h]
theorem Ld.of_blk {w : World} {g : Nat} {t : TypeId} {ls : List Int} (h : Blk w g t (ints ls).toArray) {c : Nat} (hc : ls.length ≤ c) : Ld w (.slice (some ⟨g, 0, none⟩) ls.length c) ls :=
  ⟨_, c, rfl, hc, fun i hi => ⟨g, 0, rfl, h.lt, by rw [Nat.zero_add, h.cell, ints_at hi]⟩⟩
theorem made_ints (n : Nat) : madeCells #[.int .i64 0] n = (ints (List.replicate n 0)).toArray := by
  apply Array.ext
  · simp [madeCells, ints]
  · intro i h1 h2
    simp [madeCells, ints, Nat.mod_one]
theorem ints_set (ls : List Int) (k : Nat) (v : Int) : (ints ls).toArray.setIfInBounds k (.int .i64 v) = (ints (ls.set k v)).toArray := by
  apply Array.ext
  · simp [ints]
  · intro i h1 h2
    by_cases e : k = i
    · subst e; simp [ints]
    · simp only [List.setIfInBounds_toArray, List.getElem_toArray, List.getElem_set, ints, List.getElem_map]
      simp [e]
theorem Blk.put {w : World} {g : Nat} {t : TypeId} {ls : List Int} (h : Blk w g t (ints ls).toArray) (k : Nat) (v : Int) : Blk (w.setCell ⟨g, k, none⟩ (.int .i64 v)) g t (ints (ls.set k v)).toArray := by
  rw [← ints_set]; exact h.set_ k _
theorem set_getD_self {ls : List Int} {k : Nat} {v : Int} (h : k < ls.length) : (ls.set k v).getD k 0 = v := by simp [List.getD, List.getElem?_set_self h]
theorem set_getD_ne {ls : List Int} {k j : Nat} {v : Int} (h : k ≠ j) : (ls.set k v).getD j 0 = ls.getD j 0 := by simp [List.getD, List.getElem?_set_ne h]
end Go.Proofs.YtmafgdinegboeaaGreat
namespace Go.Proofs.YtmafgdinegboeaaGreat
open Go.RowKit

set_option maxRecDepth 100000 in
set_option maxHeartbeats 2000000 in
theorem count_ok (v : Value) (ls : List Int) (w : World) (h : Ld w v ls) (hm : may ls = true) :
    Calls Tryz.prog 147 #[v] w fun e w' => e = .returned (.tuple #[.int .i64 (prod ls), .int .i64 0]) ∧ w = w' := by
  obtain ⟨o, c, rfl, _, hx⟩ := h
  have HX := Lib.hid hx
  have hl := may_len hm
  have HC := Lib.hid (may_cnt hm)
  have HP := Lib.hid (may_prod hm)
  clear hx hm
  go_enter Tryz.func147, Tryz.ntmps147
  go_wp2
  go_loop [4, 12] (fun s4 s12 => ∃ (k : Nat) (m : Int), k ≤ ls.length ∧ 1 ≤ m ∧ m ≤ 65536 ∧ s12 = .int .i64 k ∧ s4 = .int .i64 m ∧ Hid (cnt m (ls.drop k) = cnt 1 ls)) (fun _ s12 => ls.length - (intOf s12).toNat)
  case atStart => exact ⟨0, 1, Nat.zero_le _, by decide, by decide, rfl, rfl, rfl⟩
  case round =>
    obtain ⟨k, m, hk, m0, m1, rfl, rfl, HM⟩ := hrel
    by_cases hlt : k < ls.length
    · obtain ⟨b, f, rfl, hb, hc⟩ := HX.out k hlt
      have st := cnt_step hlt m
      rw [HM.out, HC.out] at st
      obtain ⟨d, hd⟩ : ∃ d, d = ls.getD k 0 := ⟨_, rfl⟩
      rw [← hd] at st hc
      have hp := HP.out
      have g : 1 ≤ d ∧ d ≤ 4096 ∧ d * m ≤ 65536 := Classical.byContradiction fun g => by rw [if_neg g] at st; omega
      rw [if_pos g] at st
      obtain ⟨g1, g2, g3⟩ := g
      have q : ¬ 65536 / m < d := by rw [quo_lt m0]; omega
      have m2 : 1 ≤ m * d := by have := Int.mul_le_mul m0 g1 (by decide) (by omega); omega
      have m3 : m * d ≤ 65536 := by rw [Int.mul_comm]; omega
      have ST := Lib.hid st
      clear st hd hp g3
      go_wp2
      refine ⟨⟨k + 1, m * d, by omega, m2, m3, by go_num, rfl, by unfold Hid; rw [← ST.out, HC.out]⟩, by simp [intOf]; omega⟩
    · obtain rfl : m = prod ls := by
        have := HM.out
        rw [List.drop_eq_nil_of_le (by omega), HC.out] at this
        exact this
      go_wp2
      go_ret2
      exact ⟨rfl, rfl⟩

set_option maxRecDepth 100000 in
set_option maxHeartbeats 2000000 in
theorem count_no (v : Value) (ls : List Int) (w : World) (h : Ld w v ls) (hm : may ls = false) :
    Calls Tryz.prog 147 #[v] w fun e w' => e = .returned (.tuple #[.int .i64 0, .int .i64 1]) ∧ w = w' := by
  obtain ⟨o, c, rfl, _, hx⟩ := h
  have HX := Lib.hid hx
  clear hx
  by_cases h4 : 4 < ls.length
  · clear hm
    go_enter Tryz.func147, Tryz.ntmps147
    go_wp2
    go_ret2
    exact ⟨rfl, rfl⟩
  have HC : Hid (cnt 1 ls = 0) := by rcases may_no hm with a | a
                                     · exact absurd a h4
                                     · exact a
  clear hm
  go_enter Tryz.func147, Tryz.ntmps147
  go_wp2
  go_loop [4, 12] (fun s4 s12 => ∃ (k : Nat) (m : Int), k ≤ ls.length ∧ 1 ≤ m ∧ m ≤ 65536 ∧ s12 = .int .i64 k ∧ s4 = .int .i64 m ∧ Hid (cnt m (ls.drop k) = cnt 1 ls)) (fun _ s12 => ls.length - (intOf s12).toNat)
  case atStart => exact ⟨0, 1, Nat.zero_le _, by decide, by decide, rfl, rfl, rfl⟩
  case round =>
    obtain ⟨k, m, hk, m0, m1, rfl, rfl, HM⟩ := hrel
    by_cases hlt : k < ls.length
    · obtain ⟨b, f, rfl, hb, hc⟩ := HX.out k hlt
      have st := cnt_step hlt m
      rw [HM.out, HC.out] at st
      obtain ⟨d, hd⟩ : ∃ d, d = ls.getD k 0 := ⟨_, rfl⟩
      rw [← hd] at st hc
      by_cases g1 : d < 1
      · clear st hd
        go_wp2
        go_ret2
        exact ⟨rfl, rfl⟩
      by_cases g2 : 4096 < d
      · clear st hd
        go_wp2
        go_ret2
        exact ⟨rfl, rfl⟩
      by_cases g3 : 65536 / m < d
      · clear st hd
        go_wp2
        go_ret2
        exact ⟨rfl, rfl⟩
      have g4 : d * m ≤ 65536 := Classical.byContradiction fun g => g3 ((quo_lt m0).2 g)
      rw [if_pos ⟨by omega, by omega, g4⟩] at st
      have m2 : 1 ≤ m * d := by have := Int.mul_le_mul m0 (show 1 ≤ d by omega) (by decide) (by omega); omega
      have m3 : m * d ≤ 65536 := by rw [Int.mul_comm]; omega
      have ST := Lib.hid st
      clear st hd g4
      go_wp2
      refine ⟨⟨k + 1, m * d, by omega, m2, m3, by go_num, rfl, by unfold Hid; rw [← ST.out, HC.out]⟩, by simp [intOf]; omega⟩
    · exfalso
      have := HM.out
      rw [List.drop_eq_nil_of_le (by omega), HC.out] at this
      simp [cnt] at this
      omega

set_option maxRecDepth 100000 in
theorem check_ok (v : Value) (ls : List Int) (w : World) (h : Ld w v ls) (hm : may ls = true) :
    Calls Tryz.prog 124 #[v] w fun e w' => e = .returned (.int .i64 0) ∧ w = w' := by
  have C := Lib.hid (count_ok v ls w h hm)
  clear h hm
  go_enter Tryz.func124, Tryz.ntmps124
  go_wp2_with (go_at_call 147; (with_reducible refine C.out.mono ?_); rintro e w' ⟨rfl, rfl⟩)
  go_ret
  exact ⟨rfl, rfl⟩
set_option maxRecDepth 100000 in
theorem check_no (v : Value) (ls : List Int) (w : World) (h : Ld w v ls) (hm : may ls = false) :
    Calls Tryz.prog 124 #[v] w fun e w' => e = .returned (.int .i64 1) ∧ w = w' := by
  have C := Lib.hid (count_no v ls w h hm)
  clear h hm
  go_enter Tryz.func124, Tryz.ntmps124
  go_wp2_with (go_at_call 147; (with_reducible refine C.out.mono ?_); rintro e w' ⟨rfl, rfl⟩)
  go_ret
  exact ⟨rfl, rfl⟩
end Go.Proofs.YtmafgdinegboeaaGreat
namespace Go.Proofs.YtmafgdinegboeaaGreat
open Go.RowKit

end Go.Proofs.YtmafgdinegboeaaGreat
namespace Go.Proofs.YtmafgdinegboeaaGreat
open Go.RowKit Go.Shelf
attribute [local go_sem] Oper.semAt_some

def rs {n : Nat} : (j : Nat) → j ≤ n → List (Fin n)
  | 0, _ => []
  | j + 1, h => ⟨j, h⟩ :: rs j (by omega)
theorem rs_len {n : Nat} : ∀ (j : Nat) (h : j ≤ n), (rs j h).length = j
  | 0, _ => rfl
  | j + 1, h => by simp [rs, rs_len j]
def bk (n : Nat) : List (Fin n) := rs n (Nat.le_refl n)
def KeepB (n0 B : Nat) (W W' : World) : Prop := W'.heap[B]? = W.heap[B]? ∧ ∀ k, k < n0 → W'.heap[k]? = W.heap[k]?
theorem KeepB.refl (n0 B : Nat) (W : World) : KeepB n0 B W W := ⟨rfl, fun _ _ => rfl⟩
theorem KeepB.trans {n0 B : Nat} {a b c : World} (h : KeepB n0 B a b) (k : KeepB n0 B b c) : KeepB n0 B a c := ⟨k.1.trans h.1, fun i hi => (k.2 i hi).trans (h.2 i hi)⟩
theorem KeepB.cell {n0 B : Nat} {W W' : World} (h : KeepB n0 B W W') : W'.cell? ⟨B, 0, none⟩ = W.cell? ⟨B, 0, none⟩ := by simp [World.cell?, h.1]
theorem KeepB.old {n0 B b o : Nat} {W W' : World} (h : KeepB n0 B W W') (hb : b < n0) : W'.cell? ⟨b, o, none⟩ = W.cell? ⟨b, o, none⟩ := by simp [World.cell?, h.2 b hb]
theorem KeepB.put {n0 B : Nat} {w : World} (hn : n0 ≤ w.heap.size) (hB : B < w.heap.size) (W : World) (l : Nat) (o o' : Obj) (hl : w.heap.size ≤ l) (_ : W.heap[l]? = some o) (_ : o.isCells = false) (_ : o.isWalk = false) : KeepB n0 B W (W.putObj l o') :=
  ⟨World.putObj_heap_other (by omega), fun k h2 => World.putObj_heap_other (by omega)⟩
def pr (ls : List Int) (x : Fin ls.length) : Array Value := #[.int .i64 (x.1 : Nat), .int .i64 (ls.getD x.1 0)]

set_option maxRecDepth 100000 in
set_option maxHeartbeats 2000000 in
theorem back1_in (F : Fence) (n : Nat) (hfn : F.fn 215) (hro : F.round = none) (hn : 1 ≤ n) (l B n0 : Nat) (o : Option Addr) (c : Nat) (ls : List Int) (hl : ls.length ≤ 1073741824) (J Jx : List (Fin ls.length) → World → Prop)
    (hY : ∀ pre x W, J pre W → pre.length < ls.length → YieldAt F (n - 1) Tryz.prog l (pr ls x) W fun e W' =>
      (e = .returned (.bool true) ∧ J (pre ++ [x]) W' ∧ KeepB n0 B W W') ∨ (e = .returned (.bool false) ∧ Jx (pre ++ [x]) W'))
    (W : World) (h0s : W.cell? ⟨B, 0, none⟩ = some (.slice o ls.length c)) (hx : ∀ i, i < ls.length → ∃ b f, o = some ⟨b, f, none⟩ ∧ b < n0 ∧ W.cell? ⟨b, f + i, none⟩ = some (.int .i64 (ls.getD i 0))) (h0 : J [] W) :
    CallsIn F n Tryz.prog 215 #[.func (.yield l) #[] #[], .pointer (some ⟨B, 0, none⟩)] W fun e W' => (∃ v, e = .returned v) ∧
      ((∃ ys, ys = bk ls.length ∧ J ys W') ∨ (∃ pre, pre <+: bk ls.length ∧ Jx pre W')) := by
  have HX := Lib.hid hx
  clear hx
  refine callsIn_of_wp Tryz.func215 rfl hfn ?_ hro
  simp only [Tryz.ntmps215, List.size_toArray, List.length_cons, List.length_nil, Nat.reduceAdd, Nat.reduceSub, Array.replicate_succ, Array.replicate_zero, List.push_toArray, List.append_toArray, List.nil_append, List.cons_append]
  gi_wp2
  gi_loopw [3] (fun v wr => ∃ (pre : List (Fin ls.length)) (j : Nat) (hj : j ≤ ls.length), v = .int .i64 ((j : Int) - 1) ∧ Hid (pre ++ rs j hj = bk ls.length) ∧ J pre wr ∧ KeepB n0 B W wr)
    (fun v _ => (intOf v + 1).toNat)
  case atStart =>
    exact ⟨[], ls.length, Nat.le_refl _, rfl, rfl, h0, KeepB.refl _ _ _⟩
  case round =>
    obtain ⟨pre, j, hj, rfl, hp, hJs, hnx⟩ := hrel
    have c0 : wr.cell? ⟨B, 0, none⟩ = some (.slice o ls.length c) := hnx.cell.trans h0s
    cases j with
    | zero =>
      gi_wp2
      go_end0
      have hp := hp.out
      simp only [rs, List.append_nil] at hp
      exact ⟨⟨_, rfl⟩, .inl ⟨pre, hp, hJs⟩⟩
    | succ j =>
      obtain ⟨b, f, rfl, hb, hc⟩ := HX.out j hj
      have hc' : wr.cell? ⟨b, f + j, none⟩ = some (.int .i64 (ls.getD j 0)) := (hnx.old hb).trans hc
      have hpl : pre.length < ls.length := by
        have h1 := congrArg List.length hp.out
        rw [List.length_append, rs_len, bk, rs_len] at h1
        omega
      have hy0 := hY pre ⟨j, hj⟩ wr hJs hpl
      unfold pr at hy0
      obtain ⟨fn, tmps, assign, body, hy, hR⟩ := hy0
      have ej : ((j + 1 : Nat) : Int) - 1 = (j : Int) := by omega
      rw [ej]
      generalize ls.getD j 0 = x at *
      clear hc
      gi_wp2
      refine hR.mono ?_
      rintro e W3 (⟨rfl, hJ3, hk3⟩ | ⟨rfl, hJx3⟩)
      · have c1' : W3.cell? ⟨B, 0, none⟩ = some (.slice (some ⟨b, f, none⟩) ls.length c) := hk3.cell.trans c0
        gi_wp2
        go_roundw
        case rel => exact ⟨pre ++ [⟨j, hj⟩], j, by omega, rfl, by have := hp.out; rw [← this]; simp [rs, Hid], hJ3, hnx.trans hk3⟩
        case measure => simp [intOf]
      · gi_wp2
        refine bodyPost_ret (results_none rfl _ _ _) rfl ?_
        exact ⟨⟨_, rfl⟩, .inr ⟨pre ++ [⟨j, hj⟩], ⟨rs j (by omega), by have := hp.out; rw [← this]; simp [rs]⟩, hJx3⟩⟩

theorem back_stops (F : Fence) (n : Nat) (hfn : F.fn 215) (hro : F.round = none) (hn : 1 ≤ n) (B n0 : Nat) (o : Option Addr) (c : Nat) (ls : List Int) (hl : ls.length ≤ 1073741824) (w : World) (hB : B < w.heap.size) (hn0 : n0 ≤ w.heap.size)
    (h0s : w.cell? ⟨B, 0, none⟩ = some (.slice o ls.length c)) (hx : ∀ i, i < ls.length → ∃ b f, o = some ⟨b, f, none⟩ ∧ b < n0 ∧ w.cell? ⟨b, f + i, none⟩ = some (.int .i64 (ls.getD i 0))) :
    SeqStopsK F n Tryz.prog 215 #[.pointer (some ⟨B, 0, none⟩)] (pr ls) (KeepB n0 B) (fun ys => ys = bk ls.length) (fun pre => pre <+: bk ls.length) ls.length w := fun l J Jx W hW _ _ hY h0 =>
  back1_in F n hfn hro hn l B n0 o c ls hl J Jx hY W ((hW.cell (p := ⟨B, 0, none⟩) hB).trans h0s) (fun i hi => by
    obtain ⟨b, f, e, hb, hc⟩ := hx i hi
    exact ⟨b, f, e, hb, (hW.cell (p := ⟨b, f + i, none⟩) (by show b < _; omega)).trans hc⟩) h0

set_option maxRecDepth 100000 in
theorem backs_any (o : Option Addr) (n c : Nat) (w : World) : Calls Tryz.prog 196 #[.slice o n c] w fun e w' => e = .returned (.func (.func 215) #[] #[.pointer (some ⟨w.heap.size, 0, none⟩)]) ∧
    w.alloc (.cells #[.slice o n c] 23) = w' := by
  go_enter Tryz.func196, Tryz.ntmps196
  go_wp2
  refine bodyPost_ret (results_tmp rfl _ _ _) rfl ?_
  exact ⟨rfl, rfl⟩
end Go.Proofs.YtmafgdinegboeaaGreat
