/-
  package norm: rowOf, what a row's words have in common.
  package norm: what Norm refuses.
  package norm: a tensor's rows normed, as a list; rows turned; noughts.
-/
import Derived.Test.YtldchepfcgbpiaaGreatM10
import Derived.Test.YtldchepfcgbpiaaGreatM18
import Derived.Test.YtldchepfcgbpiaaGreatM19
import Derived.Test.YtldchepfcgbpiaaGreatM23
namespace Go.Proofs.YtldchepfcgbpiaaGreat
open Go.RowKit Go.Shelf

theorem abs_mul_bd {a x : Int} {A B : Nat} (ha : a.natAbs ≤ A) (hx : x.natAbs ≤ B) : (a * x).natAbs ≤ A * B := by rw [Int.natAbs_mul]; exact Nat.mul_le_mul ha hx
theorem take_sum {l : List Int} {k : Nat} (hk : k < l.length) : (l.take (k + 1)).sum = (l.take k).sum + l.getD k 0 := by
  rw [List.take_add_one, List.sum_append]
  simp [List.getD, List.getElem?_eq_getElem hk]
theorem sum_bd : ∀ (l : List Int), (∀ x ∈ l, x.natAbs ≤ 140737488355328) → l.sum.natAbs ≤ l.length * 140737488355328
  | [], _ => by simp
  | a :: l, h => by
    have i := sum_bd l (fun x hx => h x (by simp [hx]))
    have j := h a (by simp)
    rw [List.sum_cons, List.length_cons, Nat.add_mul]
    omega
/-- Each word times its distance, summed. -/
def dsq (n S : Int) (l : List Int) : Int := (l.map fun a => a * (n * a - S)).sum
theorem dsq_take {n S : Int} {l : List Int} {k : Nat} (hk : k < l.length) : dsq n S (l.take (k + 1)) = dsq n S (l.take k) + l.getD k 0 * (n * l.getD k 0 - S) := by
  unfold dsq
  rw [List.take_add_one, List.map_append, List.sum_append]
  simp [List.getD, List.getElem?_eq_getElem hk]
theorem dist_bd {n S a : Int} (hn : n.natAbs ≤ 4096) (hS : S.natAbs ≤ 576460752303423488) (ha : a.natAbs ≤ 140737488355328) : (n * a).natAbs ≤ 576460752303423488 ∧ (n * a - S).natAbs ≤ 1152921504606846976 ∧ (a * (n * a - S)).natAbs ≤ 162259276829213363391578010288128 := by
  have h1 := abs_mul_bd hn ha
  have h2 : (n * a - S).natAbs ≤ 1152921504606846976 := by omega
  exact ⟨by omega, h2, by have := abs_mul_bd ha h2; omega⟩
theorem dsq_bd {n S : Int} (hn : n.natAbs ≤ 4096) (hS : S.natAbs ≤ 576460752303423488) : ∀ (l : List Int), (∀ x ∈ l, x.natAbs ≤ 140737488355328) → (dsq n S l).natAbs ≤ l.length * 162259276829213363391578010288128
  | [], _ => by simp [dsq]
  | a :: l, h => by
    have i := dsq_bd hn hS l (fun x hx => h x (by simp [hx]))
    have j := (dist_bd hn hS (h a (by simp))).2.2
    unfold dsq at i ⊢
    rw [List.map_cons, List.sum_cons, List.length_cons, Nat.add_mul]
    omega
/-- A row's square: n squares of its words' distances, and n^2 eps 2^f. -/
def rsb (n eps : Int) (f : Nat) : Int := n * n * eps * 2 ^ f
def rsq (l : List Int) (eps : Int) (f : Nat) : Int := rsb l.length eps f + dsq l.length l.sum l
theorem rsb_bd {n eps : Int} {f : Nat} (hn : n.natAbs ≤ 4096) (he : eps.natAbs ≤ 140737488355328) (hf : f ≤ 32) : (n * n).natAbs ≤ 16777216 ∧ (n * n * eps).natAbs ≤ 2361183241434822606848 ∧ (rsb n eps f).natAbs ≤ 10141204801825835211973625643008 := by
  have h1 := abs_mul_bd hn hn
  have h2 := abs_mul_bd h1 he
  have hp : ((2 : Int) ^ f).natAbs ≤ 4294967296 := by
    have q := Nat.pow_le_pow_right (show 0 < 2 by decide) hf
    have e : ((2 ^ f : Nat) : Int) = 2 ^ f := by push_cast; rfl
    have e2 : (2 : Nat) ^ 32 = 4294967296 := by decide
    rw [← e, Int.natAbs_natCast, ← e2]; exact q
  exact ⟨by omega, by omega, by have := abs_mul_bd h2 hp; unfold rsb; omega⟩
theorem sq_sum (x : Int) : ∀ l : List Int, 0 ≤ (l.map fun a => (a - x) * (a - x)).sum
  | [] => by simp
  | a :: l => by
    rw [List.map_cons, List.sum_cons]
    have := sq_sum x l
    have h : 0 ≤ (a - x) * (a - x) := by
      rcases Int.le_total 0 (a - x) with h | h
      · exact Int.mul_nonneg h h
      · exact Int.mul_nonneg_of_nonpos_of_nonpos h h
    omega
theorem sq_open (x : Int) : ∀ l : List Int, (l.map fun a => (a - x) * (a - x)).sum = (l.map fun a => a * a).sum - 2 * x * l.sum + l.length * (x * x)
  | [] => by simp
  | a :: l => by
    simp only [List.map_cons, List.sum_cons, List.length_cons]
    rw [sq_open x l]
    generalize (l.map fun a => a * a).sum = T
    generalize l.sum = S
    generalize (l.length : Nat) = n
    push_cast
    simp only [Int.sub_mul, Int.mul_sub, Int.add_mul, Int.mul_add, Int.mul_assoc, Int.mul_comm x a, Int.one_mul]
    omega
theorem cauchy : ∀ l : List Int, 0 ≤ (l.length : Int) * (l.map fun a => a * a).sum - l.sum * l.sum
  | [] => by simp
  | a :: l => by
    have i := cauchy l
    have h := sq_sum a l
    rw [sq_open] at h
    simp only [List.map_cons, List.sum_cons, List.length_cons]
    generalize (l.map fun a => a * a).sum = T at *
    generalize l.sum = S at *
    generalize (l.length : Nat) = n at *
    push_cast
    have e : ((n : Int) + 1) * (a * a + T) - (a + S) * (a + S) = ((n : Int) * T - S * S) + (T - 2 * a * S + n * (a * a)) := by
      simp only [Int.add_mul, Int.mul_add, Int.one_mul, Int.mul_comm S a, Int.mul_assoc]
      omega
    rw [e]
    omega
theorem dsq_open (n S : Int) : ∀ l : List Int, dsq n S l = n * (l.map fun a => a * a).sum - S * l.sum
  | [] => by simp [dsq]
  | a :: l => by
    have i := dsq_open n S l
    unfold dsq at i ⊢
    simp only [List.map_cons, List.sum_cons]
    rw [i, Int.mul_sub, Int.mul_add, Int.mul_add, Int.mul_left_comm a n a, Int.mul_comm a S]
    omega
theorem rsq_pos {l : List Int} {eps : Int} {f : Nat} (he : 0 ≤ eps) : 0 ≤ rsq l eps f := by
  have h := cauchy l
  have g : 0 ≤ rsb (l.length : Int) eps f := Int.mul_nonneg (Int.mul_nonneg (Int.mul_nonneg (by omega) (by omega)) he) (Int.pow_nonneg (by decide))
  unfold rsq
  rw [dsq_open]
  omega
theorem blk5f {W : World} {b : Nat} {t : TypeId} {v0 v1 v2 v3 v4 : Value} (h : Blk W b t #[v0, v1, v2, v3, v4]) : W.cell? ⟨b, 0, none⟩ = some v0 ∧ W.cell? ⟨b, 1, none⟩ = some v1 ∧ W.cell? ⟨b, 2, none⟩ = some v2 ∧ W.cell? ⟨b, 3, none⟩ = some v3 ∧ W.cell? ⟨b, 4, none⟩ = some v4 ∧ W.frozen? ⟨b, 2, none⟩ = false ∧ W.frozen? ⟨b, 3, none⟩ = false := ⟨h.cell 0, h.cell 1, h.cell 2, h.cell 3, h.cell 4, h.frozen 2, h.frozen 3⟩
set_option maxRecDepth 100000 in
set_option maxHeartbeats 8000000 in
theorem rowof_any (v : Value) (ls : List Int) (eps : Int) (f : Nat) (w : World) (h : Ld w v ls) (hw : wds ls = true) (hl : 1 ≤ ls.length ∧ ls.length ≤ 4096) (he : wd eps = true) (hf : f ≤ 32) :
    Calls Tryz.prog 26 #[v, .int .i64 eps, .int .i64 (f : Int)] w fun e w' => e = .returned (Rw ls.length ls.sum (rsq ls eps f) f) ∧ Below w.heap.size w w' := by
  have hwd : ∀ k, k < ls.length → (ls.getD k 0).natAbs ≤ 140737488355328 := fun k hk => by have := wds_at hw hk; omega
  have hmem : ∀ m, ∀ x ∈ ls.take m, x.natAbs ≤ 140737488355328 := fun m x hx => by
    obtain ⟨k, hk, rfl⟩ := List.mem_iff_getElem.1 (List.mem_of_mem_take hx)
    have := hwd k hk
    simpa [List.getD, List.getElem?_eq_getElem hk] using this
  have hsum : ∀ m, (ls.take m).sum.natAbs ≤ 576460752303423488 := fun m => by
    have q := sum_bd (ls.take m) (hmem m)
    have : (ls.take m).length ≤ 4096 := by rw [List.length_take]; omega
    have := Nat.mul_le_mul_right 140737488355328 this
    omega
  have hS := hsum ls.length
  rw [List.take_length] at hS
  have hn : ((ls.length : Nat) : Int).natAbs ≤ 4096 := by omega
  have heb : eps.natAbs ≤ 140737488355328 := by have := wd_bd he; omega
  obtain ⟨r1, r2, r3⟩ := rsb_bd (f := f) hn heb hf
  have hsq : ∀ m, (rsb (ls.length : Int) eps f + dsq (ls.length : Int) ls.sum (ls.take m)).natAbs ≤ 170141183460469231731687303715884105727 := fun m => by
    have q := dsq_bd hn hS (ls.take m) (hmem m)
    have : (ls.take m).length ≤ 4096 := by rw [List.length_take]; omega
    have := Nat.mul_le_mul_right 162259276829213363391578010288128 this
    omega
  have hst : ∀ k, k < ls.length → ((ls.length : Int) * ls.getD k 0).natAbs ≤ 576460752303423488 ∧ ((ls.length : Int) * ls.getD k 0 - ls.sum).natAbs ≤ 1152921504606846976 ∧ (ls.getD k 0 * ((ls.length : Int) * ls.getD k 0 - ls.sum)).natAbs ≤ 162259276829213363391578010288128 := fun k hk => dist_bd hn hS (hwd k hk)
  obtain ⟨sm, hsm⟩ : ∃ g : Nat → Int, g = fun m => (ls.take m).sum := ⟨_, rfl⟩
  obtain ⟨sq, hsq'⟩ : ∃ g : Nat → Int, g = fun m => rsb (ls.length : Int) eps f + dsq (ls.length : Int) ls.sum (ls.take m) := ⟨_, rfl⟩
  have sm0 : sm 0 = 0 := by rw [hsm]; simp
  have sq0 : sq 0 = rsb (ls.length : Int) eps f := by rw [hsq']; simp [dsq]
  have smn : sm ls.length = ls.sum := by rw [hsm]; simp
  have sqn : sq ls.length = rsq ls eps f := by rw [hsq']; simp [rsq]
  have smk : ∀ k, k < ls.length → wrap64 (sm k + ls.getD k 0) = sm (k + 1) ∧ IntKind.i64.wrap (sm k + ls.getD k 0) = sm (k + 1) := fun k hk => by
    have e : sm k + ls.getD k 0 = sm (k + 1) := by rw [hsm]; exact (take_sum hk).symm
    have b := hsum (k + 1)
    have e3 : sm (k + 1) = (ls.take (k + 1)).sum := by rw [hsm]
    rw [e, e3]
    exact wrp (by omega)
  have sqR : ∀ m, R (sq m) := fun m => by
    have q := hsq m
    have e3 : sq m = rsb (ls.length : Int) eps f + dsq (ls.length : Int) ls.sum (ls.take m) := by rw [hsq']
    rw [e3, R_iff]; omega
  have sqk : ∀ k, k < ls.length → sq k + ls.getD k 0 * ((ls.length : Int) * ls.getD k 0 - ls.sum) = sq (k + 1) := fun k hk => by rw [hsq']; simp only []; rw [dsq_take hk]; omega
  obtain ⟨P, hP⟩ : ∃ P, P = (ls.length : Int) * ls.length := ⟨_, rfl⟩
  have W1 : Hid (wrap64 ((ls.length : Int) * ls.length) = (ls.length : Int) * ls.length ∧ IntKind.i64.wrap ((ls.length : Int) * ls.length) = (ls.length : Int) * ls.length) := Lib.hid (by rw [← hP]; exact wrp (by rw [hP]; omega))
  have KM0 : Hid (∀ W : World, Calls Tryz.prog 42 #[.int .i64 ((ls.length : Int) * ls.length), .int .i64 eps] W fun e w' => e = .returned (.agg #[.int .i64 (hi ((ls.length : Int) * ls.length * eps)), .int .u64 (lo ((ls.length : Int) * ls.length * eps))]) ∧ Below W.heap.size W w') := Lib.hid (fun W => (mul_any _ eps W (by omega) (by omega) (by omega) (by omega)).mono fun e w' h => ⟨h.1, by rw [← h.2]; exact (Below.refl _ _).alloc (Nat.le_refl _) _⟩)
  have KL : Hid (∀ W : World, Calls Tryz.prog 41 #[.agg #[.int .i64 (hi ((ls.length : Int) * ls.length * eps)), .int .u64 (lo ((ls.length : Int) * ls.length * eps))], .int .i64 (f : Int)] W fun e w' => e = .returned (.tuple #[.agg #[.int .i64 (hi (sq 0)), .int .u64 (lo (sq 0))], .int .i64 0]) ∧ Below W.heap.size W w') := Lib.hid (fun W => by
    have u := shl_any ((ls.length : Int) * ls.length * eps) f W (by rw [R_iff]; omega) (by omega)
    have e : (ls.length : Int) * ls.length * eps * 2 ^ f = sq 0 := by rw [sq0]; rfl
    rw [e, told_in (sqR 0), over_in (sqR 0)] at u
    exact u)
  have KD : Hid (∀ k, k < ls.length → ∀ (q : Int) (W : World), Calls Tryz.prog 44 #[.agg #[.int .i64 (ls.length : Int), .int .i64 ls.sum, .int .i64 (hi q), .int .u64 (lo q), .int .i64 (f : Int)], .int .i64 (ls.getD k 0)] W fun e w' => e = .returned (.int .i64 ((ls.length : Int) * ls.getD k 0 - ls.sum)) ∧ Below W.heap.size W w') := Lib.hid (fun k hk q W => distance_any _ _ q _ f (by have := hst k hk; omega) (by have := hst k hk; omega) W)
  have KM : Hid (∀ k, k < ls.length → ∀ W : World, Calls Tryz.prog 42 #[.int .i64 (ls.getD k 0), .int .i64 ((ls.length : Int) * ls.getD k 0 - ls.sum)] W fun e w' => e = .returned (.agg #[.int .i64 (hi (ls.getD k 0 * ((ls.length : Int) * ls.getD k 0 - ls.sum))), .int .u64 (lo (ls.getD k 0 * ((ls.length : Int) * ls.getD k 0 - ls.sum)))]) ∧ Below W.heap.size W w') := Lib.hid (fun k hk W => (mul_any _ _ W (by have := hwd k hk; omega) (by have := hwd k hk; omega) (by have := hst k hk; omega) (by have := hst k hk; omega)).mono fun e w' h => ⟨h.1, by rw [← h.2]; exact (Below.refl _ _).alloc (Nat.le_refl _) _⟩)
  have KA : Hid (∀ k, k < ls.length → ∀ W : World, Calls Tryz.prog 43 #[.agg #[.int .i64 (hi (sq k)), .int .u64 (lo (sq k))], .agg #[.int .i64 (hi (ls.getD k 0 * ((ls.length : Int) * ls.getD k 0 - ls.sum))), .int .u64 (lo (ls.getD k 0 * ((ls.length : Int) * ls.getD k 0 - ls.sum)))]] W fun e w' => e = .returned (.tuple #[.agg #[.int .i64 (hi (sq (k + 1))), .int .u64 (lo (sq (k + 1)))], .int .i64 0]) ∧ Below W.heap.size W w') := Lib.hid (fun k hk W => by
    have u := add_any (sq k) (ls.getD k 0 * ((ls.length : Int) * ls.getD k 0 - ls.sum)) W (sqR k) (by have := hst k hk; rw [R_iff]; omega)
    rw [sqk k hk, told_in (sqR (k + 1)), over_in (sqR (k + 1))] at u
    exact u)
  have HSM := Lib.hid smk
  have HE := Lib.hid (And.intro sm0 (And.intro smn sqn))
  obtain ⟨o, c, rfl, _, hx⟩ := id h
  have HX := Lib.hid h
  clear hx h hwd hmem hsum hS hn heb r1 r2 r3 hsq hst hsm hsq' sm0 sq0 smn sqn smk sqR sqk hP hw he hf
  obtain ⟨n, hn⟩ : ∃ n, n = ls.length := ⟨_, rfl⟩
  obtain ⟨S, hS⟩ : ∃ S, S = ls.sum := ⟨_, rfl⟩
  rw [← hn] at KM0 KL KD KM KA W1 HE HX HSM ⊢
  rw [← hS] at KD KM KA HE ⊢
  have HN := Lib.hid hn
  clear hn hS
  have hn4 : n ≤ 4096 := by have := HN.out; omega
  clear hl
  obtain ⟨w2, hw2⟩ : ∃ w2, w2 = (w.alloc (.cells #[.int .i64 0, .int .i64 0, .int .i64 0, .int .u64 0, .int .i64 0] 61)).alloc (.cells #[.int .i64 (n : Int), .int .i64 0, .int .i64 0, .int .u64 0, .int .i64 (f : Int)] 61) := ⟨_, rfl⟩
  have Z0 : Hid (Blk w2 (w.heap.size + 1) 61 #[.int .i64 (n : Int), .int .i64 (sm 0), .int .i64 0, .int .u64 0, .int .i64 (f : Int)]) := Lib.hid (by rw [hw2, HE.out.1]; exact blk_new1 w _ _ _)
  have Y0 : Hid (Blk w2 w.heap.size 61 #[.int .i64 0, .int .i64 0, .int .i64 0, .int .u64 0, .int .i64 0]) := Lib.hid (by rw [hw2]; exact (Blk.new w _ _).alloc _)
  have B0 : Hid (Below w.heap.size w w2) := Lib.hid (by rw [hw2]; exact ((Below.refl _ _).alloc (Nat.le_refl _) _).alloc (by simp) _)
  have HW := Lib.hid hw2
  clear hw2
  go_enter Tryz.func26, Tryz.ntmps26
  go_wp2
  rw [← HW.out]
  clear HW
  go_loopw [18] (fun s18 wQ => ∃ k : Nat, k ≤ n ∧ s18 = .int .i64 k ∧ Hid (Blk wQ (w.heap.size + 1) 61 #[.int .i64 (n : Int), .int .i64 (sm k), .int .i64 0, .int .u64 0, .int .i64 (f : Int)]) ∧ Hid (Blk wQ w.heap.size 61 #[.int .i64 0, .int .i64 0, .int .i64 0, .int .u64 0, .int .i64 0]) ∧ Hid (Below w.heap.size w wQ)) (fun s18 _ => n - (intOf s18).toNat)
  case atStart => exact ⟨0, Nat.zero_le _, rfl, Z0, Y0, B0⟩
  case round =>
    obtain ⟨k, hk, rfl, HZ, HY, HB⟩ := hrel
    by_cases hlt : k < n
    · as_aux_lemma =>
      obtain ⟨g, f0, ho, hgc⟩ := ld_at (HX.out.below HB.out) (k := k) (by rw [← HN.out]; exact hlt)
      subst ho
      obtain ⟨e1, e2⟩ := HSM.out k hlt
      obtain ⟨y0, y1, y2, y3, y4, _, _⟩ := blk5f HZ.out
      have pf1 := HZ.out.frozen 1
      generalize ls.getD k 0 = a at *
      go_wp2
      exact ⟨⟨k + 1, by omega, by go_num, Lib.hid (HZ.out.set_ 1 _), Lib.hid (HY.out.far (p := ⟨w.heap.size + 1, 1, none⟩) (Nat.ne_of_lt (Nat.lt_succ_self _)) _), Lib.hid (HB.out.setCell (p := ⟨w.heap.size + 1, 1, none⟩) (Nat.le_succ _) _)⟩, by simp [intOf]; omega⟩
    · as_aux_lemma =>
      obtain rfl : n = k := by omega
      clear hlt
      rw [HE.out.2.1] at HZ
      obtain ⟨y0, y1, y2, y3, y4, pf2, pf3⟩ := blk5f HZ.out
      obtain ⟨e1, e2⟩ := W1.out
      go_wp2_with (first | (go_at_call 42; (with_reducible refine (KM0.out _).mono ?_); rintro e w3 ⟨rfl, hb⟩; have B3 := Lib.hid (HB.out.trans (hb.mono HB.out.size)); have Z3 := Lib.hid (HZ.out.below hb HZ.out.lt); have Y3 := Lib.hid (HY.out.below hb HY.out.lt); clear hb) | (go_at_call 41; (with_reducible refine (KL.out _).mono ?_); rintro e w4 ⟨rfl, hb⟩; have B4 := Lib.hid (B3.out.trans (hb.mono B3.out.size)); have Z4 := Lib.hid (Z3.out.below hb Z3.out.lt); have Y4 := Lib.hid (Y3.out.below hb Y3.out.lt); obtain ⟨u0, u1, u2, u3, u4, pg2, pg3⟩ := blk5f Z4.out; clear hb))
      clear y0 y1 y2 y3 y4 pf2 pf3 u0 u1 u2 u3 u4 pg2 pg3 e1 e2
      have Z5 : Hid (Blk ((w4.setCell ⟨w.heap.size + 1, 2, none⟩ (.int .i64 (hi (sq 0)))).setCell ⟨w.heap.size + 1, 3, none⟩ (.int .u64 (lo (sq 0)))) (w.heap.size + 1) 61 #[.int .i64 (n : Int), .int .i64 S, .int .i64 (hi (sq 0)), .int .u64 (lo (sq 0)), .int .i64 (f : Int)]) := Lib.hid ((Z4.out.set_ 2 _).set_ 3 _)
      have Y5 := Lib.hid ((Y4.out.far (p := ⟨w.heap.size + 1, 2, none⟩) (Nat.ne_of_lt (Nat.lt_succ_self _)) (.int .i64 (hi (sq 0)))).far (p := ⟨w.heap.size + 1, 3, none⟩) (Nat.ne_of_lt (Nat.lt_succ_self _)) (.int .u64 (lo (sq 0))))
      have B5 := Lib.hid ((B4.out.setCell (p := ⟨w.heap.size + 1, 2, none⟩) (Nat.le_succ _) (.int .i64 (hi (sq 0)))).setCell (p := ⟨w.heap.size + 1, 3, none⟩) (Nat.le_succ _) (.int .u64 (lo (sq 0))))
      generalize (w4.setCell ⟨w.heap.size + 1, 2, none⟩ (.int .i64 (hi (sq 0)))).setCell ⟨w.heap.size + 1, 3, none⟩ (.int .u64 (lo (sq 0))) = w5 at *
      clear HZ HY HB B3 Z3 Y3 B4 Z4 Y4
      go_loopw [43] (fun s43 wQ => ∃ k : Nat, k ≤ n ∧ s43 = .int .i64 k ∧ Hid (Blk wQ (w.heap.size + 1) 61 #[.int .i64 (n : Int), .int .i64 S, .int .i64 (hi (sq k)), .int .u64 (lo (sq k)), .int .i64 (f : Int)]) ∧ Hid (Blk wQ w.heap.size 61 #[.int .i64 0, .int .i64 0, .int .i64 0, .int .u64 0, .int .i64 0]) ∧ Hid (Below w.heap.size w wQ)) (fun s43 _ => n - (intOf s43).toNat)
      case atStart => exact ⟨0, Nat.zero_le _, rfl, Z5, Y5, B5⟩
      case round =>
        obtain ⟨k, hk, rfl, HZ, HY, HB⟩ := hrel
        by_cases hlt : k < n
        · as_aux_lemma =>
          obtain ⟨g, f0, ho, hgc⟩ := ld_at (HX.out.below HB.out) (k := k) (by rw [← HN.out]; exact hlt)
          subst ho
          have KDk := Lib.hid (KD.out k hlt (sq k))
          have KMk := Lib.hid (KM.out k hlt)
          have KAk := Lib.hid (KA.out k hlt)
          obtain ⟨hN, hhN⟩ : ∃ x, x = hi (sq (k + 1)) := ⟨_, rfl⟩
          obtain ⟨lN, hlN⟩ : ∃ x, x = lo (sq (k + 1)) := ⟨_, rfl⟩
          rw [← hhN, ← hlN] at KAk
          have HHN := Lib.hid (And.intro hhN hlN)
          clear hhN hlN
          generalize hi (sq k) = hK at *
          generalize lo (sq k) = lK at *
          have KS : Hid (∀ (W : World) (x y : Value), Blk W (w.heap.size + 1) 61 #[.int .i64 (n : Int), .int .i64 S, x, y, .int .i64 (f : Int)] → W.cell? ⟨w.heap.size + 1, 0, none⟩ = some (.int .i64 (n : Int)) ∧ W.cell? ⟨w.heap.size + 1, 1, none⟩ = some (.int .i64 S) ∧ W.cell? ⟨w.heap.size + 1, 4, none⟩ = some (.int .i64 (f : Int))) := Lib.hid (fun W x y h => ⟨h.cell 0, h.cell 1, h.cell 4⟩)
          generalize ls.getD k 0 = a at *
          go_upto_region 11 with fail
          clear hgc
          obtain ⟨vr, hvr⟩ : ∃ v, v = wr := ⟨_, rfl⟩
          rw [← hvr] at HZ HY HB ⊢
          clear hvr
          have B_0 : Hid (Below vr.heap.size vr vr.drew) := Lib.hid (below_drw (Below.refl _ _) 1)
          have Z_0 : Hid (Blk vr.drew (w.heap.size + 1) 61 #[.int .i64 (n : Int), .int .i64 S, .int .i64 hK, .int .u64 lK, .int .i64 (f : Int)]) := Lib.hid HZ.out
          refine wp_region_noPanic ?_
          refine wp_region_held_drew (S := fun W => W.cell? ⟨w.heap.size + 1, 0, none⟩ = some (.int .i64 (n : Int)) ∧ W.cell? ⟨w.heap.size + 1, 1, none⟩ = some (.int .i64 S) ∧ W.cell? ⟨w.heap.size + 1, 4, none⟩ = some (.int .i64 (f : Int))) (by kernel_rfl) ?_ (fun hHeld => ?_)
          · exact KS.out _ _ _ Z_0.out
          have hHd := hHeld
          generalize vr.drew = w_0 at *
          (refine wpAnyH_take (i := 0) (oi := ⟨some 48, _, _, _, _, _⟩) (v := ?v0_r1) rfl (by kernel_rfl) (by kernel_rfl) (by kernel_rfl) (fun _ _ _ h => h) (Or.inl ⟨by rfl, ?hy0_r1⟩) (by assumption) ?rest0_r1; (case hy0_r1 => ((intro w hSw); (try dsimp only at hSw); go_simp; first | done | (with_reducible rfl))))
          (try simp only [Act.put, List.setIfInBounds_toArray, List.set_cons_zero, List.set_cons_succ])
          (refine wpAnyH_take (i := 2) (oi := ⟨some 50, _, _, _, _, _⟩) (v := ?v2_r2) rfl (by kernel_rfl) (by kernel_rfl) (by kernel_rfl) (fun _ _ _ h => h) (Or.inl ⟨by rfl, ?hy2_r2⟩) (by assumption) ?rest2_r2; (case hy2_r2 => ((intro w hSw); (try dsimp only at hSw); go_simp; first | done | (with_reducible rfl))))
          (try simp only [Act.put, List.setIfInBounds_toArray, List.set_cons_zero, List.set_cons_succ])
          (refine wpAnyH_take (i := 4) (oi := ⟨some 52, _, _, _, _, _⟩) (v := ?v4_r3) rfl (by kernel_rfl) (by kernel_rfl) (by kernel_rfl) (fun _ _ _ h => h) (Or.inl ⟨by rfl, ?hy4_r3⟩) (by assumption) ?rest4_r3; (case hy4_r3 => ((intro w hSw); (try dsimp only at hSw); go_simp; first | done | (with_reducible rfl))))
          (try simp only [Act.put, List.setIfInBounds_toArray, List.set_cons_zero, List.set_cons_succ])
          refine wpAnyH_ready (rs := [1, 3]) (by kernel_rfl) (by simp) ?_
          refine AllReadyH.cons (o := ⟨some 49, _, _, _, _, _⟩) rfl (fun K hK => ?_) (AllReadyH.cons (o := ⟨some 51, _, _, _, _, _⟩) rfl (fun K hK => ?_) (AllReadyH.nil))
          · (try clear p0 p1 p2 p3 p4 pf2 pf3)
            obtain ⟨p0, p1, p2, p3, p4, pf2, pf3⟩ := blk5f Z_0.out
            go_simp
            refine hK.out _ _ ?_ (fun hHeld => ?_)
            · (try dsimp only)
              exact KS.out _ _ _ Z_0.out
            clear hK K
            (try simp only [Act.put, List.setIfInBounds_toArray, List.set_cons_zero, List.set_cons_succ])
            refine wpAnyH_ready (rs := [3]) (by kernel_rfl) (by simp) ?_
            refine AllReadyH.cons (o := ⟨some 51, _, _, _, _, _⟩) rfl (fun K hK => ?_) (AllReadyH.nil)
            (try clear p0 p1 p2 p3 p4 pf2 pf3)
            obtain ⟨p0, p1, p2, p3, p4, pf2, pf3⟩ := blk5f Z_0.out
            go_simp
            refine hK.out _ _ ?_ (fun hHeld => ?_)
            · (try dsimp only)
              exact KS.out _ _ _ Z_0.out
            clear hK K
            (try simp only [Act.put, List.setIfInBounds_toArray, List.set_cons_zero, List.set_cons_succ])
            refine wpAnyH_ready (rs := [5]) (by kernel_rfl) (by simp) ?_
            refine AllReadyH.cons (o := ⟨some 53, _, _, _, _, _⟩) rfl (fun K hK => ?_) (AllReadyH.nil)
            go_simp
            (try clear p0 p1 p2 p3 p4 pf2 pf3)
            (go_at_call 44; (with_reducible refine (KDk.out _).mono ?_); rintro e w_1 ⟨rfl, hb⟩; have B_1 := Lib.hid (B_0.out.trans (hb.mono B_0.out.size)); have Z_1 := Lib.hid (Z_0.out.below hb Z_0.out.lt); clear hb)
            refine hK.out _ _ ?_ (fun hHeld => ?_)
            · (try dsimp only)
              exact KS.out _ _ _ Z_1.out
            clear hK K
            (try simp only [Act.put, List.setIfInBounds_toArray, List.set_cons_zero, List.set_cons_succ])
            refine wpAnyH_ready (rs := [6]) (by kernel_rfl) (by simp) ?_
            refine AllReadyH.cons (o := ⟨some 54, _, _, _, _, _⟩) rfl (fun K hK => ?_) (AllReadyH.nil)
            go_simp
            (try clear p0 p1 p2 p3 p4 pf2 pf3)
            (go_at_call 42; (with_reducible refine (KMk.out _).mono ?_); rintro e w_2 ⟨rfl, hb⟩; have B_2 := Lib.hid (B_1.out.trans (hb.mono B_1.out.size)); have Z_2 := Lib.hid (Z_1.out.below hb Z_1.out.lt); clear hb)
            refine hK.out _ _ ?_ (fun hHeld => ?_)
            · (try dsimp only)
              exact KS.out _ _ _ Z_2.out
            clear hK K
            (try simp only [Act.put, List.setIfInBounds_toArray, List.set_cons_zero, List.set_cons_succ])
            refine wpAnyH_ready (rs := [7]) (by kernel_rfl) (by simp) ?_
            refine AllReadyH.cons (o := ⟨some 55, _, _, _, _, _⟩) rfl (fun K hK => ?_) (AllReadyH.nil)
            go_simp
            (try clear p0 p1 p2 p3 p4 pf2 pf3)
            (go_at_call 43; (with_reducible refine (KAk.out _).mono ?_); rintro e w_3 ⟨rfl, hb⟩; have B_3 := Lib.hid (B_2.out.trans (hb.mono B_2.out.size)); have Z_3 := Lib.hid (Z_2.out.below hb Z_2.out.lt); clear hb)
            refine hK.out _ _ ?_ (fun hHeld => ?_)
            · (try dsimp only)
              exact KS.out _ _ _ Z_3.out
            clear hK K
            (try simp only [Act.put, List.setIfInBounds_toArray, List.set_cons_zero, List.set_cons_succ])
            (refine wpAnyH_take (i := 8) (oi := ⟨some 47, _, _, _, _, _⟩) (v := ?v8_r4) rfl (by kernel_rfl) (by kernel_rfl) (by kernel_rfl) (fun _ _ _ h => h) (Or.inl ⟨by rfl, ?hy8_r4⟩) (by assumption) ?rest8_r4; (case hy8_r4 => ((intro w hSw); (try dsimp only at hSw); go_simp; first | done | (with_reducible rfl))))
            (try simp only [Act.put, List.setIfInBounds_toArray, List.set_cons_zero, List.set_cons_succ])
            (refine wpAnyH_take (i := 9) (oi := ⟨some 56, _, _, _, _, _⟩) (v := ?v9_r5) rfl (by kernel_rfl) (by kernel_rfl) (by kernel_rfl) (fun _ _ _ h => h) (Or.inl ⟨by rfl, ?hy9_r5⟩) (by assumption) ?rest9_r5; (case hy9_r5 => ((intro w hSw); (try dsimp only at hSw); go_simp; first | done | (with_reducible rfl))))
            (try simp only [Act.put, List.setIfInBounds_toArray, List.set_cons_zero, List.set_cons_succ])
            (refine wpAnyH_take (i := 10) (oi := ⟨some 57, _, _, _, _, _⟩) (v := ?v10_r6) rfl (by kernel_rfl) (by kernel_rfl) (by kernel_rfl) (fun _ _ _ h => h) (Or.inl ⟨by rfl, ?hy10_r6⟩) (by assumption) ?rest10_r6; (case hy10_r6 => ((intro w hSw); (try dsimp only at hSw); go_simp; first | done | (with_reducible rfl))))
            (try simp only [Act.put, List.setIfInBounds_toArray, List.set_cons_zero, List.set_cons_succ])
            (refine wpAnyH_take (i := 11) (oi := ⟨some 58, _, _, _, _, _⟩) (v := ?v11_r7) rfl (by kernel_rfl) (by kernel_rfl) (by kernel_rfl) (fun _ _ _ h => h) (Or.inl ⟨by rfl, ?hy11_r7⟩) (by assumption) ?rest11_r7; (case hy11_r7 => ((intro w hSw); (try dsimp only at hSw); go_simp; first | done | (with_reducible rfl))))
            (try simp only [Act.put, List.setIfInBounds_toArray, List.set_cons_zero, List.set_cons_succ])
            refine wpAnyH_ready (rs := [12]) (by kernel_rfl) (by simp) ?_
            refine AllReadyH.cons (o := ⟨none, _, _, _, _, _⟩) rfl (fun K hK => ?_) (AllReadyH.nil)
            (try clear p0 p1 p2 p3 p4 pf2 pf3)
            obtain ⟨p0, p1, p2, p3, p4, pf2, pf3⟩ := blk5f Z_3.out
            have BF := Lib.hid (((HB.out.trans (B_3.out.mono HB.out.size)).setCell (p := ⟨w.heap.size + 1, 2, none⟩) (Nat.le_succ _) (.int .i64 hN)).setCell (p := ⟨w.heap.size + 1, 3, none⟩) (Nat.le_succ _) (.int .u64 lN))
            have YF := Lib.hid (((HY.out.below B_3.out HY.out.lt).far (p := ⟨w.heap.size + 1, 2, none⟩) (Nat.ne_of_lt (Nat.lt_succ_self _)) (.int .i64 hN)).far (p := ⟨w.heap.size + 1, 3, none⟩) (Nat.ne_of_lt (Nat.lt_succ_self _)) (.int .u64 lN))
            have ZF_1 := Lib.hid (Z_3.out.set_ 2 (.int .i64 hN))
            have ZF := Lib.hid (ZF_1.out.set_ 3 (.int .u64 lN))
            go_simp
            refine hK.out _ _ ?_ (fun hHeld => ?_)
            · (try dsimp only)
              exact KS.out _ _ _ ZF.out
            clear hK K
            (try simp only [Act.put, List.setIfInBounds_toArray, List.set_cons_zero, List.set_cons_succ])
            refine wpAnyH_done (by kernel_rfl) ?_ _
            refine NoPanic.normal ?_
            go_wp2
            refine ⟨⟨k + 1, by omega, by go_num, ?_, YF, BF⟩, by simp [intOf]; omega⟩
            rw [← HHN.out.1, ← HHN.out.2]
            exact ZF
          · (try clear p0 p1 p2 p3 p4 pf2 pf3)
            obtain ⟨p0, p1, p2, p3, p4, pf2, pf3⟩ := blk5f Z_0.out
            go_simp
            refine hK.out _ _ ?_ (fun hHeld => ?_)
            · (try dsimp only)
              exact KS.out _ _ _ Z_0.out
            clear hK K
            (try simp only [Act.put, List.setIfInBounds_toArray, List.set_cons_zero, List.set_cons_succ])
            refine wpAnyH_ready (rs := [1, 5]) (by kernel_rfl) (by simp) ?_
            refine AllReadyH.cons (o := ⟨some 49, _, _, _, _, _⟩) rfl (fun K hK => ?_) (AllReadyH.cons (o := ⟨some 53, _, _, _, _, _⟩) rfl (fun K hK => ?_) (AllReadyH.nil))
            · (try clear p0 p1 p2 p3 p4 pf2 pf3)
              obtain ⟨p0, p1, p2, p3, p4, pf2, pf3⟩ := blk5f Z_0.out
              go_simp
              refine hK.out _ _ ?_ (fun hHeld => ?_)
              · (try dsimp only)
                exact KS.out _ _ _ Z_0.out
              clear hK K
              (try simp only [Act.put, List.setIfInBounds_toArray, List.set_cons_zero, List.set_cons_succ])
              refine wpAnyH_ready (rs := [5]) (by kernel_rfl) (by simp) ?_
              refine AllReadyH.cons (o := ⟨some 53, _, _, _, _, _⟩) rfl (fun K hK => ?_) (AllReadyH.nil)
              go_simp
              (try clear p0 p1 p2 p3 p4 pf2 pf3)
              (go_at_call 44; (with_reducible refine (KDk.out _).mono ?_); rintro e w_4 ⟨rfl, hb⟩; have B_4 := Lib.hid (B_0.out.trans (hb.mono B_0.out.size)); have Z_4 := Lib.hid (Z_0.out.below hb Z_0.out.lt); clear hb)
              refine hK.out _ _ ?_ (fun hHeld => ?_)
              · (try dsimp only)
                exact KS.out _ _ _ Z_4.out
              clear hK K
              (try simp only [Act.put, List.setIfInBounds_toArray, List.set_cons_zero, List.set_cons_succ])
              refine wpAnyH_ready (rs := [6]) (by kernel_rfl) (by simp) ?_
              refine AllReadyH.cons (o := ⟨some 54, _, _, _, _, _⟩) rfl (fun K hK => ?_) (AllReadyH.nil)
              go_simp
              (try clear p0 p1 p2 p3 p4 pf2 pf3)
              (go_at_call 42; (with_reducible refine (KMk.out _).mono ?_); rintro e w_5 ⟨rfl, hb⟩; have B_5 := Lib.hid (B_4.out.trans (hb.mono B_4.out.size)); have Z_5 := Lib.hid (Z_4.out.below hb Z_4.out.lt); clear hb)
              refine hK.out _ _ ?_ (fun hHeld => ?_)
              · (try dsimp only)
                exact KS.out _ _ _ Z_5.out
              clear hK K
              (try simp only [Act.put, List.setIfInBounds_toArray, List.set_cons_zero, List.set_cons_succ])
              refine wpAnyH_ready (rs := [7]) (by kernel_rfl) (by simp) ?_
              refine AllReadyH.cons (o := ⟨some 55, _, _, _, _, _⟩) rfl (fun K hK => ?_) (AllReadyH.nil)
              go_simp
              (try clear p0 p1 p2 p3 p4 pf2 pf3)
              (go_at_call 43; (with_reducible refine (KAk.out _).mono ?_); rintro e w_6 ⟨rfl, hb⟩; have B_6 := Lib.hid (B_5.out.trans (hb.mono B_5.out.size)); have Z_6 := Lib.hid (Z_5.out.below hb Z_5.out.lt); clear hb)
              refine hK.out _ _ ?_ (fun hHeld => ?_)
              · (try dsimp only)
                exact KS.out _ _ _ Z_6.out
              clear hK K
              (try simp only [Act.put, List.setIfInBounds_toArray, List.set_cons_zero, List.set_cons_succ])
              (refine wpAnyH_take (i := 8) (oi := ⟨some 47, _, _, _, _, _⟩) (v := ?v8_r8) rfl (by kernel_rfl) (by kernel_rfl) (by kernel_rfl) (fun _ _ _ h => h) (Or.inl ⟨by rfl, ?hy8_r8⟩) (by assumption) ?rest8_r8; (case hy8_r8 => ((intro w hSw); (try dsimp only at hSw); go_simp; first | done | (with_reducible rfl))))
              (try simp only [Act.put, List.setIfInBounds_toArray, List.set_cons_zero, List.set_cons_succ])
              (refine wpAnyH_take (i := 9) (oi := ⟨some 56, _, _, _, _, _⟩) (v := ?v9_r9) rfl (by kernel_rfl) (by kernel_rfl) (by kernel_rfl) (fun _ _ _ h => h) (Or.inl ⟨by rfl, ?hy9_r9⟩) (by assumption) ?rest9_r9; (case hy9_r9 => ((intro w hSw); (try dsimp only at hSw); go_simp; first | done | (with_reducible rfl))))
              (try simp only [Act.put, List.setIfInBounds_toArray, List.set_cons_zero, List.set_cons_succ])
              (refine wpAnyH_take (i := 10) (oi := ⟨some 57, _, _, _, _, _⟩) (v := ?v10_r10) rfl (by kernel_rfl) (by kernel_rfl) (by kernel_rfl) (fun _ _ _ h => h) (Or.inl ⟨by rfl, ?hy10_r10⟩) (by assumption) ?rest10_r10; (case hy10_r10 => ((intro w hSw); (try dsimp only at hSw); go_simp; first | done | (with_reducible rfl))))
              (try simp only [Act.put, List.setIfInBounds_toArray, List.set_cons_zero, List.set_cons_succ])
              (refine wpAnyH_take (i := 11) (oi := ⟨some 58, _, _, _, _, _⟩) (v := ?v11_r11) rfl (by kernel_rfl) (by kernel_rfl) (by kernel_rfl) (fun _ _ _ h => h) (Or.inl ⟨by rfl, ?hy11_r11⟩) (by assumption) ?rest11_r11; (case hy11_r11 => ((intro w hSw); (try dsimp only at hSw); go_simp; first | done | (with_reducible rfl))))
              (try simp only [Act.put, List.setIfInBounds_toArray, List.set_cons_zero, List.set_cons_succ])
              refine wpAnyH_ready (rs := [12]) (by kernel_rfl) (by simp) ?_
              refine AllReadyH.cons (o := ⟨none, _, _, _, _, _⟩) rfl (fun K hK => ?_) (AllReadyH.nil)
              (try clear p0 p1 p2 p3 p4 pf2 pf3)
              obtain ⟨p0, p1, p2, p3, p4, pf2, pf3⟩ := blk5f Z_6.out
              have BF := Lib.hid (((HB.out.trans (B_6.out.mono HB.out.size)).setCell (p := ⟨w.heap.size + 1, 2, none⟩) (Nat.le_succ _) (.int .i64 hN)).setCell (p := ⟨w.heap.size + 1, 3, none⟩) (Nat.le_succ _) (.int .u64 lN))
              have YF := Lib.hid (((HY.out.below B_6.out HY.out.lt).far (p := ⟨w.heap.size + 1, 2, none⟩) (Nat.ne_of_lt (Nat.lt_succ_self _)) (.int .i64 hN)).far (p := ⟨w.heap.size + 1, 3, none⟩) (Nat.ne_of_lt (Nat.lt_succ_self _)) (.int .u64 lN))
              have ZF_1 := Lib.hid (Z_6.out.set_ 2 (.int .i64 hN))
              have ZF := Lib.hid (ZF_1.out.set_ 3 (.int .u64 lN))
              go_simp
              refine hK.out _ _ ?_ (fun hHeld => ?_)
              · (try dsimp only)
                exact KS.out _ _ _ ZF.out
              clear hK K
              (try simp only [Act.put, List.setIfInBounds_toArray, List.set_cons_zero, List.set_cons_succ])
              refine wpAnyH_done (by kernel_rfl) ?_ _
              refine NoPanic.normal ?_
              go_wp2
              refine ⟨⟨k + 1, by omega, by go_num, ?_, YF, BF⟩, by simp [intOf]; omega⟩
              rw [← HHN.out.1, ← HHN.out.2]
              exact ZF
            · go_simp
              (try clear p0 p1 p2 p3 p4 pf2 pf3)
              (go_at_call 44; (with_reducible refine (KDk.out _).mono ?_); rintro e w_7 ⟨rfl, hb⟩; have B_7 := Lib.hid (B_0.out.trans (hb.mono B_0.out.size)); have Z_7 := Lib.hid (Z_0.out.below hb Z_0.out.lt); clear hb)
              refine hK.out _ _ ?_ (fun hHeld => ?_)
              · (try dsimp only)
                exact KS.out _ _ _ Z_7.out
              clear hK K
              (try simp only [Act.put, List.setIfInBounds_toArray, List.set_cons_zero, List.set_cons_succ])
              refine wpAnyH_ready (rs := [1, 6]) (by kernel_rfl) (by simp) ?_
              refine AllReadyH.cons (o := ⟨some 49, _, _, _, _, _⟩) rfl (fun K hK => ?_) (AllReadyH.cons (o := ⟨some 54, _, _, _, _, _⟩) rfl (fun K hK => ?_) (AllReadyH.nil))
              · (try clear p0 p1 p2 p3 p4 pf2 pf3)
                obtain ⟨p0, p1, p2, p3, p4, pf2, pf3⟩ := blk5f Z_7.out
                go_simp
                refine hK.out _ _ ?_ (fun hHeld => ?_)
                · (try dsimp only)
                  exact KS.out _ _ _ Z_7.out
                clear hK K
                (try simp only [Act.put, List.setIfInBounds_toArray, List.set_cons_zero, List.set_cons_succ])
                refine wpAnyH_ready (rs := [6]) (by kernel_rfl) (by simp) ?_
                refine AllReadyH.cons (o := ⟨some 54, _, _, _, _, _⟩) rfl (fun K hK => ?_) (AllReadyH.nil)
                go_simp
                (try clear p0 p1 p2 p3 p4 pf2 pf3)
                (go_at_call 42; (with_reducible refine (KMk.out _).mono ?_); rintro e w_8 ⟨rfl, hb⟩; have B_8 := Lib.hid (B_7.out.trans (hb.mono B_7.out.size)); have Z_8 := Lib.hid (Z_7.out.below hb Z_7.out.lt); clear hb)
                refine hK.out _ _ ?_ (fun hHeld => ?_)
                · (try dsimp only)
                  exact KS.out _ _ _ Z_8.out
                clear hK K
                (try simp only [Act.put, List.setIfInBounds_toArray, List.set_cons_zero, List.set_cons_succ])
                refine wpAnyH_ready (rs := [7]) (by kernel_rfl) (by simp) ?_
                refine AllReadyH.cons (o := ⟨some 55, _, _, _, _, _⟩) rfl (fun K hK => ?_) (AllReadyH.nil)
                go_simp
                (try clear p0 p1 p2 p3 p4 pf2 pf3)
                (go_at_call 43; (with_reducible refine (KAk.out _).mono ?_); rintro e w_9 ⟨rfl, hb⟩; have B_9 := Lib.hid (B_8.out.trans (hb.mono B_8.out.size)); have Z_9 := Lib.hid (Z_8.out.below hb Z_8.out.lt); clear hb)
                refine hK.out _ _ ?_ (fun hHeld => ?_)
                · (try dsimp only)
                  exact KS.out _ _ _ Z_9.out
                clear hK K
                (try simp only [Act.put, List.setIfInBounds_toArray, List.set_cons_zero, List.set_cons_succ])
                (refine wpAnyH_take (i := 8) (oi := ⟨some 47, _, _, _, _, _⟩) (v := ?v8_r12) rfl (by kernel_rfl) (by kernel_rfl) (by kernel_rfl) (fun _ _ _ h => h) (Or.inl ⟨by rfl, ?hy8_r12⟩) (by assumption) ?rest8_r12; (case hy8_r12 => ((intro w hSw); (try dsimp only at hSw); go_simp; first | done | (with_reducible rfl))))
                (try simp only [Act.put, List.setIfInBounds_toArray, List.set_cons_zero, List.set_cons_succ])
                (refine wpAnyH_take (i := 9) (oi := ⟨some 56, _, _, _, _, _⟩) (v := ?v9_r13) rfl (by kernel_rfl) (by kernel_rfl) (by kernel_rfl) (fun _ _ _ h => h) (Or.inl ⟨by rfl, ?hy9_r13⟩) (by assumption) ?rest9_r13; (case hy9_r13 => ((intro w hSw); (try dsimp only at hSw); go_simp; first | done | (with_reducible rfl))))
                (try simp only [Act.put, List.setIfInBounds_toArray, List.set_cons_zero, List.set_cons_succ])
                (refine wpAnyH_take (i := 10) (oi := ⟨some 57, _, _, _, _, _⟩) (v := ?v10_r14) rfl (by kernel_rfl) (by kernel_rfl) (by kernel_rfl) (fun _ _ _ h => h) (Or.inl ⟨by rfl, ?hy10_r14⟩) (by assumption) ?rest10_r14; (case hy10_r14 => ((intro w hSw); (try dsimp only at hSw); go_simp; first | done | (with_reducible rfl))))
                (try simp only [Act.put, List.setIfInBounds_toArray, List.set_cons_zero, List.set_cons_succ])
                (refine wpAnyH_take (i := 11) (oi := ⟨some 58, _, _, _, _, _⟩) (v := ?v11_r15) rfl (by kernel_rfl) (by kernel_rfl) (by kernel_rfl) (fun _ _ _ h => h) (Or.inl ⟨by rfl, ?hy11_r15⟩) (by assumption) ?rest11_r15; (case hy11_r15 => ((intro w hSw); (try dsimp only at hSw); go_simp; first | done | (with_reducible rfl))))
                (try simp only [Act.put, List.setIfInBounds_toArray, List.set_cons_zero, List.set_cons_succ])
                refine wpAnyH_ready (rs := [12]) (by kernel_rfl) (by simp) ?_
                refine AllReadyH.cons (o := ⟨none, _, _, _, _, _⟩) rfl (fun K hK => ?_) (AllReadyH.nil)
                (try clear p0 p1 p2 p3 p4 pf2 pf3)
                obtain ⟨p0, p1, p2, p3, p4, pf2, pf3⟩ := blk5f Z_9.out
                have BF := Lib.hid (((HB.out.trans (B_9.out.mono HB.out.size)).setCell (p := ⟨w.heap.size + 1, 2, none⟩) (Nat.le_succ _) (.int .i64 hN)).setCell (p := ⟨w.heap.size + 1, 3, none⟩) (Nat.le_succ _) (.int .u64 lN))
                have YF := Lib.hid (((HY.out.below B_9.out HY.out.lt).far (p := ⟨w.heap.size + 1, 2, none⟩) (Nat.ne_of_lt (Nat.lt_succ_self _)) (.int .i64 hN)).far (p := ⟨w.heap.size + 1, 3, none⟩) (Nat.ne_of_lt (Nat.lt_succ_self _)) (.int .u64 lN))
                have ZF_1 := Lib.hid (Z_9.out.set_ 2 (.int .i64 hN))
                have ZF := Lib.hid (ZF_1.out.set_ 3 (.int .u64 lN))
                go_simp
                refine hK.out _ _ ?_ (fun hHeld => ?_)
                · (try dsimp only)
                  exact KS.out _ _ _ ZF.out
                clear hK K
                (try simp only [Act.put, List.setIfInBounds_toArray, List.set_cons_zero, List.set_cons_succ])
                refine wpAnyH_done (by kernel_rfl) ?_ _
                refine NoPanic.normal ?_
                go_wp2
                refine ⟨⟨k + 1, by omega, by go_num, ?_, YF, BF⟩, by simp [intOf]; omega⟩
                rw [← HHN.out.1, ← HHN.out.2]
                exact ZF
              · go_simp
                (try clear p0 p1 p2 p3 p4 pf2 pf3)
                (go_at_call 42; (with_reducible refine (KMk.out _).mono ?_); rintro e w_10 ⟨rfl, hb⟩; have B_10 := Lib.hid (B_7.out.trans (hb.mono B_7.out.size)); have Z_10 := Lib.hid (Z_7.out.below hb Z_7.out.lt); clear hb)
                refine hK.out _ _ ?_ (fun hHeld => ?_)
                · (try dsimp only)
                  exact KS.out _ _ _ Z_10.out
                clear hK K
                (try simp only [Act.put, List.setIfInBounds_toArray, List.set_cons_zero, List.set_cons_succ])
                refine wpAnyH_ready (rs := [1]) (by kernel_rfl) (by simp) ?_
                refine AllReadyH.cons (o := ⟨some 49, _, _, _, _, _⟩) rfl (fun K hK => ?_) (AllReadyH.nil)
                (try clear p0 p1 p2 p3 p4 pf2 pf3)
                obtain ⟨p0, p1, p2, p3, p4, pf2, pf3⟩ := blk5f Z_10.out
                go_simp
                refine hK.out _ _ ?_ (fun hHeld => ?_)
                · (try dsimp only)
                  exact KS.out _ _ _ Z_10.out
                clear hK K
                (try simp only [Act.put, List.setIfInBounds_toArray, List.set_cons_zero, List.set_cons_succ])
                refine wpAnyH_ready (rs := [7]) (by kernel_rfl) (by simp) ?_
                refine AllReadyH.cons (o := ⟨some 55, _, _, _, _, _⟩) rfl (fun K hK => ?_) (AllReadyH.nil)
                go_simp
                (try clear p0 p1 p2 p3 p4 pf2 pf3)
                (go_at_call 43; (with_reducible refine (KAk.out _).mono ?_); rintro e w_11 ⟨rfl, hb⟩; have B_11 := Lib.hid (B_10.out.trans (hb.mono B_10.out.size)); have Z_11 := Lib.hid (Z_10.out.below hb Z_10.out.lt); clear hb)
                refine hK.out _ _ ?_ (fun hHeld => ?_)
                · (try dsimp only)
                  exact KS.out _ _ _ Z_11.out
                clear hK K
                (try simp only [Act.put, List.setIfInBounds_toArray, List.set_cons_zero, List.set_cons_succ])
                (refine wpAnyH_take (i := 8) (oi := ⟨some 47, _, _, _, _, _⟩) (v := ?v8_r16) rfl (by kernel_rfl) (by kernel_rfl) (by kernel_rfl) (fun _ _ _ h => h) (Or.inl ⟨by rfl, ?hy8_r16⟩) (by assumption) ?rest8_r16; (case hy8_r16 => ((intro w hSw); (try dsimp only at hSw); go_simp; first | done | (with_reducible rfl))))
                (try simp only [Act.put, List.setIfInBounds_toArray, List.set_cons_zero, List.set_cons_succ])
                (refine wpAnyH_take (i := 9) (oi := ⟨some 56, _, _, _, _, _⟩) (v := ?v9_r17) rfl (by kernel_rfl) (by kernel_rfl) (by kernel_rfl) (fun _ _ _ h => h) (Or.inl ⟨by rfl, ?hy9_r17⟩) (by assumption) ?rest9_r17; (case hy9_r17 => ((intro w hSw); (try dsimp only at hSw); go_simp; first | done | (with_reducible rfl))))
                (try simp only [Act.put, List.setIfInBounds_toArray, List.set_cons_zero, List.set_cons_succ])
                (refine wpAnyH_take (i := 10) (oi := ⟨some 57, _, _, _, _, _⟩) (v := ?v10_r18) rfl (by kernel_rfl) (by kernel_rfl) (by kernel_rfl) (fun _ _ _ h => h) (Or.inl ⟨by rfl, ?hy10_r18⟩) (by assumption) ?rest10_r18; (case hy10_r18 => ((intro w hSw); (try dsimp only at hSw); go_simp; first | done | (with_reducible rfl))))
                (try simp only [Act.put, List.setIfInBounds_toArray, List.set_cons_zero, List.set_cons_succ])
                (refine wpAnyH_take (i := 11) (oi := ⟨some 58, _, _, _, _, _⟩) (v := ?v11_r19) rfl (by kernel_rfl) (by kernel_rfl) (by kernel_rfl) (fun _ _ _ h => h) (Or.inl ⟨by rfl, ?hy11_r19⟩) (by assumption) ?rest11_r19; (case hy11_r19 => ((intro w hSw); (try dsimp only at hSw); go_simp; first | done | (with_reducible rfl))))
                (try simp only [Act.put, List.setIfInBounds_toArray, List.set_cons_zero, List.set_cons_succ])
                refine wpAnyH_ready (rs := [12]) (by kernel_rfl) (by simp) ?_
                refine AllReadyH.cons (o := ⟨none, _, _, _, _, _⟩) rfl (fun K hK => ?_) (AllReadyH.nil)
                (try clear p0 p1 p2 p3 p4 pf2 pf3)
                obtain ⟨p0, p1, p2, p3, p4, pf2, pf3⟩ := blk5f Z_11.out
                have BF := Lib.hid (((HB.out.trans (B_11.out.mono HB.out.size)).setCell (p := ⟨w.heap.size + 1, 2, none⟩) (Nat.le_succ _) (.int .i64 hN)).setCell (p := ⟨w.heap.size + 1, 3, none⟩) (Nat.le_succ _) (.int .u64 lN))
                have YF := Lib.hid (((HY.out.below B_11.out HY.out.lt).far (p := ⟨w.heap.size + 1, 2, none⟩) (Nat.ne_of_lt (Nat.lt_succ_self _)) (.int .i64 hN)).far (p := ⟨w.heap.size + 1, 3, none⟩) (Nat.ne_of_lt (Nat.lt_succ_self _)) (.int .u64 lN))
                have ZF_1 := Lib.hid (Z_11.out.set_ 2 (.int .i64 hN))
                have ZF := Lib.hid (ZF_1.out.set_ 3 (.int .u64 lN))
                go_simp
                refine hK.out _ _ ?_ (fun hHeld => ?_)
                · (try dsimp only)
                  exact KS.out _ _ _ ZF.out
                clear hK K
                (try simp only [Act.put, List.setIfInBounds_toArray, List.set_cons_zero, List.set_cons_succ])
                refine wpAnyH_done (by kernel_rfl) ?_ _
                refine NoPanic.normal ?_
                go_wp2
                refine ⟨⟨k + 1, by omega, by go_num, ?_, YF, BF⟩, by simp [intOf]; omega⟩
                rw [← HHN.out.1, ← HHN.out.2]
                exact ZF
        · as_aux_lemma =>
          obtain rfl : n = k := by omega
          clear hlt
          rw [HE.out.2.2] at HZ
          obtain ⟨y0, y1, y2, y3, y4, _, _⟩ := blk5f HZ.out
          obtain ⟨z0, z1, z2, z3, z4, _, _⟩ := blk5f HY.out
          have q0 := HY.out.frozen 0
          have q1 := HY.out.frozen 1
          have q2 := HY.out.frozen 2
          have q3 := HY.out.frozen 3
          have q4 := HY.out.frozen 4
          go_wp2
          refine bodyPost_ret (v := Rw (n : Int) S (rsq ls eps f) f) (by simp [results, Tryz.results26, go_sem, Rw, z0, z1, z2, z3, z4]) rfl ⟨rfl, ?_⟩
          exact ((((HB.out.setCell (p := ⟨w.heap.size, 0, none⟩) (Nat.le_refl _) _).setCell (p := ⟨w.heap.size, 1, none⟩) (Nat.le_refl _) _).setCell (p := ⟨w.heap.size, 2, none⟩) (Nat.le_refl _) _).setCell (p := ⟨w.heap.size, 3, none⟩) (Nat.le_refl _) _).setCell (p := ⟨w.heap.size, 4, none⟩) (Nat.le_refl _) _
end Go.Proofs.YtldchepfcgbpiaaGreat
namespace Go.Proofs.YtldchepfcgbpiaaGreat
open Go.RowKit Go.Shelf

/-- What stands while Norm asks: its boxes. -/
def NmF (w : World) (vs vd : Value) (eps f : Int) (W : World) : Prop := Below w.heap.size w W ∧ Blk W w.heap.size 26 #[vs, vd] ∧ Blk W (w.heap.size + 1) 2 #[.int .i64 eps] ∧ Blk W (w.heap.size + 2) 3 #[.int .i64 f] ∧ Blk W (w.heap.size + 3) 26 #[.slice none 0 0, .slice none 0 0]
theorem NmF.next {w : World} {vs vd : Value} {eps f : Int} {W W' : World} (h : NmF w vs vd eps f W) (hb : Below W.heap.size W W') : NmF w vs vd eps f W' := ⟨h.1.trans (hb.mono h.1.size), h.2.1.below hb h.2.1.lt, h.2.2.1.below hb h.2.2.1.lt, h.2.2.2.1.below hb h.2.2.2.1.lt, h.2.2.2.2.below hb h.2.2.2.2.lt⟩
theorem NmF.start (w : World) (vs vd : Value) (eps f : Int) : NmF w vs vd eps f ((((w.alloc (.cells #[vs, vd] 26)).alloc (.cells #[.int .i64 eps] 2)).alloc (.cells #[.int .i64 f] 3)).alloc (.cells #[.slice none 0 0, .slice none 0 0] 26)) := by
  refine ⟨((((Below.refl _ _).alloc (Nat.le_refl _) _).alloc (by simp) _).alloc (by simp; omega) _).alloc (by simp; omega) _, (((Blk.new w _ _).alloc _).alloc _).alloc _, ?_, ?_, ?_⟩
  · have q := Blk.new (w.alloc (.cells #[vs, vd] 26)) 2 #[.int .i64 eps]
    rw [World.size_alloc] at q
    exact (q.alloc _).alloc _
  · have q := Blk.new ((w.alloc (.cells #[vs, vd] 26)).alloc (.cells #[.int .i64 eps] 2)) 3 #[.int .i64 f]
    rw [World.size_alloc, World.size_alloc] at q
    exact q.alloc _
  · have q := Blk.new (((w.alloc (.cells #[vs, vd] 26)).alloc (.cells #[.int .i64 eps] 2)).alloc (.cells #[.int .i64 f] 3)) 26 #[.slice none 0 0, .slice none 0 0]
    rw [World.size_alloc, World.size_alloc, World.size_alloc] at q
    exact q
set_option maxRecDepth 100000 in
set_option maxHeartbeats 6000000 in
/-- ErrForm, or ErrShape. -/
theorem norm_no (vs vd : Value) (sh ds : List Int) (eps f : Int) (w : World) (hs : Ld w vs sh) (hd : Ld w vd ds) (ls : sh.length ≤ 17592186044416) (ld : ds.length ≤ 17592186044416) :
    ((tnb sh ds && wd eps && decide (0 < eps) && fb f) = false → Calls Tryz.prog 10 #[.agg #[vs, vd], .int .i64 eps, .int .i64 f] w (SomeT w 1 [] [])) ∧
    ((tnb sh ds && wd eps && decide (0 < eps) && fb f) = true → sh.length = 0 → Calls Tryz.prog 10 #[.agg #[vs, vd], .int .i64 eps, .int .i64 f] w (SomeT w 2 [] [])) := by
  have KC := Lib.hid (fun (W : World) (hW : Below w.heap.size w W) => echeck_any vs vd sh ds W (hs.below hW) (hd.below hW) ls ld)
  have KE := Lib.hid (fun W : World => check_any eps W)
  have KF := Lib.hid (fun W : World => checkf_any f W)
  obtain ⟨os, cs, rfl, _, _⟩ := hs
  obtain ⟨od, cd, rfl, _, _⟩ := hd
  obtain ⟨FR, hFR⟩ : ∃ FR : World → Prop, FR = NmF w (.slice os sh.length cs) (.slice od ds.length cd) eps f := ⟨_, rfl⟩
  have FRb : Hid (∀ W, FR W → Below w.heap.size w W) := Lib.hid (fun W h => by rw [hFR] at h; exact h.1)
  have FRn : Hid (∀ W W', FR W → Below W.heap.size W W' → FR W') := Lib.hid (fun W W' h hb => by rw [hFR] at h ⊢; exact h.next hb)
  have FRk : Hid (∀ W, FR W → W.cell? ⟨w.heap.size, 0, none⟩ = some (.slice os sh.length cs) ∧ W.cell? ⟨w.heap.size, 1, none⟩ = some (.slice od ds.length cd) ∧ W.cell? ⟨w.heap.size + 1, 0, none⟩ = some (.int .i64 eps) ∧ W.cell? ⟨w.heap.size + 2, 0, none⟩ = some (.int .i64 f) ∧ W.cell? ⟨w.heap.size + 3, 0, none⟩ = some (.slice none 0 0) ∧ W.cell? ⟨w.heap.size + 3, 1, none⟩ = some (.slice none 0 0) ∧ W.frozen? ⟨w.heap.size + 3, 0, none⟩ = false ∧ W.frozen? ⟨w.heap.size + 3, 1, none⟩ = false) := Lib.hid (fun W h => by rw [hFR] at h; exact ⟨h.2.1.cell 0, h.2.1.cell 1, h.2.2.1.cell 0, h.2.2.2.1.cell 0, h.2.2.2.2.cell 0, h.2.2.2.2.cell 1, h.2.2.2.2.frozen 0, h.2.2.2.2.frozen 1⟩)
  have F1 : Hid (FR ((((w.alloc (.cells #[.slice os sh.length cs, .slice od ds.length cd] 26)).alloc (.cells #[.int .i64 eps] 2)).alloc (.cells #[.int .i64 f] 3)).alloc (.cells #[.slice none 0 0, .slice none 0 0] 26))) := Lib.hid (by rw [hFR]; exact NmF.start w _ _ _ _)
  clear hFR
  cases ta : tnb sh ds with
  | false =>
    refine ⟨fun _ => ?_, fun h => by simp at h⟩
    rw [ta] at KC
    clear ta
    go_enter Tryz.func10, Tryz.ntmps10
    go_wp2_with (first | (go_at_call 21; (with_reducible refine (KC.out _ (FRb.out _ F1.out)).mono ?_); rintro e w2 ⟨rfl, hb⟩; have F2 := Lib.hid (FRn.out _ _ F1.out hb); obtain ⟨x0, x1, x2, x3, x4, x5, pf4, pf5⟩ := FRk.out _ F2.out; clear hb) | (go_at_call 22; (with_reducible refine (KE.out _).mono ?_); rintro e w' ⟨rfl, rfl⟩) | (go_at_call 23; (with_reducible refine (KF.out _).mono ?_); rintro e w' ⟨rfl, rfl⟩))
    refine bodyPost_ret (v := .tuple #[.agg #[.slice none 0 0, .slice none 0 0], .int .i64 1]) (by simp [results, Tryz.results10, go_sem, x4, x5]) rfl ⟨none, 0, none, 0, rfl, World.ownsRow_nil _ _ _ _, World.ownsRow_nil _ _ _ _, ?_⟩
    exact ((FRb.out _ F2.out).setCell (p := ⟨w.heap.size + 3, 0, none⟩) (by simp) _).setCell (p := ⟨w.heap.size + 3, 1, none⟩) (by simp) _
  | true =>
    rw [ta] at KC
    clear ta
    cases we : wd eps with
    | false =>
      refine ⟨fun _ => ?_, fun h => by simp at h⟩
      rw [we] at KE
      clear we
      go_enter Tryz.func10, Tryz.ntmps10
      go_wp2_with (first | (go_at_call 21; (with_reducible refine (KC.out _ (FRb.out _ F1.out)).mono ?_); rintro e w2 ⟨rfl, hb⟩; have F2 := Lib.hid (FRn.out _ _ F1.out hb); obtain ⟨x0, x1, x2, x3, x4, x5, pf4, pf5⟩ := FRk.out _ F2.out; clear hb) | (go_at_call 22; (with_reducible refine (KE.out _).mono ?_); rintro e w' ⟨rfl, rfl⟩) | (go_at_call 23; (with_reducible refine (KF.out _).mono ?_); rintro e w' ⟨rfl, rfl⟩))
      refine bodyPost_ret (v := .tuple #[.agg #[.slice none 0 0, .slice none 0 0], .int .i64 1]) (by simp [results, Tryz.results10, go_sem, x4, x5]) rfl ⟨none, 0, none, 0, rfl, World.ownsRow_nil _ _ _ _, World.ownsRow_nil _ _ _ _, ?_⟩
      exact ((FRb.out _ F2.out).setCell (p := ⟨w.heap.size + 3, 0, none⟩) (by simp) _).setCell (p := ⟨w.heap.size + 3, 1, none⟩) (by simp) _
    | true =>
      rw [we] at KE
      clear we
      by_cases e0 : 0 < eps
      · cases hf : fb f with
        | false =>
          refine ⟨fun _ => ?_, fun h => by simp at h⟩
          rw [hf] at KF
          clear hf
          go_enter Tryz.func10, Tryz.ntmps10
          go_wp2_with (first | (go_at_call 21; (with_reducible refine (KC.out _ (FRb.out _ F1.out)).mono ?_); rintro e w2 ⟨rfl, hb⟩; have F2 := Lib.hid (FRn.out _ _ F1.out hb); obtain ⟨x0, x1, x2, x3, x4, x5, pf4, pf5⟩ := FRk.out _ F2.out; clear hb) | (go_at_call 22; (with_reducible refine (KE.out _).mono ?_); rintro e w' ⟨rfl, rfl⟩) | (go_at_call 23; (with_reducible refine (KF.out _).mono ?_); rintro e w' ⟨rfl, rfl⟩))
          refine bodyPost_ret (v := .tuple #[.agg #[.slice none 0 0, .slice none 0 0], .int .i64 1]) (by simp [results, Tryz.results10, go_sem, x4, x5]) rfl ⟨none, 0, none, 0, rfl, World.ownsRow_nil _ _ _ _, World.ownsRow_nil _ _ _ _, ?_⟩
          exact ((FRb.out _ F2.out).setCell (p := ⟨w.heap.size + 3, 0, none⟩) (by simp) _).setCell (p := ⟨w.heap.size + 3, 1, none⟩) (by simp) _
        | true =>
          refine ⟨fun h => by simp [e0] at h, fun _ h0 => ?_⟩
          rw [hf] at KF
          clear hf
          rw [h0] at KC FRk F1 ⊢
          clear h0 ls
          go_enter Tryz.func10, Tryz.ntmps10
          go_wp2_with (first | (go_at_call 21; (with_reducible refine (KC.out _ (FRb.out _ F1.out)).mono ?_); rintro e w2 ⟨rfl, hb⟩; have F2 := Lib.hid (FRn.out _ _ F1.out hb); obtain ⟨x0, x1, x2, x3, x4, x5, pf4, pf5⟩ := FRk.out _ F2.out; clear hb) | (go_at_call 22; (with_reducible refine (KE.out _).mono ?_); rintro e w' ⟨rfl, rfl⟩) | (go_at_call 23; (with_reducible refine (KF.out _).mono ?_); rintro e w' ⟨rfl, rfl⟩))
          refine bodyPost_ret (v := .tuple #[.agg #[.slice none 0 0, .slice none 0 0], .int .i64 2]) (by simp [results, Tryz.results10, go_sem, x4, x5]) rfl ⟨none, 0, none, 0, rfl, World.ownsRow_nil _ _ _ _, World.ownsRow_nil _ _ _ _, ?_⟩
          exact ((FRb.out _ F2.out).setCell (p := ⟨w.heap.size + 3, 0, none⟩) (by simp) _).setCell (p := ⟨w.heap.size + 3, 1, none⟩) (by simp) _
      · refine ⟨fun _ => ?_, fun h => by simp [e0] at h⟩
        go_enter Tryz.func10, Tryz.ntmps10
        go_wp2_with (first | (go_at_call 21; (with_reducible refine (KC.out _ (FRb.out _ F1.out)).mono ?_); rintro e w2 ⟨rfl, hb⟩; have F2 := Lib.hid (FRn.out _ _ F1.out hb); obtain ⟨x0, x1, x2, x3, x4, x5, pf4, pf5⟩ := FRk.out _ F2.out; clear hb) | (go_at_call 22; (with_reducible refine (KE.out _).mono ?_); rintro e w' ⟨rfl, rfl⟩) | (go_at_call 23; (with_reducible refine (KF.out _).mono ?_); rintro e w' ⟨rfl, rfl⟩))
        refine bodyPost_ret (v := .tuple #[.agg #[.slice none 0 0, .slice none 0 0], .int .i64 1]) (by simp [results, Tryz.results10, go_sem, x4, x5]) rfl ⟨none, 0, none, 0, rfl, World.ownsRow_nil _ _ _ _, World.ownsRow_nil _ _ _ _, ?_⟩
        exact ((FRb.out _ F2.out).setCell (p := ⟨w.heap.size + 3, 0, none⟩) (by simp) _).setCell (p := ⟨w.heap.size + 3, 1, none⟩) (by simp) _
end Go.Proofs.YtldchepfcgbpiaaGreat
namespace Go.Proofs.YtldchepfcgbpiaaGreat
open Go.RowKit Go.Shelf

/-- All words, each in its row of n words, normed. -/
def nrt (n : Nat) (ds : List Int) (eps : Int) (f : Nat) : List Int := (List.range ds.length).map fun p => nmv (rsq ((ds.drop (p / n * n)).take n) eps f) ((n : Int) * ds.getD p 0 - ((ds.drop (p / n * n)).take n).sum) f
theorem nrt_len (n : Nat) (ds : List Int) (eps : Int) (f : Nat) : (nrt n ds eps f).length = ds.length := by simp [nrt]
theorem nrt_at {n l j : Nat} {ds : List Int} (eps : Int) (f : Nat) (hj : j < n) (h : l * n + n ≤ ds.length) : (nrt n ds eps f).getD (l * n + j) 0 = nmv (rsq ((ds.drop (l * n)).take n) eps f) ((n : Int) * ((ds.drop (l * n)).take n).getD j 0 - ((ds.drop (l * n)).take n).sum) f := by
  have e : (l * n + j) / n = l := by
    rw [Nat.mul_comm, Nat.mul_add_div (by omega), Nat.div_eq_of_lt hj, Nat.add_zero]
  have hp : l * n + j < ds.length := by omega
  have e2 : ((ds.drop (l * n)).take n).getD j 0 = ds.getD (l * n + j) 0 := by simp [List.getD, List.getElem?_drop, hj]
  rw [e2]
  simp only [nrt, List.getD, List.getElem?_map, List.getElem?_range hp, Option.map_some, Option.getD_some, e]
theorem take_snoc {l : List Int} {q : Nat} (h : q < l.length) : l.take (q + 1) = l.take q ++ [l.getD q 0] := by
  rw [List.take_add_one]
  simp [List.getD, List.getElem?_eq_getElem h]
theorem rsq_pos1 {l : List Int} {eps : Int} {f : Nat} (he : 0 < eps) (hl : 1 ≤ l.length) : 0 < rsq l eps f := by
  have h := cauchy l
  have g : 0 < rsb (l.length : Int) eps f := Int.mul_pos (Int.mul_pos (Int.mul_pos (by omega) (by omega)) he) (Int.pow_pos (by decide))
  unfold rsq
  rw [dsq_open]
  omega
end Go.Proofs.YtldchepfcgbpiaaGreat
