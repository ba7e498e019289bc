/-
  package norm: what follows: a word added to all, the negatives, greater words, the squares together.
  A told tensor's box is written: a row of another kind stands.
  Words laid where indexes stand; which places are taken; plain mathematics.
  slices.Clone of words.
  The reference's views: which may be, axes, the plain one.
  view.Reshape; the reference's plain view.
  The view laws' own helpers: views held against one another, copied, written over, asked.
  Of the references that the laws of package view call: words copied and spoilt, where an index stands.
  The reference's copy of a tensor; words' signs; a tensor told by its words.
  Lists of limbs: their trailing noughts, their value; what a slice of limbs reads as.
  The references' whole numbers: noughts on top are cut; a word as a number.
  The references' whole numbers: limbs of 64 bits in digits of 32, and back.
  The references' whole numbers: digits of 32 bits as limbs of 64.
-/
import Derived.Deep.QuietTactic
import Derived.BigQuiet
import Derived.Deep.DeepBigQuietO
import Derived.WalkKit
import Derived.WalkSpells
import Derived.Lib.Hide
import Derived.LoopTactic
import Derived.OwnWalk
import Derived.Laws.AppendOwn
import Derived.Deep.RegionHeld3
import Derived.Deep.AppendLies
import Derived.Laws.BitsAllLaws
import Derived.Test.YtimmgmhgahbcbaaM01
import Derived.Test.YtimmgmhgahbcbaaM02
import Derived.Test.YtimmgmhgahbcbaaM03
import Derived.Test.YtimmgmhgahbcbaaM05
import Derived.Test.YtimmgmhgahbcbaaM08
namespace Go.Proofs.Ytimmgmhgahbcbaa
open Go.RowKit Go.Shelf

/-- What a row's word is, in its own row. -/
theorem nrt_in {n l j : Nat} {ds : List Int} (eps : Int) (f : Nat) (hj : j < n) (h : l * n + n ≤ ds.length) : (nrt n ds eps f).getD (l * n + j) 0 = (nrw n ds eps f l).getD j 0 := by
  rw [nrt_at eps f hj h, nrw_at ds eps f hj]
theorem list_ext0 {a b : List Int} (h : a.length = b.length) (hk : ∀ k, k < a.length → a.getD k 0 = b.getD k 0) : a = b := by
  refine List.ext_getElem h (fun k h1 h2 => ?_)
  have := hk k h1
  simpa [List.getD, List.getElem?_eq_getElem h1, List.getElem?_eq_getElem h2] using this
theorem mp_getD (g : Int → Int) {l : List Int} {k : Nat} (hk : k < l.length) : (l.map g).getD k 0 = g (l.getD k 0) := by
  simp [List.getD, List.getElem?_eq_getElem hk]
theorem row_map (g : Int → Int) (l : List Int) (lo n : Nat) : ((l.map g).drop lo).take n = ((l.drop lo).take n).map g := by
  rw [List.map_take, List.map_drop]
theorem row_idx {n k : Nat} {ds : List Int} {N : Nat} (hn : ds.length = N * n) (hk : k < ds.length) : ∃ l j, k = l * n + j ∧ j < n ∧ l * n + n ≤ ds.length := by
  have n0 : 0 < n := Nat.pos_of_ne_zero (fun e => by subst e; rw [Nat.mul_zero] at hn; omega)
  refine ⟨k / n, k % n, ?_, Nat.mod_lt _ n0, ?_⟩
  · have := Nat.div_add_mod k n
    rw [Nat.mul_comm] at this
    omega
  · have h1 : k / n < N := by rw [Nat.div_lt_iff_lt_mul n0]; omega
    have h2 := Nat.mul_le_mul_right n (show k / n + 1 ≤ N from h1)
    rw [Nat.add_mul, Nat.one_mul] at h2
    omega
theorem nrt_add {n N : Nat} {ds : List Int} (eps z : Int) (f : Nat) (hn : ds.length = N * n) : nrt n (ds.map (· + z)) eps f = nrt n ds eps f := by
  refine list_ext0 (by rw [nrt_len, nrt_len, List.length_map]) (fun k hk => ?_)
  rw [nrt_len, List.length_map] at hk
  obtain ⟨l, j, rfl, hj, hl⟩ := row_idx hn hk
  rw [nrt_at eps f hj hl, nrt_at eps f hj (by rw [List.length_map]; exact hl), row_map]
  have hlen : ((ds.drop (l * n)).take n).length = n := by simp; omega
  generalize (ds.drop (l * n)).take n = rl at *
  rw [rsq_add, sum_add, mp_getD _ (by omega), hlen]
  congr 1
  rw [Int.mul_add]
  omega
theorem nrt_neg {n N : Nat} {ds : List Int} {eps : Int} (f : Nat) (hn : ds.length = N * n) (he : 0 < eps) : nrt n (ds.map fun a => -a) eps f = (nrt n ds eps f).map fun a => -a := by
  refine list_ext0 (by rw [nrt_len, List.length_map, List.length_map, nrt_len]) (fun k hk => ?_)
  rw [nrt_len, List.length_map] at hk
  rw [mp_getD (fun a => -a) (by rw [nrt_len]; exact hk)]
  obtain ⟨l, j, rfl, hj, hl⟩ := row_idx hn hk
  rw [nrt_at eps f hj hl, nrt_at eps f hj (by rw [List.length_map]; exact hl), row_map (fun a => -a)]
  have hlen : ((ds.drop (l * n)).take n).length = n := by simp; omega
  generalize (ds.drop (l * n)).take n = rl at *
  rw [rsq_neg, sum_neg, mp_getD (fun a => -a) (by omega), ← nmv_neg (rsq_pos1 he (by omega))]
  congr 1
  rw [Int.mul_neg]
  omega
theorem sum_nn (g : Int → Int) (hg : ∀ x, 0 ≤ g x) : ∀ l : List Int, 0 ≤ (l.map g).sum
  | [] => by simp
  | a :: l => by
    have i := sum_nn g hg l
    rw [List.map_cons, List.sum_cons]; have := hg a; omega
/-- A word's square, within a row, is not above the row's. -/
theorem sq_part (g : Int → Int) : ∀ (l : List Int), (∀ x, 0 ≤ g x) → ∀ j, j < l.length → g (l.getD j 0) ≤ (l.map g).sum
  | [], _, j, h => by simp at h
  | a :: l, hg, 0, _ => by
    have := sum_nn g hg l
    simp only [List.map_cons, List.sum_cons, List.getD_cons_zero]
    omega
  | a :: l, hg, j + 1, h => by
    have i := sq_part g l hg j (by simpa using h)
    have := hg a
    simp only [List.map_cons, List.sum_cons, List.getD_cons_succ]
    omega
theorem dsq_le {rl : List Int} {eps : Int} {f : Nat} (he : 0 < eps) (hl : 1 ≤ rl.length) : dsq rl.length rl.sum rl ≤ rsq rl eps f ∧ 0 < rsq rl eps f := by
  refine ⟨?_, rsq_pos1 he hl⟩
  have g : 0 < rsb (rl.length : Int) eps f := Int.mul_pos (Int.mul_pos (Int.mul_pos (by omega) (by omega)) he) (Int.pow_pos (by decide))
  unfold rsq
  omega
theorem sqn (x : Int) : 0 ≤ x * x := by
  rcases Int.le_total 0 x with h | h
  · exact Int.mul_nonneg h h
  · exact Int.mul_nonneg_of_nonpos_of_nonpos h h
theorem p2f (f : Nat) : ((2 : Int) ^ (2 * f + 2)) = 4 * (2 ^ f * 2 ^ f) ∧ (2 : Int) ^ (f + 6) = 64 * 2 ^ f ∧ 1 ≤ (2 : Int) ^ f := by
  refine ⟨?_, ?_, Int.pow_pos (by decide)⟩
  · rw [Int.pow_add, Nat.two_mul, Int.pow_add]; omega
  · rw [Int.pow_add]; omega
theorem nD_val (x : Int) (f : Nat) : ((nD x f : Nat) : Int) = x * x * 2 ^ (2 * f + 2) := by
  unfold nD
  rw [Int.natCast_mul, Int.toNat_of_nonneg (sqn x), Int.toNat_of_nonneg (by have : (0 : Int) < 2 ^ (2 * f + 2) := Int.pow_pos (by decide); omega)]
/-- The search goes far enough. -/
theorem nD_lt {rl : List Int} {eps : Int} {f j : Nat} (he : 0 < eps) (hn : rl.length ≤ 24) (hj : j < rl.length) : ((nD ((rl.length : Int) * rl.getD j 0 - rl.sum) f : Nat) : Int) < (2 * (0 + 2 ^ (f + 6)) - 1) * (2 * (0 + 2 ^ (f + 6)) - 1) * ((rsq rl eps f).toNat : Nat) := by
  obtain ⟨h1, h2⟩ := dsq_le (f := f) he (show 1 ≤ rl.length by omega)
  have h3 := sq_part (fun a => ((rl.length : Int) * a - rl.sum) * ((rl.length : Int) * a - rl.sum)) rl (fun x => sqn _) j hj
  rw [dist_all] at h3
  rw [nD_val, Int.toNat_of_nonneg (by omega)]
  generalize ((rl.length : Int) * rl.getD j 0 - rl.sum) * ((rl.length : Int) * rl.getD j 0 - rl.sum) = X at *
  generalize rsq rl eps f = Q at *
  generalize dsq rl.length rl.sum rl = D at *
  obtain ⟨e1, e2, e3⟩ := p2f f
  rw [e1, e2]
  generalize (2 : Int) ^ f = p at *
  have hD : (rl.length : Int) * D ≤ 24 * Q := by
    by_cases hd : 0 ≤ D
    · have a := Int.mul_le_mul_of_nonneg_right (show (rl.length : Int) ≤ 24 by omega) hd
      omega
    · have a := Int.mul_nonneg (show (0 : Int) ≤ (rl.length : Int) by omega) (show 0 ≤ -D by omega)
      rw [Int.mul_neg] at a
      omega
  have hX : X ≤ 24 * Q := by omega
  have hpp : 1 ≤ p * p := by
    have := Int.mul_le_mul e3 e3 (by decide) (by omega)
    omega
  have k1 : X * (4 * (p * p)) ≤ 24 * Q * (4 * (p * p)) := Int.mul_le_mul_of_nonneg_right hX (by omega)
  have k2 : 97 * (p * p) ≤ (2 * (0 + 64 * p) - 1) * (2 * (0 + 64 * p) - 1) := by
    have e : (2 * (0 + 64 * p) - 1) * (2 * (0 + 64 * p) - 1) = 16384 * (p * p) - 256 * p + 1 := by
      have : 2 * (0 + 64 * p) - 1 = 128 * p - 1 := by omega
      rw [this, Int.sub_mul, Int.mul_sub, Int.mul_sub, Int.mul_assoc, Int.mul_left_comm p 128 p]
      omega
    have a : p ≤ p * p := by
      have := Int.mul_le_mul_of_nonneg_right e3 (show 0 ≤ p by omega)
      omega
    rw [e]
    omega
  have k3 := Int.mul_le_mul_of_nonneg_right k2 (show 0 ≤ Q by omega)
  have k4 : 24 * Q * (4 * (p * p)) = 96 * (p * p * Q) := by
    rw [Int.mul_assoc, Int.mul_left_comm Q 4 (p * p), Int.mul_comm Q (p * p)]
    omega
  have k5 : 97 * (p * p) * Q = 96 * (p * p * Q) + p * p * Q := by
    rw [Int.mul_assoc]; omega
  have k6 : 0 < p * p * Q := Int.mul_pos (by omega) h2
  omega
/-- A greater word is not lower. -/
theorem nmv_mono {Q x y : Int} {f : Nat} (hQ : 0 < Q) (hx : ((nD x f : Nat) : Int) < (2 * (0 + 2 ^ (f + 6)) - 1) * (2 * (0 + 2 ^ (f + 6)) - 1) * (Q.toNat : Nat)) (hy : ((nD y f : Nat) : Int) < (2 * (0 + 2 ^ (f + 6)) - 1) * (2 * (0 + 2 ^ (f + 6)) - 1) * (Q.toNat : Nat)) (h : x ≤ y) : nmv Q x f ≤ nmv Q y f := by
  have hp : (0 : Int) < 2 ^ (2 * f + 2) := Int.pow_pos (by decide)
  have up : ∀ a b : Int, a * a ≤ b * b → nD a f ≤ nD b f := fun a b hab => by
    have h1 := Int.mul_le_mul_of_nonneg_right hab (show (0 : Int) ≤ 2 ^ (2 * f + 2) by omega)
    rw [← nD_val, ← nD_val] at h1
    omega
  have nn : ∀ a, 0 ≤ nsr Q.toNat (nD a f) (f + 6) 0 := fun a => (nsr_bd _ _ _ 0 (Int.le_refl _)).1
  unfold nmv
  split
  · split
    · have h1 : y * y ≤ x * x := by rw [← Int.neg_mul_neg y y, ← Int.neg_mul_neg x x]; exact Int.mul_le_mul (by omega) (by omega) (by omega) (by omega)
      have := nsr_mono (j := f + 6) (show 0 < Q.toNat by omega) (up y x h1) hx
      omega
    · have := nn x
      have := nn y
      omega
  · rw [if_neg (by omega)]
    exact nsr_mono (by omega) (up x y (sq_le (by omega) h)) hy
theorem nrw_mono {n l i j : Nat} {ds : List Int} {eps : Int} {f : Nat} (he : 0 < eps) (hn : n ≤ 24) (hl : l * n + n ≤ ds.length) (hi : i < n) (hj : j < n) (h : ds.getD (l * n + i) 0 ≤ ds.getD (l * n + j) 0) : (nrt n ds eps f).getD (l * n + i) 0 ≤ (nrt n ds eps f).getD (l * n + j) 0 := by
  rw [nrt_at eps f hi hl, nrt_at eps f hj hl]
  rw [← mid_getD1 hi, ← mid_getD1 hj] at h
  have hlen : ((ds.drop (l * n)).take n).length = n := by simp; omega
  generalize (ds.drop (l * n)).take n = rl at *
  subst hlen
  have h1 := Int.mul_le_mul_of_nonneg_left h (show (0 : Int) ≤ (rl.length : Int) by omega)
  exact nmv_mono (rsq_pos1 he (by omega)) (nD_lt he hn hi) (nD_lt he hn hj) (by omega)
/-- Squares of what is told, each made lower by a half. -/
def sqt (v : Int) : Int := if 0 < 2 * (v.natAbs : Int) - 1 then (2 * (v.natAbs : Int) - 1) * (2 * (v.natAbs : Int) - 1) else 0
def sqd (l : List Int) : Int := (l.map sqt).sum
theorem sqd_take {l : List Int} {k : Nat} (hk : k < l.length) : sqd (l.take (k + 1)) = sqd (l.take k) + sqt (l.getD k 0) := by
  unfold sqd
  rw [take_snoc hk, List.map_append, List.sum_append]
  simp
theorem sqt_nn (v : Int) : 0 ≤ sqt v := by unfold sqt; split; exact sqn _; decide
theorem sqt_le {Q x : Int} {f : Nat} (hQ : 0 < Q) (hx : ((nD x f : Nat) : Int) < (2 * (0 + 2 ^ (f + 6)) - 1) * (2 * (0 + 2 ^ (f + 6)) - 1) * (Q.toNat : Nat)) : sqt (nmv Q x f) * Q ≤ x * x * 2 ^ (2 * f + 2) := by
  obtain ⟨s0, s1, _⟩ := nsr_spec Q.toNat (nD x f) (f + 6) 0 (Int.le_refl _) (.inl rfl) hx
  rw [nD_val, Int.toNat_of_nonneg (by omega)] at s1
  have hp : (0 : Int) < 2 ^ (2 * f + 2) := Int.pow_pos (by decide)
  have e : ((nmv Q x f).natAbs : Int) = nsr Q.toNat (nD x f) (f + 6) 0 := by unfold nmv; split <;> omega
  unfold sqt
  rw [e]
  generalize nsr Q.toNat (nD x f) (f + 6) 0 = v at *
  split
  · rcases s1 with s1 | s1
    · omega
    · exact s1
  · rw [Int.zero_mul]; exact Int.mul_nonneg (sqn x) (by omega)
theorem sqd_le {rl : List Int} {eps : Int} {f : Nat} (he : 0 < eps) (hn : rl.length ≤ 24) (h1 : 1 ≤ rl.length) : sqd (rl.map fun a => nmv (rsq rl eps f) ((rl.length : Int) * a - rl.sum) f) ≤ rl.length * 2 ^ (2 * f + 2) := by
  obtain ⟨d1, d2⟩ := dsq_le (f := f) he h1
  have hp : (0 : Int) < 2 ^ (2 * f + 2) := Int.pow_pos (by decide)
  have all : ∀ l : List Int, (∀ a ∈ l, ∃ j, j < rl.length ∧ rl.getD j 0 = a) → sqd (l.map fun a => nmv (rsq rl eps f) ((rl.length : Int) * a - rl.sum) f) * rsq rl eps f ≤ (l.map fun a => ((rl.length : Int) * a - rl.sum) * ((rl.length : Int) * a - rl.sum)).sum * 2 ^ (2 * f + 2) := by
    intro l
    induction l with
    | nil => intro _; simp [sqd]
    | cons a l ih =>
      intro hl
      have i := ih (fun b hb => hl b (List.mem_cons_of_mem _ hb))
      obtain ⟨j, hj, rfl⟩ := hl a List.mem_cons_self
      have s := sqt_le d2 (nD_lt (f := f) he hn hj)
      unfold sqd at i ⊢
      simp only [List.map_cons, List.sum_cons, Int.add_mul] at i ⊢
      omega
  have a := all rl (fun a ha => by
    obtain ⟨j, hj, rfl⟩ := List.mem_iff_getElem.1 ha
    exact ⟨j, hj, by simp [List.getD, List.getElem?_eq_getElem hj]⟩)
  rw [dist_all] at a
  have b : (rl.length : Int) * dsq rl.length rl.sum rl * 2 ^ (2 * f + 2) ≤ (rl.length : Int) * 2 ^ (2 * f + 2) * rsq rl eps f := by
    rw [Int.mul_right_comm]
    exact Int.mul_le_mul_of_nonneg_left d1 (Int.mul_nonneg (by omega) (by omega))
  exact Int.le_of_mul_le_mul_right (Int.le_trans a b) d2
theorem nrw_map {n l : Nat} {ds : List Int} (eps : Int) (f : Nat) (hl : l * n + n ≤ ds.length) : nrw n ds eps f l = ((ds.drop (l * n)).take n).map fun a => nmv (rsq ((ds.drop (l * n)).take n) eps f) ((n : Int) * a - ((ds.drop (l * n)).take n).sum) f := by
  have hlen : ((ds.drop (l * n)).take n).length = n := by simp; omega
  refine list_ext0 (by rw [nrw_len, List.length_map, hlen]) (fun k hk => ?_)
  rw [nrw_len] at hk
  rw [nrw_at ds eps f hk, mp_getD _ (by rw [hlen]; exact hk)]
theorem nrw_sqd {n l : Nat} {ds : List Int} {eps : Int} {f : Nat} (he : 0 < eps) (hn : n ≤ 24) (h1 : 1 ≤ n) (hl : l * n + n ≤ ds.length) : sqd (nrw n ds eps f l) ≤ n * 2 ^ (2 * f + 2) := by
  rw [nrw_map eps f hl]
  have hlen : ((ds.drop (l * n)).take n).length = n := by simp; omega
  generalize (ds.drop (l * n)).take n = rl at *
  subst hlen
  exact sqd_le he hn h1
theorem sqd_bd : ∀ l : List Int, (∀ v ∈ l, -274877906944 ≤ v ∧ v ≤ 274877906944) → 0 ≤ sqd l ∧ sqd l ≤ l.length * 302231454903657293676544
  | [], _ => by simp [sqd]
  | v :: l, h => by
    obtain ⟨i1, i2⟩ := sqd_bd l (fun x hx => h x (List.mem_cons_of_mem _ hx))
    have hv := h v List.mem_cons_self
    have h0 := sqt_nn v
    have h1 : sqt v ≤ 302231454903657293676544 := by
      unfold sqt
      split
      · have := sq_le (a := 2 * (v.natAbs : Int) - 1) (b := 549755813888) (by omega) (by omega)
        omega
      · decide
    unfold sqd at i1 i2 ⊢
    rw [List.map_cons, List.sum_cons, List.length_cons]
    push_cast
    rw [Int.add_mul]
    omega
end Go.Proofs.Ytimmgmhgahbcbaa
namespace Go.Proofs.Ytimmgmhgahbcbaa
open Go Go.RowKit Go.Shelf

theorem own_two {X : World} {b base n : Nat} {e : TypeId} {v : Value} {xs : List Value} {cs : Array Value} (hO : X.ownsRow base e 1 v n xs) (hb : Blk X b 26 cs) (hne : e ≠ 26) (u1 u2 : Value) :
    ((X.setCell ⟨b, 0, none⟩ u1).setCell ⟨b, 1, none⟩ u2).ownsRow base e 1 v n xs := by
  have h1 := hO.kept (grown_set X ⟨b, 0, none⟩ u1) (.inr (tens_not_row hO hb hne))
  exact h1.kept (grown_set _ ⟨b, 1, none⟩ u2) (.inr (tens_not_row h1 (hb.set_ 0 u1) hne))
end Go.Proofs.Ytimmgmhgahbcbaa
namespace Go.Proofs.Ytimmgmhgahbcbaa

end Go.Proofs.Ytimmgmhgahbcbaa
namespace Go.Proofs.Ytimmgmhgahbcbaa
open Go.RowKit

/-- Words in new memory. -/
def SomeWd (w : World) (ls : List Int) (e : Ending) (w' : World) : Prop := ∃ o c, e = .returned (.slice o ls.length c) ∧ w'.ownsRow w.heap.size 2 1 (.slice o ls.length c) ls.length (ints ls) ∧ Ld w' (.slice o ls.length c) ls ∧ Below w.heap.size w w'
end Go.Proofs.Ytimmgmhgahbcbaa
namespace Go.Proofs.Ytimmgmhgahbcbaa
open Go.RowKit


end Go.Proofs.Ytimmgmhgahbcbaa
namespace Go.Proofs.Ytimmgmhgahbcbaa
open Go.RowKit



end Go.Proofs.Ytimmgmhgahbcbaa
namespace Go.Proofs.Ytimmgmhgahbcbaa
open Go.RowKit


end Go.Proofs.Ytimmgmhgahbcbaa
namespace Go.Proofs.Ytimmgmhgahbcbaa
open Go.RowKit


set_option maxRecDepth 100000 in
set_option maxHeartbeats 4000000 in
theorem copywords_any (v : Value) (ls : List Int) (w : World) (h : Ld w v ls) (ll : ls.length ≤ 17592186044000) :
    Calls Try.prog 37 #[v] w (SomeWd w ls) := by
  obtain ⟨i0, hi0, hz0, hz1, hz2⟩ := info_parts infoW
  obtain ⟨o, c, rfl, _, hx⟩ := h
  have HX := Lib.hid hx
  clear hx
  go_enter Try.func37, Try.ntmps37
  go_wp2
  go_loopw [3, 4] (fun s3 s4 wr => ∃ k : Nat, k ≤ ls.length ∧ s4 = .int .i64 k ∧ Hid (wr.ownsRow w.heap.size 2 1 s3 k (ints (ls.take k))) ∧ Below w.heap.size w wr) (fun _ s4 _ => ls.length - (intOf s4).toNat)
  case atStart => exact ⟨0, Nat.zero_le _, rfl, World.ownsRow_nil _ _ _ _, Below.refl _ _⟩
  case round =>
    obtain ⟨k, hk, rfl, HO, hB⟩ := hrel
    have hBs := hB.size
    by_cases hlt : k < ls.length
    · obtain ⟨b, f, rfl, hb, hc⟩ := HX.out k hlt
      have hc' : wr.cell? ⟨b, f + k, none⟩ = some (.int .i64 (ls.getD k 0)) := (hB.cell (p := ⟨b, f + k, none⟩) hb).trans hc
      have E : Hid (ints (ls.take (k + 1)) = ints (ls.take k) ++ [.int .i64 (ls.getD k 0)]) := by
        unfold Hid ints
        rw [List.take_succ_eq_append_getElem hlt, List.map_append]
        simp [List.getD, List.getElem?_eq_getElem hlt]
      clear hc
      generalize ls.getD k 0 = x at *
      go_wp2_with (at_builtin; refine wpList_append_own _ rfl _ _ 24 rfl w.heap.size 2 i0 (.int .i64 0) 1 8 Try.underlying24 hi0 hz0 hz1 hz2 rfl (by decide) _ k (ints (ls.take k)) rfl (HO.out.alloc _) ⟨wr.heap.size, 0, none⟩ 1 1 [.int .i64 x] rfl rfl ?c1 ?c2 ?c3 ?c4 ?c5 ?_)
      case c1 => exact (cell_one_new _ _ _)
      case c2 => simp [Value.oneCell']
      case c3 => unfold maxLen; omega
      case c4 => omega
      case c5 => simp; omega
      intro v' w9 hown1 hgrow _
      have hB9 : Below w.heap.size w w9 := (hB.alloc hBs _).grown hgrow (by simp; omega) (fun j hj => (HO.out.lt j hj).1)
      have h1 : Hid (w9.ownsRow w.heap.size 2 1 v' (k + 1) (ints (ls.take (k + 1)))) := by
        rw [Hid, E.out]; exact hown1
      clear hown1 hgrow
      go_wp2
      exact ⟨⟨k + 1, by omega, by go_num, h1, hB9⟩, by simp [intOf]; omega⟩
    · obtain rfl : k = ls.length := by omega
      have h1 := HO.out
      rw [List.take_length] at h1
      obtain ⟨o2, c2, rfl, hld⟩ := Ld.of_owns h1
      have H1 := Lib.hid (And.intro h1 hld)
      clear h1 hld HO
      go_wp2
      go_ret
      exact ⟨o2, c2, rfl, H1.out.1, H1.out.2, hB⟩

end Go.Proofs.Ytimmgmhgahbcbaa
namespace Go.Proofs.Ytimmgmhgahbcbaa
open Go Go.RowKit Go.Shelf

theorem own_tset {W : World} {T base n i : Nat} {t : TypeId} {v z : Value} {xs : List Value} {cs : Array Value} (h : W.ownsRow base t 1 v n xs) (hb : Blk W T 26 cs) (hne : t ≠ 26) : (W.setCell ⟨T, i, none⟩ z).ownsRow base t 1 v n xs :=
  h.kept (grown_set W ⟨T, i, none⟩ z) (.inr (tens_not_row h hb hne))
/-- A tensor in new memory. -/
def SomeCT (w : World) (sh ds : List Int) (e : Ending) (w' : World) : Prop := ∃ os cs od cd, e = .returned (.agg #[.slice os sh.length cs, .slice od ds.length cd]) ∧ w'.ownsRow w.heap.size 3 1 (.slice os sh.length cs) sh.length (ints sh) ∧ w'.ownsRow w.heap.size 2 1 (.slice od ds.length cd) ds.length (ints ds) ∧ Below w.heap.size w w'
set_option maxRecDepth 100000 in
set_option maxHeartbeats 8000000 in
theorem copytens_any (vs vd : Value) (sh ds : List Int) (w : World) (hs : Ld w vs sh) (hd : Ld w vd ds) (l1 : sh.length ≤ 17592186044000) (l2 : ds.length ≤ 17592186044000) :
    Calls Try.prog 13 #[.agg #[vs, vd]] w (SomeCT w sh ds) := by
  obtain ⟨w3, hw3⟩ : ∃ w3, w3 = ((w.alloc (.cells #[vs, vd] 26)).alloc (.cells #[.slice none 0 0, .slice none 0 0] 26)).alloc (.cells #[vs, vd] 26) := ⟨_, rfl⟩
  have hsz : w3.heap.size = w.heap.size + 3 := by rw [hw3]; simp
  have B3 : Below w.heap.size w w3 := by rw [hw3]; exact (((Below.refl _ _).alloc (Nat.le_refl _) _).alloc (by simp) _).alloc (by simp; omega) _
  have K0 : Hid (Blk w3 w.heap.size 26 #[vs, vd]) := by rw [hw3]; exact ((Blk.new w _ _).alloc _).alloc _
  have K1 : Hid (Blk w3 (w.heap.size + 1) 26 #[.slice none 0 0, .slice none 0 0]) := by rw [hw3]; exact (blk_new1 w _ _ _).alloc _
  have K2 : Hid (Blk w3 (w.heap.size + 2) 26 #[vs, vd]) := by
    rw [hw3]
    have q := Blk.new ((w.alloc (.cells #[vs, vd] 26)).alloc (.cells #[.slice none 0 0, .slice none 0 0] 26)) 26 #[vs, vd]
    rwa [World.size_alloc, World.size_alloc] at q
  have C1 : Hid (∀ n, w3.heap.size = n → Calls Try.prog 36 #[vs] w3 fun e w' => ∃ o c, e = .returned (.slice o sh.length c) ∧ w'.ownsRow n 3 1 (.slice o sh.length c) sh.length (ints sh) ∧ Ld w' (.slice o sh.length c) sh ∧ Below n w3 w') := fun n hn => by
    subst hn
    exact copy_any vs sh w3 (hs.below B3) l1
  replace C1 := Lib.hid (C1.out (w.heap.size + 3) hsz)
  have C2 := Lib.hid (fun (W : World) (hW : Below w.heap.size w W) => copywords_any vd ds W (hd.below hW) l2)
  obtain ⟨o1, n1, rfl, _, _⟩ := hs
  obtain ⟨o2, n2, rfl, _, _⟩ := hd
  have HW := Lib.hid hw3
  rw [hw3] at C1
  clear hw3
  go_enter Try.func13, Try.ntmps13
  go_wp2_with (first
    | (go_at_call 36; (with_reducible refine C1.out.mono ?_); rintro e w2 ⟨o5, c5, rfl, ho5, _, hb2⟩; rw [← HW.out] at hb2; have b2 := B3.trans (hb2.mono (by omega)); replace K0 := Lib.hid (K0.out.below hb2 (by omega)); replace K1 := Lib.hid (K1.out.below hb2 (by omega)); replace K2 := Lib.hid (K2.out.below hb2 (by omega)); obtain ⟨c0, c1, _⟩ := blk2 K0.out; obtain ⟨x0, x1, g0, g1⟩ := blk2 K2.out; have s2 := Nat.le_trans (Nat.le_of_eq hsz.symm) hb2.size; have O2 := Lib.hid (own_tset (i := 0) (z := .slice o5 sh.length c5) ho5 K2.out (by decide)); clear ho5 hb2)
    | (go_at_call 37; (with_reducible refine Go.Calls.mono (C2.out _ ?_) ?_); (· exact b2.setCell (by show w.heap.size ≤ w.heap.size + 2; omega) _); rintro e w4 ⟨o6, c6, rfl, ho6, _, hb4⟩; have b4 := (b2.setCell (p := ⟨w.heap.size + 2, 0, none⟩) (by show w.heap.size ≤ w.heap.size + 2; omega) (.slice o5 sh.length c5)).trans (hb4.mono (by simp; omega)); have s4 := hb4.size; have Q2 := Lib.hid ((K2.out.set_ 0 (.slice o5 sh.length c5)).below hb4 (by simp; omega)); have Q1 := Lib.hid ((K1.out.far (p := ⟨w.heap.size + 2, 0, none⟩) (by show w.heap.size + 1 ≠ w.heap.size + 2; omega) (.slice o5 sh.length c5)).below hb4 (by simp; omega)); obtain ⟨x0, x1, g0, g1⟩ := blk2 Q2.out; obtain ⟨d0, d1, f0, f1⟩ := blk2 Q1.out; have O4 := Lib.hid (Below.keepOwn O2.out hb4 (Nat.le_refl _)); have O6 := Lib.hid ho6; clear ho6 hb4))
  have e2 : w.heap.size + 1 + 1 = w.heap.size + 2 := rfl
  have R1 := Lib.hid (Q1.out.far (p := ⟨w.heap.size + 2, 1, none⟩) (by show w.heap.size + 1 ≠ w.heap.size + 2; omega) (.slice o6 ds.length c6))
  have R2 := Lib.hid ((R1.out.set_ 0 (.slice o5 sh.length c5)).set_ 1 (.slice o6 ds.length c6))
  have r0 := R2.out.cell 0
  have r1 := R2.out.cell 1
  refine bodyPost_ret (v := .agg #[.slice o5 sh.length c5, .slice o6 ds.length c6]) (by simp [results, Try.results13, go_sem, r0, r1]) rfl ?_
  have p5 := own_two (own_tset (i := 1) (z := .slice o6 ds.length c6) O4.out Q2.out (by decide)) R1.out (by decide) (.slice o5 sh.length c5) (.slice o6 ds.length c6)
  have p6 := own_two (own_tset (i := 1) (z := .slice o6 ds.length c6) O6.out Q2.out (by decide)) R1.out (by decide) (.slice o5 sh.length c5) (.slice o6 ds.length c6)
  refine ⟨_, _, _, _, rfl, own_base p5 ?_, own_base p6 ?_, ((b4.setCell (p := ⟨w.heap.size + 2, 1, none⟩) (by show w.heap.size ≤ w.heap.size + 2; omega) _).setCell (p := ⟨w.heap.size + 1, 0, none⟩) (by show w.heap.size ≤ w.heap.size + 1; omega) _).setCell (p := ⟨w.heap.size + 1, 1, none⟩) (by show w.heap.size ≤ w.heap.size + 1; omega) _⟩
  · omega
  · simp; omega
theorem own_off {W : World} {b1 b2 n1 n2 c g : Nat} {t1 t2 : TypeId} {v : Value} {xs ys : List Value} (h1 : W.ownsRow b1 t1 1 v n1 xs) (h2 : W.ownsRow b2 t2 1 (.slice (some ⟨g, 0, none⟩) n2 c) n2 ys) (hne : t1 ≠ t2) : ¬ v.ownBlock = some g := by
  intro e
  rcases h2.2 with ⟨e2, _⟩ | ⟨g2, cap2, cur2, e2, _, hh2, _⟩
  · simp at e2
  · simp only [Value.slice.injEq, Option.some.injEq, Addr.mk.injEq, and_true] at e2
    obtain ⟨rfl, _⟩ := e2
    rcases h1.2 with ⟨rfl, _⟩ | ⟨g1, cap1, cur1, rfl, _, hh1, _⟩
    · simp [Value.ownBlock] at e
    · simp only [Value.ownBlock, Option.some.injEq] at e
      subst e
      have := hh1.symm.trans hh2
      simp only [Option.some.injEq, Obj.cells.injEq] at this
      exact hne this.2.1
end Go.Proofs.Ytimmgmhgahbcbaa
namespace Go.Proofs.Ytimmgmhgahbcbaa
open Go.RowKit

/-- How many limbs are left without noughts on top. -/
def trimLen : List Nat → Nat
  | [] => 0
  | x :: ls => if trimLen ls = 0 then (if x = 0 then 0 else 1) else trimLen ls + 1
theorem trimLen_le : ∀ ls : List Nat, trimLen ls ≤ ls.length
  | [] => Nat.le_refl _
  | x :: ls => by
    have := trimLen_le ls
    simp only [trimLen, List.length_cons]
    split
    · split <;> omega
    · omega
theorem trimLen_is : ∀ (ls : List Nat) (k : Nat), k ≤ ls.length → (∀ i, k ≤ i → ls.getD i 0 = 0) → (k = 0 ∨ ls.getD (k - 1) 0 ≠ 0) → trimLen ls = k
  | [], k, h, _, _ => by simp at h; simp [trimLen, h]
  | x :: ls, 0, _, hz, _ => by
    have ih := trimLen_is ls 0 (Nat.zero_le _) (fun i _ => by have := hz (i + 1) (Nat.zero_le _); simpa using this) (.inl rfl)
    have hx : x = 0 := by have := hz 0 (Nat.le_refl _); simpa using this
    simp [trimLen, ih, hx]
  | x :: ls, 1, _, hz, hn => by
    have ih := trimLen_is ls 0 (Nat.zero_le _) (fun i _ => by have := hz (i + 1) (by omega); simpa using this) (.inl rfl)
    have hx : x ≠ 0 := by rcases hn with h | h
                          · omega
                          · simpa using h
    simp [trimLen, ih, hx]
  | x :: ls, k + 2, h, hz, hn => by
    have ih := trimLen_is ls (k + 1) (by simp at h; omega) (fun i hi => by have := hz (i + 1) (by omega); simpa using this) (.inr (by
      rcases hn with h' | h'
      · omega
      · simpa using h'))
    simp [trimLen, ih]
/-- The value of limbs, the lowest first. -/
def lval (B : Nat) : List Nat → Nat
  | [] => 0
  | x :: ls => x + B * lval B ls
theorem lval_trim (B : Nat) : ∀ ls : List Nat, lval B (ls.take (trimLen ls)) = lval B ls
  | [] => rfl
  | x :: ls => by
    have ih := lval_trim B ls
    simp only [trimLen]
    split
    · rename_i h0
      rw [h0] at ih
      simp only [List.take_zero, lval] at ih
      split
      · rename_i hx; simp [lval, hx, ← ih]
      · simp [lval, ← ih]
    · simp [lval, ih]
theorem trim_last : ∀ ls : List Nat, trimLen ls = 0 ∨ ls.getD (trimLen ls - 1) 0 ≠ 0
  | [] => .inl rfl
  | x :: ls => by
    simp only [trimLen]
    split
    · split
      · exact .inl rfl
      · rename_i h; exact .inr (by simpa using h)
    · rename_i h0
      rcases trim_last ls with h | h
      · exact absurd h h0
      · right
        obtain ⟨m, hm⟩ : ∃ m, trimLen ls = m + 1 := ⟨trimLen ls - 1, by omega⟩
        rw [hm] at h ⊢
        simpa using h

/-- What a slice of whole numbers of kind k reads as. -/
def Rd (k : IntKind) (w : World) (v : Value) (ls : List Nat) : Prop :=
  (v = .slice none 0 0 ∧ ls = []) ∨ ∃ b off cap, v = .slice (some ⟨b, off, none⟩) ls.length cap ∧ ls.length ≤ cap ∧ b < w.heap.size ∧ ∀ i, i < ls.length → w.cell? ⟨b, off + i, none⟩ = some (.int k (ls.getD i 0 : Nat))
theorem Rd.below {k : IntKind} {w w' : World} {v : Value} {ls : List Nat} (h : Rd k w v ls) (hb : Below w.heap.size w w') : Rd k w' v ls := by
  rcases h with h | ⟨b, off, cap, e, hc, hl, h⟩
  · exact .inl h
  · exact .inr ⟨b, off, cap, e, hc, Nat.lt_of_lt_of_le hl hb.size, fun i hi => (hb.cell (p := ⟨b, off + i, none⟩) hl).trans (h i hi)⟩
theorem Rd.take {k : IntKind} {w : World} {b off cap : Nat} {ls : List Nat} (hc : ls.length ≤ cap) (hl : b < w.heap.size) (h : ∀ i, i < ls.length → w.cell? ⟨b, off + i, none⟩ = some (.int k (ls.getD i 0 : Nat))) (n : Nat) (hn : n ≤ ls.length) :
    Rd k w (.slice (some ⟨b, off, none⟩) n cap) (ls.take n) := by
  refine .inr ⟨b, off, cap, by simp [Nat.min_eq_left hn], by simp; omega, hl, fun i hi => ?_⟩
  simp at hi
  have : (ls.take n).getD i 0 = ls.getD i 0 := by simp only [List.getD_eq_getElem?_getD, List.getElem?_take]; rw [if_pos (by omega)]
  rw [this]
  exact h i (by omega)
/-- Where a slice is cut back to n of its elements. -/
def cutv : Value → Nat → Value
  | .slice none _ _, _ => .slice none 0 0
  | .slice (some a) _ c, n => .slice (some a) n c
  | v, _ => v
theorem Rd.cut {k : IntKind} {w : World} {v : Value} {ls : List Nat} (h : Rd k w v ls) (n : Nat) (hn : n ≤ ls.length) : Rd k w (cutv v n) (ls.take n) := by
  rcases h with ⟨rfl, rfl⟩ | ⟨b, off, cap, rfl, hc, hl, h⟩
  · exact .inl ⟨rfl, by simp⟩
  · exact Rd.take hc hl h n hn
end Go.Proofs.Ytimmgmhgahbcbaa
namespace Go.Proofs.Ytimmgmhgahbcbaa
open Go.RowKit

set_option maxHeartbeats 2000000 in
/-- ratchet/ratchetref90.NTrim -/
theorem trim_at (b off cap : Nat) (ls : List Nat) (w : World) (_hc : ls.length ≤ cap) (_hm : ls.length ≤ 4611686018427387904) (h : ∀ i, i < ls.length → w.cell? ⟨b, off + i, none⟩ = some (.int .u64 (ls.getD i 0 : Nat))) :
    Calls Try.prog 57 #[.slice (some ⟨b, off, none⟩) ls.length cap] w fun e w' => e = .returned (.slice (some ⟨b, off, none⟩) (trimLen ls) cap) ∧ w = w' := by
  have H := Lib.hid h
  clear h
  go_enter Try.func57, Try.ntmps57
  go_wp2
  go_loop [3] (fun s3 => ∃ j : Nat, j ≤ ls.length ∧ s3 = .int .i64 j ∧ Hid (∀ i, j ≤ i → ls.getD i 0 = 0)) (fun s3 => (intOf s3).toNat)
  case atStart => exact ⟨ls.length, Nat.le_refl _, rfl, fun i hi => by simp [List.getD, List.getElem?_eq_none hi]⟩
  case round =>
    obtain ⟨j, hj, rfl, hz⟩ := hrel
    by_cases h0 : j = 0
    · subst h0
      have E := Lib.hid (trimLen_is ls 0 hj hz.out (.inl rfl))
      go_wp2
      go_ret
      exact ⟨by rw [E.out]; rfl, rfl⟩
    · obtain ⟨m, rfl⟩ : ∃ m, j = m + 1 := ⟨j - 1, by omega⟩
      have hcell : w.cell? ⟨b, off + m, none⟩ = some (.int .u64 (ls.getD m 0 : Nat)) := H.out m (by omega)
      obtain ⟨x, ex⟩ : ∃ x, x = ls.getD m 0 := ⟨_, rfl⟩
      rw [← ex] at hcell
      have EX := Lib.hid ex
      clear ex
      by_cases hx : x = 0
      · subst hx
        simp only [Int.natCast_zero] at hcell
        go_wp2
        refine ⟨⟨m, by omega, rfl, fun i hi => ?_⟩, by simp [intOf]⟩
        rcases Nat.lt_or_eq_of_le hi with h1 | h1
        · exact hz.out i h1
        · subst h1; exact EX.out.symm
      · have hx' : ((x : Int) == 0) = false := by simpa using hx
        have E := Lib.hid (trimLen_is ls (m + 1) hj hz.out (.inr (by rw [Nat.add_sub_cancel, ← EX.out]; exact hx)))
        clear hx h0
        go_wp2
        go_ret
        exact ⟨by rw [E.out]; rfl, rfl⟩
set_option maxHeartbeats 2000000 in
theorem trim_nil (w : World) : Calls Try.prog 57 #[.slice none 0 0] w fun e w' => e = .returned (.slice none 0 0) ∧ w = w' := by
  go_enter Try.func57, Try.ntmps57
  go_wp2
  go_loop [3] (fun s3 => s3 = .int .i64 0) (fun _ => 0)
  case atStart => rfl
  case round =>
    subst hrel
    go_wp2
    go_ret
    exact ⟨rfl, rfl⟩
theorem trim_any (v : Value) (ls : List Nat) (w : World) (hm : ls.length ≤ 4611686018427387904) (h : Rd .u64 w v ls) :
    Calls Try.prog 57 #[v] w fun e w' => e = .returned (cutv v (trimLen ls)) ∧ w = w' := by
  rcases h with ⟨rfl, rfl⟩ | ⟨b, off, cap, rfl, hc, _, h⟩
  · exact trim_nil w
  · exact trim_at b off cap ls w hc hm h

set_option maxHeartbeats 2000000 in
/-- ratchet/ratchetref90.cut -/
theorem cutd_at (b off cap : Nat) (ls : List Nat) (w : World) (_hc : ls.length ≤ cap) (_hm : ls.length ≤ 4611686018427387904) (h : ∀ i, i < ls.length → w.cell? ⟨b, off + i, none⟩ = some (.int .u32 (ls.getD i 0 : Nat))) :
    Calls Try.prog 60 #[.slice (some ⟨b, off, none⟩) ls.length cap] w fun e w' => e = .returned (.slice (some ⟨b, off, none⟩) (trimLen ls) cap) ∧ w = w' := by
  have H := Lib.hid h
  clear h
  go_enter Try.func60, Try.ntmps60
  go_wp2
  go_loop [3] (fun s3 => ∃ j : Nat, j ≤ ls.length ∧ s3 = .int .i64 j ∧ Hid (∀ i, j ≤ i → ls.getD i 0 = 0)) (fun s3 => (intOf s3).toNat)
  case atStart => exact ⟨ls.length, Nat.le_refl _, rfl, fun i hi => by simp [List.getD, List.getElem?_eq_none hi]⟩
  case round =>
    obtain ⟨j, hj, rfl, hz⟩ := hrel
    by_cases h0 : j = 0
    · subst h0
      have E := Lib.hid (trimLen_is ls 0 hj hz.out (.inl rfl))
      go_wp2
      go_ret
      exact ⟨by rw [E.out]; rfl, rfl⟩
    · obtain ⟨m, rfl⟩ : ∃ m, j = m + 1 := ⟨j - 1, by omega⟩
      have hcell : w.cell? ⟨b, off + m, none⟩ = some (.int .u32 (ls.getD m 0 : Nat)) := H.out m (by omega)
      obtain ⟨x, ex⟩ : ∃ x, x = ls.getD m 0 := ⟨_, rfl⟩
      rw [← ex] at hcell
      have EX := Lib.hid ex
      clear ex
      by_cases hx : x = 0
      · subst hx
        simp only [Int.natCast_zero] at hcell
        go_wp2
        refine ⟨⟨m, by omega, rfl, fun i hi => ?_⟩, by simp [intOf]⟩
        rcases Nat.lt_or_eq_of_le hi with h1 | h1
        · exact hz.out i h1
        · subst h1; exact EX.out.symm
      · have hx' : ((x : Int) == 0) = false := by simpa using hx
        have E := Lib.hid (trimLen_is ls (m + 1) hj hz.out (.inr (by rw [Nat.add_sub_cancel, ← EX.out]; exact hx)))
        clear hx h0
        go_wp2
        go_ret
        exact ⟨by rw [E.out]; rfl, rfl⟩
set_option maxHeartbeats 2000000 in
theorem cutd_nil (w : World) : Calls Try.prog 60 #[.slice none 0 0] w fun e w' => e = .returned (.slice none 0 0) ∧ w = w' := by
  go_enter Try.func60, Try.ntmps60
  go_wp2
  go_loop [3] (fun s3 => s3 = .int .i64 0) (fun _ => 0)
  case atStart => rfl
  case round =>
    subst hrel
    go_wp2
    go_ret
    exact ⟨rfl, rfl⟩
theorem cutd_any (v : Value) (ls : List Nat) (w : World) (hm : ls.length ≤ 4611686018427387904) (h : Rd .u32 w v ls) :
    Calls Try.prog 60 #[v] w fun e w' => e = .returned (cutv v (trimLen ls)) ∧ w = w' := by
  rcases h with ⟨rfl, rfl⟩ | ⟨b, off, cap, rfl, hc, _, h⟩
  · exact cutd_nil w
  · exact cutd_at b off cap ls w hc hm h

theorem Rd.one {k : IntKind} (w : World) (x : Nat) (t : TypeId) : Rd k (w.alloc (.cells #[.int k (x : Nat)] t)) (.slice (some ⟨w.heap.size, 0, none⟩) 1 1) [x] := by
  refine .inr ⟨w.heap.size, 0, 1, rfl, Nat.le_refl _, by simp, fun i hi => ?_⟩
  have : i = 0 := by simp at hi; omega
  subst this
  simp [World.cell?_alloc_new]
set_option maxHeartbeats 2000000 in
/-- NOf -/
theorem nof_any (x : Nat) (w : World) : Calls Try.prog 41 #[.int .u64 x] w fun e w' => e = .returned (.slice (some ⟨w.heap.size, 0, none⟩) (trimLen [x]) 1) ∧ w.alloc (.cells #[.int .u64 x] 65) = w' := by
  have C := Lib.hid (fun W v h => trim_any v [x] W (by simp) h)
  go_enter Try.func41, Try.ntmps41
  go_wp2_with (go_at_call 57; (with_reducible refine (C.out _ _ (Rd.one _ _ _)).mono ?_); rintro e w' ⟨rfl, rfl⟩)
  go_ret
  exact ⟨rfl, rfl⟩
end Go.Proofs.Ytimmgmhgahbcbaa
namespace Go.Proofs.Ytimmgmhgahbcbaa
open Go.RowKit

/-- Limbs in digits of 32 bits. -/
def split2 : List Nat → List Nat
  | [] => []
  | x :: ls => x % 4294967296 :: x / 4294967296 :: split2 ls
theorem split2_length : ∀ ls : List Nat, (split2 ls).length = 2 * ls.length
  | [] => rfl
  | x :: ls => by simp [split2, split2_length ls]; omega
theorem split2_snoc : ∀ (ls : List Nat) (x : Nat), split2 (ls ++ [x]) = split2 ls ++ [x % 4294967296, x / 4294967296]
  | [], x => rfl
  | y :: ls, x => by simp [split2, split2_snoc ls x]
theorem take_snoc_getD (ls : List Nat) (i : Nat) (h : i < ls.length) : ls.take (i + 1) = ls.take i ++ [ls.getD i 0] := by
  rw [List.take_succ_eq_append_getElem h]; simp [List.getD, h]
theorem split2_val : ∀ ls : List Nat, (∀ x ∈ ls, x < 18446744073709551616) → lval 4294967296 (split2 ls) = lval 18446744073709551616 ls
  | [], _ => rfl
  | x :: ls, h => by
    have ih := split2_val ls (fun y hy => h y (List.mem_cons_of_mem _ hy))
    simp only [split2, lval, ih]
    omega

theorem own_far {w : World} {base : Nat} {e : TypeId} {size : Nat} {v : Value} {n : Nat} {xs : List Value} (h : w.ownsRow base e size v n xs) {b : Nat} (hb : b < base) : v.ownBlock ≠ some b := by
  rcases h.2 with ⟨rfl, _⟩ | ⟨g, cap, cur, rfl, hg, _⟩
  · simp [Value.ownBlock]
  · simp [Value.ownBlock]; omega
/-- What the call owns reads as its elements. -/
theorem own_rd {w : World} {base : Nat} {e : TypeId} {k : IntKind} {v : Value} {ls : List Nat} (h : w.ownsRow base e 1 v ls.length (ls.map fun x => Value.int k (x : Nat))) : Rd k w v ls := by
  obtain ⟨_, ⟨rfl, h0⟩ | ⟨g, cap, cur, rfl, _, hb, hc, _, _, ht⟩⟩ := h
  · exact .inl ⟨rfl, List.eq_nil_of_length_eq_zero h0⟩
  · have hlt : g < w.heap.size := by
      rcases Nat.lt_or_ge g w.heap.size with h | h
      · exact h
      · rw [Array.getElem?_eq_none h] at hb; cases hb
    refine .inr ⟨g, 0, cap, rfl, hc, hlt, fun i hi => ?_⟩
    rw [cell_of_row w g (0 + i) cur e (0, 0) hb, Nat.zero_add]
    have : (cur.toList.take (ls.length * 1))[i]? = some (Value.int k (ls.getD i 0 : Nat)) := by rw [ht]; simp [List.getD, hi]
    rw [List.getElem?_take] at this
    split at this
    · simpa using this
    · cases this

theorem info32 : (Try.prog.info? 94).map (fun i => (i.zero, i.size, i.bytes)) = some (some (.int .u32 0), 1, 4) := by kernel_rfl
theorem info64 : (Try.prog.info? 65).map (fun i => (i.zero, i.size, i.bytes)) = some (some (.int .u64 0), 1, 8) := by kernel_rfl
def SomeRd (k : IntKind) (w : World) (ls : List Nat) (e : Ending) (w' : World) : Prop := ∃ v, e = .returned v ∧ Rd k w' v ls ∧ Below w.heap.size w w'

set_option maxHeartbeats 4000000 in
/-- halves -/
theorem halves_at (b off cap : Nat) (ls : List Nat) (w : World) (hb : b < w.heap.size) (hx : ∀ x ∈ ls, x < 18446744073709551616) (hm : ls.length ≤ 1099511627776) (h : ∀ i, i < ls.length → w.cell? ⟨b, off + i, none⟩ = some (.int .u64 (ls.getD i 0 : Nat))) :
    Calls Try.prog 58 #[.slice (some ⟨b, off, none⟩) ls.length cap] w (SomeRd .u32 w ((split2 ls).take (trimLen (split2 ls)))) := by
  obtain ⟨i0, hi0, hz0, hz1, hz2⟩ := info_parts info32
  have H := Lib.hid (And.intro h hx)
  clear h hx
  go_enter Try.func58, Try.ntmps58
  go_wp2
  go_loopw [3, 4] (fun s3 s4 wr => ∃ i : Nat, i ≤ ls.length ∧ s4 = .int .i64 i ∧ Hid (wr.ownsRow w.heap.size 94 1 s3 (split2 (ls.take i)).length ((split2 (ls.take i)).map fun x => Value.int .u32 (x : Nat))) ∧ Below w.heap.size w wr) (fun _ s4 _ => ls.length - (intOf s4).toNat)
  case atStart => exact ⟨0, Nat.zero_le _, rfl, World.ownsRow_nil _ _ _ _, Below.refl _ _⟩
  case round =>
    obtain ⟨i, hi, rfl, hown, hB⟩ := hrel
    by_cases hlt : i < ls.length
    · have hcell : wr.cell? ⟨b, off + i, none⟩ = some (.int .u64 (ls.getD i 0 : Nat)) := (hB.cell (p := ⟨b, off + i, none⟩) hb).trans (H.out.1 i hlt)
      obtain ⟨x, ex⟩ : ∃ x, x = ls.getD i 0 := ⟨_, rfl⟩
      have hx : x < 18446744073709551616 := by rw [ex]; simp only [List.getD, List.getElem?_eq_getElem hlt, Option.getD_some]; exact H.out.2 _ (List.getElem_mem hlt)
      rw [← ex] at hcell
      obtain ⟨p, hp⟩ : ∃ p, p = x % 4294967296 := ⟨_, rfl⟩
      obtain ⟨q, hq⟩ : ∃ q, q = x / 4294967296 := ⟨_, rfl⟩
      have e1 : IntKind.u32.wrap (x : Int) = (p : Int) := by rw [IntKind.wrap_u32]; omega
      have e2 : IntKind.u32.wrap ((x : Int) / 4294967296) = (q : Int) := by rw [IntKind.wrap_u32]; omega
      have E : split2 (ls.take (i + 1)) = split2 (ls.take i) ++ [p, q] := by rw [take_snoc_getD ls i hlt, split2_snoc, ← ex, ← hp, ← hq]
      have hlen : (split2 (ls.take i)).length ≤ 2199023255552 := by rw [split2_length]; simp; omega
      have EH := Lib.hid E
      have hown2 := hown.out
      have far := Lib.hid (own_far hown2 hb)
      have hbr : b < wr.heap.size := Nat.lt_of_lt_of_le hb hB.size
      have hBs := hB.size
      generalize split2 (ls.take i) = ds at *
      clear E ex hp hq hx hown
      have HO := Lib.hid hown2
      clear hown2
      go_wp2
      go_region_held3 (fun w' => w'.cell? ⟨b, off + i, none⟩ = some (.int .u64 (x : Nat)))
        (first
          | (simp [go_sem, *]; done)
          | (rw [hgrow.cell_far _ (by simp; omega) (Ne.symm far.out)]; assumption))
        ((refine step_append_lies _ (by rfl) _ _ _ (by rfl) w.heap.size 94 i0 _ 1 4 Try.underlying92 hi0 hz0 hz1 hz2 rfl (by omega) _ ds.length (ds.map fun x => Value.int .u32 (x : Nat)) (by rfl) ((HO.out.alloc _).drew)
            ⟨wr.heap.size, 0, none⟩ 2 2 [.int .u32 (p : Nat), .int .u32 (q : Nat)] (by rfl) (by rfl) (World.news_of_block (cs := #[.int .u32 (p : Nat), .int .u32 (q : Nat)]) (t := 94) (fr := (0, 0)) (heap_alloc_new wr _)) (by simp [Value.oneCell'])
            (by omega) (by unfold maxLen; omega) (by omega) (by simp; omega) (wr.heap.size + 1) (by simp) ?_; intro gg cap' w1 hown1 hgrow hat hlt1))
      go_wp2
      refine ⟨⟨i + 1, by omega, by go_num, ?_, ?_⟩, by simp [intOf]; omega⟩
      · rw [EH.out]
        have h1 := hown1
        simpa [Hid] using h1
      · exact ((hB.alloc hBs _).drew).grown hgrow (by simp; omega) (fun k hk => (HO.out.lt k hk).1)
    · have he : i = ls.length := by omega
      subst he
      rw [List.take_length] at hown
      have hBs := hB.size
      have hlen : (split2 ls).length ≤ 2199023255552 := by rw [split2_length]; omega
      have RD := Lib.hid (own_rd hown.out)
      clear hown
      generalize split2 ls = ds at *
      go_wp2_with (go_at_call 60; (with_reducible refine (cutd_any _ ds _ (by omega) RD.out).mono ?_); rintro e w' ⟨rfl, rfl⟩)
      go_ret
      exact ⟨_, rfl, RD.out.cut _ (trimLen_le _), hB⟩
set_option maxHeartbeats 4000000 in
theorem halves_nil (w : World) : Calls Try.prog 58 #[.slice none 0 0] w fun e w' => e = .returned (.slice none 0 0) ∧ w = w' := by
  go_enter Try.func58, Try.ntmps58
  go_wp2
  go_loop [3, 4] (fun s3 s4 => s3 = .slice none 0 0 ∧ s4 = .int .i64 0) (fun _ _ => 0)
  case atStart => exact ⟨rfl, rfl⟩
  case round =>
    obtain ⟨rfl, rfl⟩ := hrel
    go_wp2_with (go_at_call 60; (with_reducible refine (cutd_nil _).mono ?_); rintro e w' ⟨rfl, rfl⟩)
    go_ret
    exact ⟨rfl, rfl⟩
/-- halves -/
theorem halves_any (v : Value) (ls : List Nat) (w : World) (hx : ∀ x ∈ ls, x < 18446744073709551616) (hm : ls.length ≤ 1099511627776) (h : Rd .u64 w v ls) :
    Calls Try.prog 58 #[v] w (SomeRd .u32 w ((split2 ls).take (trimLen (split2 ls)))) := by
  rcases h with ⟨rfl, rfl⟩ | ⟨b, off, cap, rfl, _, hl, h⟩
  · exact (halves_nil w).mono fun _ _ ⟨he, hw⟩ => ⟨_, he, .inl ⟨rfl, rfl⟩, hw ▸ Below.refl _ _⟩
  · exact halves_at b off cap ls w hl hx hm h
end Go.Proofs.Ytimmgmhgahbcbaa
namespace Go.Proofs.Ytimmgmhgahbcbaa
open Go.RowKit

/-- Digits of 32 bits, two to a limb. -/
def join2 : List Nat → List Nat
  | [] => []
  | [x] => [x]
  | x :: y :: ls => (x + y * 4294967296) :: join2 ls
theorem join2_append : ∀ (n : Nat) (us bs : List Nat), us.length = 2 * n → join2 (us ++ bs) = join2 us ++ join2 bs
  | 0, us, bs, h => by rw [List.eq_nil_of_length_eq_zero (by omega : us.length = 0)]; rfl
  | n + 1, x :: y :: us, bs, h => by
    have ih := join2_append n us bs (by simp at h; omega)
    simp [join2, ih]
  | n + 1, [x], bs, h => by simp at h; omega
  | n + 1, [], bs, h => by simp at h
theorem join2_length : ∀ (n : Nat) (ls : List Nat), ls.length ≤ 2 * n → (join2 ls).length ≤ n
  | _, [], _ => Nat.zero_le _
  | n, [x], h => by simp at h; simp [join2]; omega
  | n, x :: y :: ls, h => by
    have ih := join2_length (n - 1) ls (by simp at h; omega)
    simp [join2] at *; omega
theorem join2_val : ∀ (n : Nat) (ls : List Nat), ls.length ≤ 2 * n → lval 18446744073709551616 (join2 ls) = lval 4294967296 ls
  | _, [], _ => rfl
  | _, [x], _ => rfl
  | 0, x :: y :: ls, h => by simp at h
  | n + 1, x :: y :: ls, h => by
    have ih := join2_val n ls (by simp at h; omega)
    simp only [join2, lval, ih]
    omega
theorem or_join (x y : Nat) (hx : x < 4294967296) (hy : y < 4294967296) : bits BinOp.or IntKind.u64 (x : Int) ((y : Int) * 4294967296) = ((x + y * 4294967296 : Nat) : Int) := by
  have e : ((y : Int) * 4294967296) = ((y * 4294967296 : Nat) : Int) := by omega
  rw [e, u64_or_nat _ _ (by omega) (by omega)]
  congr 1
  have := Nat.two_pow_add_eq_or_of_lt (i := 32) (b := x) (by simpa using hx) y
  rw [show (2 : Nat) ^ 32 = 4294967296 by decide] at this
  rw [Nat.or_comm, Nat.mul_comm y, ← this]; omega

/-- As SomeRd, and the slice lies in none of the blocks that were there. -/
def SomeRdF (k : IntKind) (w : World) (ls : List Nat) (e : Ending) (w' : World) : Prop := ∃ v, e = .returned v ∧ Rd k w' v ls ∧ Below w.heap.size w w' ∧ ∀ b, b < w.heap.size → v.ownBlock ≠ some b
theorem cutv_far {v : Value} {n b : Nat} (h : v.ownBlock ≠ some b) : (cutv v n).ownBlock ≠ some b := by
  unfold cutv
  split
  · simp [Value.ownBlock]
  · simpa [Value.ownBlock] using h
  · exact h
set_option maxRecDepth 100000 in
set_option maxHeartbeats 4000000 in
/-- whole -/
theorem whole_at (b off cap : Nat) (ls : List Nat) (w : World) (hb : b < w.heap.size) (hx : ∀ x ∈ ls, x < 4294967296) (hm : ls.length ≤ 2199023255552) (h : ∀ i, i < ls.length → w.cell? ⟨b, off + i, none⟩ = some (.int .u32 (ls.getD i 0 : Nat))) :
    Calls Try.prog 59 #[.slice (some ⟨b, off, none⟩) ls.length cap] w (SomeRdF .u64 w ((join2 ls).take (trimLen (join2 ls)))) := by
  obtain ⟨i0, hi0, hz0, hz1, hz2⟩ := info_parts info64
  have H := Lib.hid (And.intro h hx)
  clear h hx
  go_enter Try.func59, Try.ntmps59
  go_wp2
  go_loopw [3, 4] (fun s3 s4 wr => ∃ i : Nat, i ≤ ls.length + 1 ∧ s4 = .int .i64 i ∧ Hid (i % 2 = 0) ∧ Hid (wr.ownsRow w.heap.size 65 1 s3 (join2 (ls.take i)).length ((join2 (ls.take i)).map fun x => Value.int .u64 (x : Nat))) ∧ Below w.heap.size w wr) (fun _ s4 _ => ls.length + 1 - (intOf s4).toNat)
  case atStart => exact ⟨0, Nat.zero_le _, rfl, rfl, World.ownsRow_nil _ _ _ _, Below.refl _ _⟩
  case round =>
    obtain ⟨i, hi, rfl, hev, hown, hB⟩ := hrel
    have hBs := hB.size
    have hbr : b < wr.heap.size := Nat.lt_of_lt_of_le hb hBs
    by_cases hlt : i < ls.length
    · have hcell : wr.cell? ⟨b, off + i, none⟩ = some (.int .u32 (ls.getD i 0 : Nat)) := (hB.cell (p := ⟨b, off + i, none⟩) hb).trans (H.out.1 i hlt)
      obtain ⟨x, ex⟩ : ∃ x, x = ls.getD i 0 := ⟨_, rfl⟩
      have hx : x < 4294967296 := by rw [ex]; simp only [List.getD, List.getElem?_eq_getElem hlt, Option.getD_some]; exact H.out.2 _ (List.getElem_mem hlt)
      rw [← ex] at hcell
      have hdl : Hid ((join2 (ls.take i)).length ≤ 1099511627777) := join2_length _ _ (by simp; omega)
      by_cases hl1 : i + 1 < ls.length
      · have hcell2 : wr.cell? ⟨b, off + (i + 1), none⟩ = some (.int .u32 (ls.getD (i + 1) 0 : Nat)) := (hB.cell (p := ⟨b, off + (i + 1), none⟩) hb).trans (H.out.1 (i + 1) hl1)
        obtain ⟨y, ey⟩ : ∃ y, y = ls.getD (i + 1) 0 := ⟨_, rfl⟩
        have hy : y < 4294967296 := by rw [ey]; simp only [List.getD, List.getElem?_eq_getElem hl1, Option.getD_some]; exact H.out.2 _ (List.getElem_mem hl1)
        rw [← ey] at hcell2
        have eor := or_join x y hx hy
        obtain ⟨z, ez⟩ : ∃ z, z = x + y * 4294967296 := ⟨_, rfl⟩
        rw [← ez] at eor
        have E : join2 (ls.take (i + 2)) = join2 (ls.take i) ++ [z] := by
          rw [take_snoc_getD ls (i + 1) hl1, take_snoc_getD ls i hlt, List.append_assoc, join2_append (i / 2) _ _ (by simp; have := hev.out; omega), ← ex, ← ey, ez]; rfl
        have EH := Lib.hid E
        generalize join2 (ls.take i) = ds at *
        clear E ex ey ez
        have HO := hown
        have hl2 : ds.length ≤ 1099511627777 := hdl.out
        clear hown
        go_wp2_with (at_builtin; refine wpList_append_own _ rfl _ _ 45 rfl w.heap.size 65 i0 (.int .u64 0) 1 8 Try.underlying45 hi0 hz0 hz1 hz2 rfl (by decide) _ ds.length (ds.map fun x => Value.int .u64 (x : Nat)) rfl (HO.out.alloc _) ⟨wr.heap.size, 0, none⟩ 1 1 [.int .u64 (z : Nat)] rfl rfl ?c1 ?c2 ?c3 ?c4 ?c5 ?_)
        case c1 => exact (cell_one_new _ _ _)
        case c2 => simp [Value.oneCell']
        case c3 => unfold maxLen; omega
        case c4 => omega
        case c5 => simp; omega
        intro v' w1 hown1 hgrow _
        go_wp2
        refine ⟨⟨i + 2, by omega, by go_num, by have := hev.out; unfold Hid; omega, ?_, ?_⟩, by simp [intOf]; omega⟩
        · rw [EH.out]
          have h1 := hown1
          simpa [Hid] using h1
        · exact (hB.alloc hBs _).grown hgrow (by simp; omega) (fun k hk => (HO.out.lt k hk).1)
      · have he : i + 1 = ls.length := by omega
        have E : join2 (ls.take (i + 2)) = join2 (ls.take i) ++ [x] := by
          have e1 : ls.take (i + 2) = ls.take (i + 1) := by rw [List.take_of_length_le (by omega), List.take_of_length_le (by omega)]
          rw [e1, take_snoc_getD ls i hlt, join2_append (i / 2) _ _ (by simp; have := hev.out; omega), ← ex]; rfl
        have EH := Lib.hid E
        generalize join2 (ls.take i) = ds at *
        clear E ex
        have HO := hown
        have hl2 : ds.length ≤ 1099511627777 := hdl.out
        clear hown
        go_wp2_with (at_builtin; refine wpList_append_own _ rfl _ _ 45 rfl w.heap.size 65 i0 (.int .u64 0) 1 8 Try.underlying45 hi0 hz0 hz1 hz2 rfl (by decide) _ ds.length (ds.map fun x => Value.int .u64 (x : Nat)) rfl (HO.out.alloc _) ⟨wr.heap.size, 0, none⟩ 1 1 [.int .u64 (x : Nat)] rfl rfl ?c1 ?c2 ?c3 ?c4 ?c5 ?_)
        case c1 => exact (cell_one_new _ _ _)
        case c2 => simp [Value.oneCell']
        case c3 => unfold maxLen; omega
        case c4 => omega
        case c5 => simp; omega
        intro v' w1 hown1 hgrow _
        go_wp2
        refine ⟨⟨i + 2, by omega, by go_num, by have := hev.out; unfold Hid; omega, ?_, ?_⟩, by simp [intOf]; omega⟩
        · rw [EH.out]
          have h1 := hown1
          simpa [Hid] using h1
        · exact (hB.alloc hBs _).grown hgrow (by simp; omega) (fun k hk => (HO.out.lt k hk).1)
    · have he : ls.length ≤ i := by omega
      rw [List.take_of_length_le he] at hown
      have hlen : (join2 ls).length ≤ 1099511627777 := join2_length _ _ (by omega)
      have RD := Lib.hid (own_rd hown.out)
      have FR := Lib.hid (fun b' (hb' : b' < w.heap.size) => own_far hown.out hb')
      clear hown
      generalize join2 ls = ds at *
      go_wp2_with (go_at_call 57; (with_reducible refine (trim_any _ ds _ (by omega) RD.out).mono ?_); rintro e w' ⟨rfl, rfl⟩)
      go_ret
      exact ⟨_, rfl, RD.out.cut _ (trimLen_le _), hB, fun b' hb' => cutv_far (FR.out b' hb')⟩
set_option maxHeartbeats 4000000 in
theorem whole_nil (w : World) : Calls Try.prog 59 #[.slice none 0 0] w fun e w' => e = .returned (.slice none 0 0) ∧ w = w' := by
  go_enter Try.func59, Try.ntmps59
  go_wp2
  go_loop [3, 4] (fun s3 s4 => s3 = .slice none 0 0 ∧ s4 = .int .i64 0) (fun _ _ => 0)
  case atStart => exact ⟨rfl, rfl⟩
  case round =>
    obtain ⟨rfl, rfl⟩ := hrel
    go_wp2_with (go_at_call 57; (with_reducible refine (trim_nil _).mono ?_); rintro e w' ⟨rfl, rfl⟩)
    go_ret
    exact ⟨rfl, rfl⟩
/-- whole -/
theorem whole_any (v : Value) (ls : List Nat) (w : World) (hx : ∀ x ∈ ls, x < 4294967296) (hm : ls.length ≤ 2199023255552) (h : Rd .u32 w v ls) :
    Calls Try.prog 59 #[v] w (SomeRdF .u64 w ((join2 ls).take (trimLen (join2 ls)))) := by
  rcases h with ⟨rfl, rfl⟩ | ⟨b, off, cap, rfl, _, hl, h⟩
  · exact (whole_nil w).mono fun _ _ ⟨he, hw⟩ => ⟨_, he, .inl ⟨rfl, rfl⟩, hw ▸ Below.refl _ _, fun _ _ => by simp [Value.ownBlock]⟩
  · exact whole_at b off cap ls w hl hx hm h
end Go.Proofs.Ytimmgmhgahbcbaa
