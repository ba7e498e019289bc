/-
  What ViewWidens' round calls, where nothing is refused.
  Axes back: the list that leads back from a transposition; plain mathematics.
  A slice of one index: which of the whole's words are its own, in order; plain mathematics.
  A slice of one index: where the whole's index has its place there; plain mathematics.
-/
import Derived.Test.YtdcmcfmodbdhaaaM01
import Derived.Test.YtdcmcfmodbdhaaaM06
import Derived.Test.YtdcmcfmodbdhaaaM08
import Derived.Test.YtdcmcfmodbdhaaaM09
namespace Go.Proofs.Ytdcmcfmodbdhaaa
open Go.RowKit Go.Shelf

theorem wrap_in {x : Int} (h : (-9223372036854775808 : Int) ≤ x ∧ x ≤ 9223372036854775807) : IntKind.i64.wrap x = x := IntWalk.i64_in x h
theorem info_int64 : ∃ i, Try.prog.info? 2 = some i ∧ i.size = 1 := by
  obtain ⟨i, hi, _, h1, _⟩ := info_parts infoW
  exact ⟨i, hi, h1⟩
theorem vw_more {sh st : List Int} {off m : Int} (h : Vw sh st off m) : Vw sh st off 65536 := by
  obtain ⟨a, b, c, d, e, f, g⟩ := h
  exact ⟨a, b, c, d, by omega, by omega, by omega⟩
theorem vw_plain {sh : List Int} (h : may sh = true) : Vw sh (stl sh) 0 65536 := by
  have := may_prod h
  refine ⟨h, stl_len sh, fun s hs => ?_, by omega, by omega, by omega, by rw [far_stl]; omega⟩
  obtain ⟨i, hi, rfl⟩ := List.mem_iff_getElem.1 hs
  have hi' : i < sh.length := by rw [stl_len] at hi; exact hi
  have h1 := stl_getD sh i hi'
  rw [List.getD_eq_getElem?_getD, List.getElem?_eq_getElem hi, Option.getD_some] at h1
  have := may_drop h (i + 1)
  rw [h1]
  exact ⟨by omega, this.2⟩
/-- A view in new memory. -/
def NewV (W : World) (sh st : List Int) (off : Int) (n m : Nat) (e : Ending) (w' : World) : Prop := ∃ os cs ot ct, e = .returned (.tuple #[.agg #[.slice os n cs, .slice ot m ct, .int .i64 off], .int .i64 0]) ∧ Ld w' (.slice os n cs) sh ∧ Ld w' (.slice ot m ct) st ∧ Below W.heap.size W w'
theorem newV_of {W : World} {sh st : List Int} {off : Int} {n m : Nat} (hn : n = sh.length) (hm : m = st.length) {e : Ending} {w' : World} (h : SomeV W 0 sh st off e w') : NewV W sh st off n m e w' := by
  subst hn hm
  obtain ⟨os, cs, ot, ct, rfl, ho, hb⟩ := h
  exact ⟨os, cs, ot, ct, rfl, (ov_ld ho).1, (ov_ld ho).2, hb⟩
theorem widen_cons (vs vt va : Value) (sh st : List Int) (off m n : Int) (w : World) (hs : Ld w vs sh) (ht : Ld w vt st) (ha : Ld w va (n :: sh)) (hv : Vw sh st off m) (hm : may (n :: sh) = true) :
    Calls Try.prog 22 #[.agg #[vs, vt, .int .i64 off], va] w (NewV w (n :: sh) (0 :: st) off (sh.length + 1) (st.length + 1)) := by
  have l1 := may_len hv.1
  have l2 := may_len hm
  have l3 := hv.2.1
  have h := widen_any vs vt va sh st (n :: sh) off w hs ht ha (by omega) (by omega) (by omega)
  have e : wie sh st off (n :: sh) = 0 := by
    unfold wie
    rw [vwb_iff.2 (vw_more hv), hm, goes_cons hv.1 hm]; rfl
  rw [e] at h
  rw [show unl 0 (n :: sh) = n :: sh from rfl, show unl 0 (wst sh st (n :: sh)) = wst sh st (n :: sh) from rfl, wst_cons l3, show unn 0 off = off from rfl] at h
  exact h.mono fun e w' hh => newV_of rfl rfl hh
theorem of_ok (v : Value) (sh : List Int) (w : World) (h : Ld w v sh) (hm : may sh = true) : Calls Try.prog 24 #[v] w (NewV w sh (stl sh) 0 sh.length sh.length) := by
  have l1 := may_len hm
  have h := of_any v sh w h (by omega)
  rw [show ofe sh = 0 by unfold ofe; rw [hm]; rfl] at h
  exact h.mono fun e w' hh => newV_of rfl (stl_len sh).symm hh
theorem reshape_ok (vs vt va : Value) (sh s : List Int) (w : World) (hs : Ld w vs sh) (ht : Ld w vt (stl sh)) (ha : Ld w va s) (hm : may sh = true) (hm2 : may s = true) (hp : prod sh = prod s) :
    Calls Try.prog 23 #[.agg #[vs, vt, .int .i64 0], va] w (NewV w s (stl s) 0 s.length s.length) := by
  have l1 := may_len hm
  have l2 := may_len hm2
  have h := reshape_any vs vt va sh (stl sh) s 0 w hs ht ha (by omega) (by rw [stl_len]; omega) (by omega)
  have e : ree sh (stl sh) 0 s = 0 := by
    unfold ree pln
    rw [vwb_iff.2 (vw_plain hm), hm2, decide_eq_true hp]; simp
  rw [e] at h
  exact h.mono fun e w' hh => newV_of rfl (stl_len s).symm hh
/-- A tensor in new memory. -/
def NewT (W : World) (sh ds : List Int) (n m : Nat) (e : Ending) (w' : World) : Prop := ∃ os cs g cd, e = .returned (.tuple #[.agg #[.slice os n cs, .slice (some ⟨g, 0, none⟩) m cd], .int .i64 0]) ∧ Ld w' (.slice os n cs) sh ∧ Ld w' (.slice (some ⟨g, 0, none⟩) m cd) ds ∧ Below W.heap.size W w'
theorem copyt_ok (vs vt vd : Value) (sh st ls : List Int) (off : Int) (N n : Nat) (w : World) (hs : Ld w vs sh) (ht : Ld w vt st) (hd : Ld w vd ls) (hv : Vw sh st off ls.length) (hwd : wds ls = true) (hN : (N : Int) = prod sh) (hn : n = sh.length) :
    Calls Try.prog 37 #[.agg #[vs, vt, .int .i64 off], vd] w (NewT w sh (cps sh st off ls N) n N) := by
  subst hn
  have h := copy_ok vs vt vd sh st ls off N w hs ht hd (vwb_iff.2 hv) hwd hN
  have hp := may_prod hv.1
  refine h.mono ?_
  rintro e w' ⟨os, cs, od, cd, rfl, h1, h2, hb⟩
  obtain ⟨_, _, e1, g1⟩ := Ld.of_owns h1
  obtain ⟨_, _, e2, g2⟩ := Ld.of_owns h2
  obtain ⟨g, rfl⟩ := own_some h2 (by rw [cps_len]; omega)
  simp only [Value.slice.injEq] at e1 e2
  obtain ⟨rfl, _, rfl⟩ := e1
  obtain ⟨rfl, _, rfl⟩ := e2
  rw [cps_len] at g2
  exact ⟨os, cs, g, cd, by rw [cps_len], g1, g2, hb⟩
end Go.Proofs.Ytdcmcfmodbdhaaa
namespace Go.Proofs.Ytdcmcfmodbdhaaa

/-- The way back, k axes of it. -/
def bkf (ax : List Int) : Nat → List Int
  | 0 => List.replicate ax.length 0
  | k + 1 => (bkf ax k).set (ax.getD k 0).toNat (k : Int)
theorem bkf_len (ax : List Int) : ∀ k, (bkf ax k).length = ax.length
  | 0 => by simp [bkf]
  | k + 1 => by unfold bkf; rw [List.length_set, bkf_len ax k]
/-- The way back. -/
def bks (ax : List Int) : List Int := bkf ax ax.length
theorem bks_len (ax : List Int) : (bks ax).length = ax.length := bkf_len ax _
theorem axs_inj {ax : List Int} {n : Nat} (h : axs ax n = true) {i j : Nat} (hi : i < ax.length) (hj : j < ax.length) (e : ax.getD i 0 = ax.getD j 0) : i = j := by
  have hn := (axs_all h).2
  rw [List.getD_eq_getElem?_getD, List.getD_eq_getElem?_getD, List.getElem?_eq_getElem hi, List.getElem?_eq_getElem hj] at e
  simp only [Option.getD_some] at e
  have hp := List.pairwise_iff_getElem.1 hn
  rcases Nat.lt_trichotomy i j with q | q | q
  · exact absurd e (hp i j hi hj q)
  · exact q
  · exact absurd e.symm (hp j i hj hi q)
theorem bkf_at {ax : List Int} {n : Nat} (h : axs ax n = true) : ∀ k, k ≤ ax.length → ∀ j, j < k → (bkf ax k).getD (ax.getD j 0).toNat 0 = (j : Int)
  | 0, _, _, hj => absurd hj (Nat.not_lt_zero _)
  | k + 1, hk, j, hj => by
    obtain ⟨a, ea, ha⟩ := axs_at h (show j < ax.length by omega)
    obtain ⟨b, eb, hb⟩ := axs_at h (show k < ax.length by omega)
    have hl := axs_len h
    unfold bkf
    rw [ea, eb, Int.toNat_natCast, Int.toNat_natCast, List.getD_eq_getElem?_getD, List.getElem?_set]
    by_cases e : j = k
    · subst e
      have : a = b := by have := ea.symm.trans eb; omega
      subst this
      rw [if_pos rfl, if_pos (by rw [bkf_len]; omega)]; rfl
    · have hab : ¬ b = a := fun h2 => e (axs_inj h (by omega) (by omega) (by rw [ea, eb, h2]))
      rw [if_neg hab, ← List.getD_eq_getElem?_getD]
      have := bkf_at h k (by omega) j (by omega)
      rwa [ea, Int.toNat_natCast] at this
theorem bks_at {ax : List Int} {n j : Nat} (h : axs ax n = true) (hj : j < ax.length) : (bks ax).getD (ax.getD j 0).toNat 0 = (j : Int) := bkf_at h ax.length (Nat.le_refl _) j hj
theorem axs_mem {ax : List Int} {n a : Nat} (h : axs ax n = true) (ha : a < n) : ∃ j, j < ax.length ∧ ax.getD j 0 = (a : Int) := by
  have h2 := h
  unfold axs at h2
  simp only [Bool.and_eq_true, decide_eq_true_eq, axN_iff] at h2
  obtain ⟨j, hj, e⟩ := List.mem_iff_getElem.1 (h2.2 a ha)
  exact ⟨j, hj, by rw [List.getD_eq_getElem?_getD, List.getElem?_eq_getElem hj, Option.getD_some, e]⟩
theorem ax_bks {ax : List Int} {n a : Nat} (h : axs ax n = true) (ha : a < n) : ∃ j : Nat, (bks ax).getD a 0 = (j : Int) ∧ j < ax.length ∧ ax.getD j 0 = (a : Int) := by
  obtain ⟨j, hj, e⟩ := axs_mem h ha
  have := bks_at h hj
  rw [e, Int.toNat_natCast] at this
  exact ⟨j, this, hj, e⟩
theorem axs_bks {ax : List Int} {n : Nat} (h : axs ax n = true) : axs (bks ax) n = true := by
  have hl := axs_len h
  unfold axs
  simp only [Bool.and_eq_true, decide_eq_true_eq, axN_iff]
  refine ⟨by rw [bks_len, hl], fun i hi => ?_⟩
  obtain ⟨a, ea, ha⟩ := axs_at h (show i < ax.length by omega)
  have := bks_at h (show i < ax.length by omega)
  rw [ea, Int.toNat_natCast] at this
  rw [← this]
  exact getD_mem (by rw [bks_len]; omega)
/-- There and back. -/
theorem trl_back {ax l : List Int} {n : Nat} (h : axs ax n = true) (hl : l.length = n) : trl (trl l ax) (bks ax) = l := by
  have hn := axs_len h
  refine ext_getD (by rw [trl_len, bks_len, hn, hl]) (fun a ha => ?_)
  rw [trl_len, bks_len] at ha
  obtain ⟨j, e1, hj, e2⟩ := ax_bks h (show a < n by omega)
  rw [trl_getD (by rw [bks_len]; exact ha), e1, Int.toNat_natCast, trl_getD hj, e2, Int.toNat_natCast]
/-- What is summed over axes is summed over all numbers. -/
theorem axs_nat {ax : List Int} {n : Nat} (h : axs ax n = true) : (ax.map Int.toNat).Perm (List.range n) := by
  have hl := axs_len h
  have h1 : (ax.map Int.toNat).Nodup := by
    rw [List.Nodup, List.pairwise_iff_getElem]
    intro i j hi hj q
    simp only [List.length_map] at hi hj
    simp only [List.getElem_map]
    intro e
    obtain ⟨a, ea, _⟩ := axs_at h hi
    obtain ⟨b, eb, _⟩ := axs_at h hj
    have hi2 : ax[i] = (a : Int) := by rw [← ea, List.getD_eq_getElem?_getD, List.getElem?_eq_getElem hi]; rfl
    have hj2 : ax[j] = (b : Int) := by rw [← eb, List.getD_eq_getElem?_getD, List.getElem?_eq_getElem hj]; rfl
    rw [hi2, hj2, Int.toNat_natCast, Int.toNat_natCast] at e
    have := axs_inj h hi hj (by rw [ea, eb, e])
    omega
  refine (List.perm_ext_iff_of_nodup h1 List.nodup_range).2 (fun x => ?_)
  rw [List.mem_range, List.mem_map]
  constructor
  · rintro ⟨y, hy, rfl⟩
    have := (axs_all h).1 y hy
    omega
  · intro hx
    obtain ⟨j, hj, e⟩ := axs_mem h hx
    exact ⟨_, getD_mem hj, by rw [e, Int.toNat_natCast]⟩
def sumL : List Int → Int
  | [] => 0
  | x :: r => x + sumL r
theorem sumL_perm {a b : List Int} (h : a.Perm b) : sumL a = sumL b := by
  induction h with
  | nil => rfl
  | cons x _ ih => simp only [sumL, ih]
  | swap x y l => simp only [sumL]; omega
  | trans _ _ h1 h2 => exact h1.trans h2
theorem prod_perm {a b : List Int} (h : a.Perm b) : prod a = prod b := by
  induction h with
  | nil => rfl
  | cons x _ ih => simp only [prod, ih]
  | swap x y l => simp only [prod]; rw [← Int.mul_assoc, ← Int.mul_assoc, Int.mul_comm x y]
  | trans _ _ h1 h2 => exact h1.trans h2
theorem trl_perm {ax l : List Int} {n : Nat} (h : axs ax n = true) (hl : l.length = n) : (trl l ax).Perm l := by
  have h1 := (axs_nat h).map (fun k => l.getD k 0)
  rw [List.map_map] at h1
  have e : (List.range n).map (fun k => l.getD k 0) = l := by
    refine ext_getD (by simp [hl]) (fun k hk => ?_)
    simp only [List.length_map, List.length_range] at hk
    rw [List.getD_eq_getElem?_getD, List.getElem?_map, List.getElem?_range hk]
    rfl
  rw [e] at h1
  exact h1
theorem far_sum : ∀ (st sh : List Int), st.length = sh.length → far st sh = sumL ((List.range sh.length).map fun k => (sh.getD k 0 - 1) * st.getD k 0)
  | [], [], _ => rfl
  | s :: r, d :: t, h => by
    have ih := far_sum r t (by simpa using h)
    simp only [far, ih, List.length_cons, List.range_succ_eq_map, List.map_cons, List.map_map, sumL]
    congr 1
  | [], _ :: _, h => by simp at h
  | _ :: _, [], h => by simp at h
theorem far_trl {ax sh st : List Int} {n : Nat} (h : axs ax n = true) (h1 : sh.length = n) (h2 : st.length = n) : far (trl st ax) (trl sh ax) = far st sh := by
  have hl := axs_len h
  rw [far_sum _ _ (by rw [trl_len, trl_len]), far_sum _ _ (by omega), trl_len, h1]
  have e : (List.range ax.length).map (fun k => ((trl sh ax).getD k 0 - 1) * (trl st ax).getD k 0) = (ax.map Int.toNat).map fun a => (sh.getD a 0 - 1) * st.getD a 0 := by
    apply List.ext_getElem
    · simp
    · intro k hk1 hk2
      have hk : k < ax.length := by simpa using hk1
      simp only [List.getElem_map, List.getElem_range]
      rw [trl_getD hk, trl_getD hk, List.getD_eq_getElem?_getD (l := ax), List.getElem?_eq_getElem hk]; rfl
  rw [e]
  exact sumL_perm ((axs_nat h).map _)
/-- A transposed view is one. -/
theorem vw_trl {ax sh st : List Int} {off m : Int} (hv : Vw sh st off m) (h : axs ax sh.length = true) : Vw (trl sh ax) (trl st ax) off m := by
  obtain ⟨a, b, c, d, e, f, g⟩ := hv
  have hl := axs_len h
  have p1 := trl_perm h rfl
  have p2 := trl_perm h b
  obtain ⟨m1, m2, m3⟩ := (may_iff sh).1 a
  refine ⟨(may_iff _).2 ⟨by rw [trl_len]; omega, fun x hx => m2 x (p1.mem_iff.1 hx), by rw [prod_perm p1]; exact m3⟩, by rw [trl_len, trl_len], fun x hx => c x (p2.mem_iff.1 hx), d, e, f, by rw [far_trl h rfl b]; exact g⟩
end Go.Proofs.Ytdcmcfmodbdhaaa
namespace Go.Proofs.Ytdcmcfmodbdhaaa

/-- How many indexes before the n-th have k at axis a. -/
def cn : List Int → Nat → Int → Int → Int
  | [], _, _, _ => 0
  | _ :: r, 0, k, n => if n ≤ k * prod r then 0 else if n ≤ (k + 1) * prod r then n - k * prod r else prod r
  | _ :: r, a + 1, k, n => n / prod r * prod (r.set a 1) + cn r a k (n % prod r)
theorem set_pos {s : List Int} (h : pos s) (a : Nat) : pos (s.set a 1) := fun x hx => by
  rcases List.mem_or_eq_of_mem_set hx with h1 | rfl
  · exact h x h1
  · omega
theorem cn_zero : ∀ (s : List Int) (a : Nat) (k : Int), pos s → 0 ≤ k → cn s a k 0 = 0
  | [], _, _, _, _ => rfl
  | _ :: r, 0, k, h, hk => by
    have hp := prod_pos (ls := r) (fun x hx => h x (List.mem_cons_of_mem _ hx))
    have := Int.mul_nonneg hk (show 0 ≤ prod r by omega)
    simp only [cn]
    rw [if_pos this]
  | _ :: r, a + 1, k, h, hk => by
    have hr : pos r := fun x hx => h x (List.mem_cons_of_mem _ hx)
    simp only [cn, Int.zero_ediv, Int.zero_mul, Int.zero_emod, cn_zero r a k hr hk]
    rfl
theorem cn_all : ∀ (s : List Int) (a : Nat) (k : Int), pos s → a < s.length → 0 ≤ k → k < s.getD a 0 → cn s a k (prod s) = prod (s.set a 1)
  | [], _, _, _, h, _, _ => by simp at h
  | d :: r, 0, k, h, _, hk, hd => by
    have hp := prod_pos (ls := r) (fun x hx => h x (List.mem_cons_of_mem _ hx))
    have hd' : k < d := by simpa [List.getD] using hd
    have h1 := Int.mul_le_mul_of_nonneg_right (show k + 1 ≤ d by omega) (show 0 ≤ prod r by omega)
    have h2 : (k + 1) * prod r = k * prod r + prod r := by rw [Int.add_mul, Int.one_mul]
    have e1 : prod ((d :: r).set 0 1) = prod r := by
      show 1 * prod r = prod r
      omega
    rw [e1]
    show (if d * prod r ≤ k * prod r then (0 : Int) else if d * prod r ≤ (k + 1) * prod r then d * prod r - k * prod r else prod r) = prod r
    split
    · omega
    · split
      · omega
      · rfl
  | d :: r, a + 1, k, h, ha, hk, hd => by
    have hr : pos r := fun x hx => h x (List.mem_cons_of_mem _ hx)
    have hp := prod_pos hr
    have h0 := cn_zero r a k hr hk
    simp only [cn, prod, List.set_cons_succ]
    rw [Int.mul_ediv_cancel _ (by omega), Int.mul_emod_left, h0, Int.add_zero]
theorem cn_step : ∀ (s : List Int) (a : Nat) (k n : Int), pos s → a < s.length → 0 ≤ k → k < s.getD a 0 → 0 ≤ n → n < prod s → cn s a k (n + 1) = cn s a k n + if (atl s n).getD a 0 = k then 1 else 0
  | [], _, _, _, _, h, _, _, _, _ => by simp at h
  | d :: r, 0, k, n, h, _, hk, hd, h0, h1 => by
    have hp := prod_pos (ls := r) (fun x hx => h x (List.mem_cons_of_mem _ hx))
    have h2 : (k + 1) * prod r = k * prod r + prod r := by rw [Int.add_mul, Int.one_mul]
    have e : (atl (d :: r) n).getD 0 0 = n / prod r := rfl
    rw [e]
    have hq : n / prod r = k ↔ k * prod r ≤ n ∧ n < (k + 1) * prod r := by
      constructor
      · rintro rfl
        have := Int.ediv_mul_le n (show prod r ≠ 0 by omega)
        have := Int.lt_ediv_add_one_mul_self n (show 0 < prod r by omega)
        exact ⟨by omega, by omega⟩
      · rintro ⟨q1, q2⟩
        have g1 := (Int.le_ediv_iff_mul_le (show 0 < prod r by omega)).2 q1
        have g2 := (Int.ediv_lt_iff_lt_mul (show 0 < prod r by omega)).2 q2
        omega
    simp only [cn]
    by_cases g : n / prod r = k
    · have := hq.1 g
      rw [if_pos g]
      split <;> split <;> (try split) <;> (try split) <;> omega
    · rw [if_neg g]
      have hn : n < k * prod r ∨ (k + 1) * prod r ≤ n := by
        rcases Int.lt_or_le n (k * prod r) with q | q
        · exact .inl q
        · rcases Int.lt_or_le n ((k + 1) * prod r) with q2 | q2
          · exact absurd (hq.2 ⟨q, q2⟩) g
          · exact .inr q2
      split <;> split <;> (try split) <;> (try split) <;> omega
  | d :: r, a + 1, k, n, h, ha, hk, hd, h0, h1 => by
    have hr : pos r := fun x hx => h x (List.mem_cons_of_mem _ hx)
    have hp := prod_pos hr
    have ha' : a < r.length := by simpa using ha
    have hd' : k < r.getD a 0 := by simpa [List.getD] using hd
    have e : (atl (d :: r) n).getD (a + 1) 0 = (atl r (n % prod r)).getD a 0 := by simp [atl, List.getD]
    rw [e]
    have m0 := Int.emod_nonneg n (show prod r ≠ 0 by omega)
    have m1 := Int.emod_lt_of_pos n (show 0 < prod r by omega)
    have ih := cn_step r a k (n % prod r) hr ha' hk hd' m0 m1
    have hdm := Int.mul_ediv_add_emod n (prod r)
    simp only [cn]
    by_cases g : n % prod r + 1 < prod r
    · have e1 : (n + 1) / prod r = n / prod r := by
        rw [show n + 1 = (n % prod r + 1) + prod r * (n / prod r) by omega, Int.add_mul_ediv_left _ _ (by omega), Int.ediv_eq_zero_of_lt (by omega) g, Int.zero_add]
      have e2 : (n + 1) % prod r = n % prod r + 1 := by
        rw [show n + 1 = (n % prod r + 1) + prod r * (n / prod r) by omega, Int.add_mul_emod_self_left, Int.emod_eq_of_lt (by omega) g]
      rw [e1, e2, ih]
      omega
    · have e0 : n % prod r + 1 = prod r := by omega
      have e1 : (n + 1) / prod r = n / prod r + 1 := by
        rw [show n + 1 = prod r * (n / prod r + 1) by rw [Int.mul_add]; omega, Int.mul_ediv_cancel_left _ (by omega)]
      have e2 : (n + 1) % prod r = 0 := by
        rw [show n + 1 = prod r * (n / prod r + 1) by rw [Int.mul_add]; omega, Int.mul_emod_right]
      have hall := cn_all r a k hr ha' hk hd'
      rw [e0, hall] at ih
      rw [e1, e2, cn_zero r a k hr hk, Int.add_mul, Int.one_mul, ih]
      omega
end Go.Proofs.Ytdcmcfmodbdhaaa
namespace Go.Proofs.Ytdcmcfmodbdhaaa

theorem atl_cn : ∀ (s : List Int) (a : Nat) (n : Int), pos s → a < s.length → 0 ≤ n → n < prod s → 0 ≤ cn s a ((atl s n).getD a 0) n ∧ cn s a ((atl s n).getD a 0) n < prod (s.set a 1) ∧ atl (s.set a 1) (cn s a ((atl s n).getD a 0) n) = (atl s n).set a 0
  | [], _, _, _, h, _, _ => by simp at h
  | d :: r, 0, n, h, _, h0, h1 => by
    have hp := prod_pos (ls := r) (fun x hx => h x (List.mem_cons_of_mem _ hx))
    have hq : (atl (d :: r) n).getD 0 0 = n / prod r := rfl
    rw [hq]
    have e1 : prod ((d :: r).set 0 1) = prod r := by
      show 1 * prod r = prod r
      omega
    have m0 := Int.emod_nonneg n (show prod r ≠ 0 by omega)
    have m1 := Int.emod_lt_of_pos n (show 0 < prod r by omega)
    have hdm := Int.mul_ediv_add_emod n (prod r)
    have ec : cn (d :: r) 0 (n / prod r) n = n % prod r := by
      have h2 : (n / prod r + 1) * prod r = n / prod r * prod r + prod r := by rw [Int.add_mul, Int.one_mul]
      have h3 : n / prod r * prod r = prod r * (n / prod r) := Int.mul_comm _ _
      show (if n ≤ n / prod r * prod r then (0 : Int) else if n ≤ (n / prod r + 1) * prod r then n - n / prod r * prod r else prod r) = n % prod r
      split
      · omega
      · split <;> omega
    rw [ec, e1]
    refine ⟨m0, m1, ?_⟩
    show n % prod r / prod r :: atl r (n % prod r % prod r) = 0 :: atl r (n % prod r)
    rw [Int.ediv_eq_zero_of_lt m0 m1, Int.emod_eq_of_lt m0 m1]
  | d :: r, a + 1, n, h, ha, h0, h1 => by
    have hr : pos r := fun x hx => h x (List.mem_cons_of_mem _ hx)
    have hp := prod_pos hr
    have ha' : a < r.length := by simpa using ha
    have hg : (atl (d :: r) n).getD (a + 1) 0 = (atl r (n % prod r)).getD a 0 := by simp [atl, List.getD]
    rw [hg]
    have m0 := Int.emod_nonneg n (show prod r ≠ 0 by omega)
    have m1 := Int.emod_lt_of_pos n (show 0 < prod r by omega)
    obtain ⟨c0, c1, ih⟩ := atl_cn r a (n % prod r) hr ha' m0 m1
    generalize hk : (atl r (n % prod r)).getD a 0 = k at *
    have hn0 := Int.ediv_nonneg h0 (show 0 ≤ prod r by omega)
    have hnd : n / prod r < d := Int.ediv_lt_of_lt_mul (by omega) h1
    have e1 : prod ((d :: r).set (a + 1) 1) = d * prod (r.set a 1) := rfl
    have ec : cn (d :: r) (a + 1) k n = n / prod r * prod (r.set a 1) + cn r a k (n % prod r) := rfl
    rw [ec, e1]
    have b0 := Int.mul_nonneg hn0 (show 0 ≤ prod (r.set a 1) by omega)
    have b1 := Int.mul_le_mul_of_nonneg_right (show n / prod r + 1 ≤ d by omega) (show 0 ≤ prod (r.set a 1) by omega)
    rw [Int.add_mul, Int.one_mul] at b1
    refine ⟨by omega, by omega, ?_⟩
    show (n / prod r * prod (r.set a 1) + cn r a k (n % prod r)) / prod (r.set a 1) :: atl (r.set a 1) ((n / prod r * prod (r.set a 1) + cn r a k (n % prod r)) % prod (r.set a 1)) = n / prod r :: (atl r (n % prod r)).set a 0
    have e3 : (n / prod r * prod (r.set a 1) + cn r a k (n % prod r)) / prod (r.set a 1) = n / prod r := by
      rw [Int.add_comm, Int.add_mul_ediv_right _ _ (by omega), Int.ediv_eq_zero_of_lt c0 c1, Int.zero_add]
    have e4 : (n / prod r * prod (r.set a 1) + cn r a k (n % prod r)) % prod (r.set a 1) = cn r a k (n % prod r) := by
      rw [Int.add_comm, Int.add_mul_emod_self_right, Int.emod_eq_of_lt c0 c1]
    rw [e3, e4, ih]
/-- The dot of an index with one number put. -/
theorem dot_put : ∀ (st i : List Int) (a : Nat) (x : Int), st.length = i.length → a < i.length → dot st (i.set a x) = dot st i + (x - i.getD a 0) * st.getD a 0
  | [], _, _, _, h, h2 => by simp at h; omega
  | _ :: _, [], _, _, h, _ => by simp at h
  | s :: r, y :: t, 0, x, _, _ => by
    show x * s + dot r t = y * s + dot r t + (x - y) * s
    rw [Int.sub_mul]
    omega
  | s :: r, y :: t, a + 1, x, h, h2 => by
    have ih := dot_put r t a x (by simpa using h) (by simpa using h2)
    show y * s + dot r (t.set a x) = y * s + dot r t + (x - t.getD a 0) * r.getD a 0
    rw [ih]
    omega
/-- A slice's word is the whole's: at the whole's index less k steps of the axis. -/
theorem dot_cn {s st : List Int} {a : Nat} {n : Int} (h : pos s) (hl : st.length = s.length) (ha : a < s.length) (h0 : 0 ≤ n) (h1 : n < prod s) : dot st (atl (s.set a 1) (cn s a ((atl s n).getD a 0) n)) + (atl s n).getD a 0 * st.getD a 0 = dot st (atl s n) := by
  obtain ⟨_, _, e⟩ := atl_cn s a n h ha h0 h1
  have hn := atl_len s n
  rw [e, dot_put st (atl s n) a 0 (by omega) (by omega), Int.zero_sub, Int.neg_mul]
  omega
theorem prod_put_le : ∀ {s : List Int} (a : Nat), pos s → prod (s.set a 1) ≤ prod s
  | [], _, _ => by simp
  | d :: r, 0, h => by
    have hp := prod_pos (ls := r) (fun x hx => h x (List.mem_cons_of_mem _ hx))
    have := Int.mul_le_mul_of_nonneg_right (h d (List.mem_cons_self ..)) (show 0 ≤ prod r by omega)
    exact this
  | d :: r, a + 1, h => by
    have ih := prod_put_le (s := r) a (fun x hx => h x (List.mem_cons_of_mem _ hx))
    have hd := h d (List.mem_cons_self ..)
    exact Int.mul_le_mul_of_nonneg_left ih (by omega)
theorem may_put {s : List Int} (h : may s = true) (a : Nat) : may (s.set a 1) = true := by
  obtain ⟨m1, m2, m3⟩ := (may_iff s).1 h
  refine (may_iff _).2 ⟨by rw [List.length_set]; omega, fun x hx => ?_, Int.le_trans (prod_put_le a (may_pos h)) m3⟩
  rcases List.mem_or_eq_of_mem_set hx with h1 | rfl
  · exact m2 x h1
  · omega
theorem far_put : ∀ (st s : List Int) (a : Nat), st.length = s.length → a < s.length → far st (s.set a 1) + (s.getD a 0 - 1) * st.getD a 0 = far st s
  | [], _, _, h, h2 => by simp at h; omega
  | _ :: _, [], _, h, _ => by simp at h
  | x :: r, d :: t, 0, _, _ => by
    show (1 - 1) * x + far r t + (d - 1) * x = (d - 1) * x + far r t
    omega
  | x :: r, d :: t, a + 1, h, h2 => by
    have ih := far_put r t a (by simpa using h) (by simpa using h2)
    show (d - 1) * x + far r (t.set a 1) + (t.getD a 0 - 1) * r.getD a 0 = (d - 1) * x + far r t
    omega
/-- A slice of one index is a view. -/
theorem vw_put {s st : List Int} {off m k : Int} {a : Nat} (hv : Vw s st off m) (ha : a < s.length) (k0 : 0 ≤ k) (k1 : k < s.getD a 0) : Vw (s.set a 1) st (off + k * st.getD a 0) m := by
  obtain ⟨h1, b, c, d, e, f, g⟩ := hv
  have hf := far_put st s a b ha
  have hs := (c _ (getD_mem (show a < st.length by omega))).1
  have g0 := Int.mul_nonneg k0 hs
  have g1 := Int.mul_le_mul_of_nonneg_right (show k ≤ s.getD a 0 - 1 by omega) hs
  have g2 : 0 ≤ far st (s.set a 1) := by
    have hv' : ∀ (x y : List Int), x.length = y.length → sts x → pos y → 0 ≤ far x y := by
      intro x
      induction x with
      | nil => intro y _ _ _; cases y <;> simp [far]
      | cons u r ih =>
        intro y hy hx hp
        cases y with
        | nil => simp at hy
        | cons v t =>
          have i1 := ih t (by simpa using hy) (fun z hz => hx z (List.mem_cons_of_mem _ hz)) (fun z hz => hp z (List.mem_cons_of_mem _ hz))
          have i2 := Int.mul_nonneg (show 0 ≤ v - 1 by have := hp v (List.mem_cons_self ..); omega) (hx u (List.mem_cons_self ..)).1
          show 0 ≤ (v - 1) * u + far r t
          omega
    exact hv' _ _ (by rw [List.length_set]; exact b) c (set_pos (may_pos h1) a)
  exact ⟨may_put h1 a, by rw [List.length_set]; exact b, c, by omega, e, by omega, by omega⟩
/-- What a slice of one index copies is what the whole's copy has at the indexes with k. -/
theorem cps_cn {s st ls : List Int} {off : Int} {a n N M : Nat} (h : may s = true) (hl : st.length = s.length) (ha : a < s.length) (hN : (N : Int) = prod s) (hM : (M : Int) = prod (s.set a 1)) (hn : n < N) :
    (cn s a ((atl s (n : Nat)).getD a 0) n).toNat < M ∧ (cps (s.set a 1) st (off + (atl s (n : Nat)).getD a 0 * st.getD a 0) ls M).getD (cn s a ((atl s (n : Nat)).getD a 0) n).toNat 0 = (cps s st off ls N).getD n 0 := by
  have hp := may_pos h
  obtain ⟨c0, c1, _⟩ := atl_cn s a n hp ha (by omega) (by omega)
  have hd := dot_cn (st := st) (n := n) hp hl ha (by omega) (by omega)
  have hlt : (cn s a ((atl s (n : Nat)).getD a 0) n).toNat < M := by omega
  refine ⟨hlt, ?_⟩
  rw [cps_getD hlt, cps_getD hn, Int.toNat_of_nonneg c0, ← hd]
  congr 2
  omega
end Go.Proofs.Ytdcmcfmodbdhaaa
