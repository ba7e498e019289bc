/-
  What each law of package elem ends with: a sum. What is played.
  Quotients by a divisor above 0: the rounded one is the lower one, or 1 more; both are wide numbers.
  Rounded quotients of words: half of the divisor away at most.
  Roots of whole numbers: Newton's steps, and the nearest word to a root.
  The nearest whole number to the root of a rational number, by its half; odd numbers over 2 and 4.
  FxLaws' arithmetic: whole quotients; a quotient's half, a product's half over a power of 2, in lowest terms.
  package elem: One of the operations that its laws without the page's own ask for; their words.
  Words laid where indexes stand; which places are taken; plain mathematics.
  slices.Clone of words.
  The reference's views: which may be, axes, the plain one.
  view.Reshape; the reference's plain view.
  The view laws' own helpers: views held against one another, copied, written over, asked.
  Of the references that the laws of package view call: words copied and spoilt, where an index stands.
-/
import Derived.Deep.QuietTactic
import Derived.BigQuiet
import Derived.Deep.DeepBigQuietO
import Derived.Test.YtpfcjajmfadcbaaGreatM01
import Derived.Test.YtpfcjajmfadcbaaGreatM03
import Derived.Test.YtpfcjajmfadcbaaGreatM04
import Derived.Test.YtpfcjajmfadcbaaGreatM05
import Derived.Test.YtpfcjajmfadcbaaGreatM07
import Derived.Test.YtpfcjajmfadcbaaGreatM08
import Derived.Test.YtpfcjajmfadcbaaGreatM10
namespace Go.Proofs.YtpfcjajmfadcbaaGreat
open Go.RowKit Go.Shelf

theorem num8_any (x : Int) (w : World) : Calls Tryz.prog 12 #[.int .i64 x] w fun e w' => e = .returned (.int .i64 x) ∧ w = w' := by
  go_enter Tryz.func12, Tryz.ntmps12
  go_wp2
  go_ret
  exact ⟨rfl, rfl⟩
/-- More words than are played? -/
def hv8 (m : Int) (s d : List Int) : Bool := decide (m < d.length) || decide (8 < s.length)
theorem hv8_no {m : Int} {s d : List Int} (h : hv8 m s d = false) : (d.length : Int) ≤ m ∧ s.length ≤ 8 := by
  unfold hv8 at h
  simp only [Bool.or_eq_false_iff, decide_eq_false_iff_not] at h
  omega
set_option maxRecDepth 100000 in
set_option maxHeartbeats 2000000 in
theorem heavy8_any (va vb : Value) (s d : List Int) (m : Int) (w : World) (ha : Ld w va s) (hb : Ld w vb d) (l1 : s.length ≤ 9223372036854775807) (_l2 : d.length ≤ 9223372036854775807) :
    Calls Tryz.prog 7 #[.agg #[va, vb], .int .i64 m] w fun e w' => e = .returned (.bool (hv8 m s d)) ∧ Below w.heap.size w w' := by
  obtain ⟨os, cs, rfl, _, _⟩ := ha
  obtain ⟨od, cd, rfl, _, _⟩ := hb
  obtain ⟨Q, hQ⟩ : ∃ Q, Q = hv8 m s d := ⟨_, rfl⟩
  rw [← hQ]
  unfold hv8 at hQ
  generalize s.length = ns at *
  generalize d.length = nd at *
  have hB0 : Below w.heap.size w (w.alloc (.cells #[.slice os ns cs, .slice od nd cd] 26)) := (Below.refl _ _).alloc (Nat.le_refl _) _
  by_cases g1 : m < nd
  · have E : Hid (Q = true) := by rw [hQ, decide_eq_true g1]; exact Lib.hid rfl
    clear hQ
    go_enter Tryz.func7, Tryz.ntmps7
    go_wp2
    go_ret
    exact ⟨by rw [E.out]; first | rfl | (show Ending.returned (.bool _) = _; congr 2; simp; omega), hB0⟩
  · by_cases g2 : 8 < ns
    · have E : Hid (Q = true) := by rw [hQ, decide_eq_true g2]; exact Lib.hid (by simp)
      clear hQ
      go_enter Tryz.func7, Tryz.ntmps7
      go_wp2
      go_ret
      exact ⟨by rw [E.out]; first | rfl | (show Ending.returned (.bool _) = _; congr 2; simp; omega), hB0⟩
    · have E : Hid (Q = false) := by rw [hQ, decide_eq_false g1, decide_eq_false g2]; exact Lib.hid rfl
      clear hQ
      go_enter Tryz.func7, Tryz.ntmps7
      go_wp2
      go_ret
      exact ⟨by rw [E.out]; first | rfl | (show Ending.returned (.bool _) = _; congr 2; simp; omega), hB0⟩
/-- A told tensor reads as its lists. -/
theorem someT_ld {w W : World} {er : Int} {sh ds : List Int} {e : Ending} (h : SomeT w er sh ds e W) : ∃ vs vd, e = .returned (.tuple #[.agg #[vs, vd], .int .i64 er]) ∧ Ld W vs sh ∧ Ld W vd ds ∧ Below w.heap.size w W := by
  obtain ⟨os, cs, od, cd, rfl, h1, h2, hb⟩ := h
  obtain ⟨_, _, e1, h3⟩ := Ld.of_owns h1
  obtain ⟨_, _, e2, h4⟩ := Ld.of_owns h2
  simp only [Value.slice.injEq] at e1 e2
  obtain ⟨rfl, _, rfl⟩ := e1
  obtain ⟨rfl, _, rfl⟩ := e2
  exact ⟨_, _, rfl, h3, h4, hb⟩
theorem sum8 (W : World) (va vda vb vdb : Value) (ha : Ld W va [2]) (hda : Ld W vda [1, 2]) (hb : Ld W vb [2]) (hdb : Ld W vdb [1, 2]) : Calls Tryz.prog 10 #[.int .i64 3, .agg #[va, vda], .agg #[vb, vdb], .int .i64 8] W fun e w' => ∃ o c o2 c2, e = .returned (.tuple #[.agg #[.slice o 1 c, .slice o2 2 c2], .int .i64 0]) ∧ Ld w' (.slice o2 2 c2) [2, 4] ∧ Below W.heap.size W w' := by
  have h := two_any 3 8 va vda vb vdb [2] [1, 2] [2] [1, 2] W ha hda hb hdb (by decide) (by decide) (by decide) (by decide) (by decide)
  rw [show twe (e2 3 8) [2] [1, 2] [2] [1, 2] = 0 by decide, show unl 0 (spv [2] [2]) = [2] by decide, show unl 0 (twv (v2 3 8) [2] [1, 2] [2] [1, 2]) = [2, 4] by decide] at h
  refine h.mono fun e w' hh => ?_
  obtain ⟨vs, vd, rfl, h1, h2, hb⟩ := someT_ld hh
  obtain ⟨o, c, rfl, _, _⟩ := h1
  obtain ⟨o2, c2, rfl, _, _⟩ := id h2
  exact ⟨o, c, o2, c2, rfl, h2, hb⟩
theorem eq8 (W : World) (va vb : Value) (ha : Ld W va [2, 4]) (hb : Ld W vb [2, 4]) : Calls Tryz.prog 40 #[va, vb] W fun e w' => e = .returned (.bool true) ∧ Below W.heap.size W w' := by
  have C4 := eqw_any va vb [2, 4] [2, 4] W ha hb (by decide) (by decide)
  rwa [show decide ([(2 : Int), 4] = [2, 4]) = true by decide] at C4
theorem ld1 {W : World} {n : Nat} {t : TypeId} {x : Int} (h : W.heap.size = n) : Ld (W.alloc (.cells #[.int .i64 x] t)) (.slice (some ⟨n, 0, none⟩) 1 1) [x] := by
  subst h; exact Ld.of_blk (ls := [x]) (Blk.new W t _) (Nat.le_refl _)
theorem ld2 {W : World} {n : Nat} {t : TypeId} {x y : Int} (h : W.heap.size = n) : Ld (W.alloc (.cells #[.int .i64 x, .int .i64 y] t)) (.slice (some ⟨n, 0, none⟩) 2 2) [x, y] := by
  subst h; exact Ld.of_blk (ls := [x, y]) (Blk.new W t _) (Nat.le_refl _)
theorem al_below {W : World} (o : Obj) : Below W.heap.size W (W.alloc o) := (Below.refl _ _).alloc (Nat.le_refl _) o
set_option maxRecDepth 100000 in
set_option maxHeartbeats 8000000 in
theorem wakes8_any (w : World) : Calls Tryz.prog 15 #[] w fun e w' => e = .returned (.bool true) ∧ Below w.heap.size w w' := by
  have LS : Hid (∀ o2, Ld (((w.alloc (.cells #[.int .i64 2] 3)).alloc (.cells #[.int .i64 1, .int .i64 2] 2)).alloc o2) (.slice (some ⟨w.heap.size, 0, none⟩) 1 1) [2]) := Lib.hid (fun o2 => ((ld1 rfl).below (al_below _)).below (al_below _))
  have LD : Hid (∀ o2, Ld (((w.alloc (.cells #[.int .i64 2] 3)).alloc (.cells #[.int .i64 1, .int .i64 2] 2)).alloc o2) (.slice (some ⟨w.heap.size + 1, 0, none⟩) 2 2) [1, 2]) := Lib.hid (fun o2 => (ld2 (World.size_alloc _ _)).below (al_below _))
  have B3 : Hid (∀ o2, Below w.heap.size w (((w.alloc (.cells #[.int .i64 2] 3)).alloc (.cells #[.int .i64 1, .int .i64 2] 2)).alloc o2)) := Lib.hid (fun o2 => (((Below.refl _ _).alloc (Nat.le_refl _) _).alloc (by simp) _).alloc (by simp; omega) _)
  go_enter Tryz.func15, Tryz.ntmps15
  go_wp2_with (first
    | (go_at_call 10; (with_reducible refine (sum8 _ _ _ _ _ (LS.out _) (LD.out _) (LS.out _) (LD.out _)).mono ?_); rintro e w4 ⟨o4, c4, o5, c5, rfl, h4, hb4⟩; have B4 := Lib.hid ((B3.out _).trans (hb4.mono (B3.out _).size)); have H4 := Lib.hid h4; clear h4 hb4)
    | (go_at_call 40; (with_reducible refine (eq8 _ _ _ ((H4.out.below (al_below _)).below (al_below _)) (ld2 (World.size_alloc _ _))).mono ?_); rintro e w6 ⟨rfl, hb6⟩; have B6 := Lib.hid (((B4.out.alloc B4.out.size _).alloc (by have := B4.out.size; simp; omega) _).trans (hb6.mono (by have := B4.out.size; simp; omega))); clear hb6)
    | (go_at_call 12; (with_reducible refine (num8_any _ _).mono ?_); rintro e w' ⟨rfl, rfl⟩))
  go_ret
  exact ⟨rfl, B6.out⟩
end Go.Proofs.YtpfcjajmfadcbaaGreat
namespace Go.Proofs.YtpfcjajmfadcbaaGreat
open Go.RowKit

theorem up_rest {n d : Int} (hd : 0 < d) (h : up n d = true) : ab n % ab d ≠ 0 := by
  intro e
  have dp : 0 < ab d := by unfold ab; omega
  unfold up at h
  rw [e, Int.mul_zero, sg_lt dp] at h
  simp at h
theorem quo_small {n d : Int} (hd : 0 < d) : 0 ≤ ab n / ab d ∧ ab n / ab d ≤ ab n ∧ (ab n % ab d ≠ 0 → ab n / ab d + 1 ≤ ab n) := by
  have dp : 0 < ab d := by unfold ab; omega
  have n0 : 0 ≤ ab n := by unfold ab; omega
  have q0 : 0 ≤ ab n / ab d := Int.ediv_nonneg n0 (by omega)
  refine ⟨q0, Int.ediv_le_self _ n0, fun hr => ?_⟩
  have r0 := Int.emod_nonneg (ab n) (show ab d ≠ 0 by omega)
  have e := Int.mul_ediv_add_emod (ab n) (ab d)
  have : 1 * (ab n / ab d) ≤ ab d * (ab n / ab d) := Int.mul_le_mul_of_nonneg_right (by omega) q0
  omega
theorem downs_math {n d : Int} (hn : R n) (hd : 0 < d) : R (dn n d) ∧ R (rd n d) ∧ R (rd n d - dn n d) ∧ 0 ≤ rd n d - dn n d ∧ rd n d - dn n d ≤ 1 := by
  obtain ⟨q0, q1, q2⟩ := quo_small (n := n) hd
  have hb := ab_bd hn
  have hu := up_rest (n := n) hd
  have ed : ng d = false := by unfold ng; exact decide_eq_false (by omega)
  have en : ng n = decide (n < 0) := rfl
  rw [R_iff] at hn
  simp only [R_iff]
  unfold dn rd sd
  rw [ed, en]
  generalize up n d = u at *
  have ea : n < 0 → ab n = -n := by intro h; unfold ab; omega
  have eb : ¬ n < 0 → ab n = n := by intro h; unfold ab; omega
  generalize ab n / ab d = q at *
  generalize ab n % ab d = r at *
  by_cases h : n < 0 <;> by_cases hr : r = 0 <;> cases u <;> simp [h, hr] at hu ea eb q2 ⊢ <;> omega
end Go.Proofs.YtpfcjajmfadcbaaGreat
namespace Go.Proofs.YtpfcjajmfadcbaaGreat
open Go.RowKit

theorem sd_mul (n d k : Int) : n - sd (ng n != ng d) k * d = sd (ng n) (ab n - ab d * k) := by
  have en : n = sd (ng n) (ab n) := by unfold sd ng ab; by_cases h : n < 0 <;> simp [h] <;> omega
  have ed : d = sd (ng d) (ab d) := by unfold sd ng ab; by_cases h : d < 0 <;> simp [h] <;> omega
  generalize ng n = s at *
  generalize ng d = t at *
  generalize ab n = A at *
  generalize ab d = D at *
  subst en
  subst ed
  cases s <;> cases t <;> simp [sd, Int.mul_comm D k, Int.neg_mul, Int.mul_neg] <;> omega
theorem up_cases (n d : Int) : (up n d = true ∧ (ab d < 2 * (ab n % ab d) ∨ (2 * (ab n % ab d) = ab d ∧ ab n / ab d % 2 = 1))) ∨ (up n d = false ∧ (2 * (ab n % ab d) < ab d ∨ (2 * (ab n % ab d) = ab d ∧ ab n / ab d % 2 ≠ 1))) := by
  unfold up
  generalize 2 * (ab n % ab d) = r
  generalize ab n / ab d = q
  generalize ab d = D
  rcases Int.lt_trichotomy r D with h | h | h
  · rw [sg_lt h]; simp; omega
  · rw [h, sg_eq]
    by_cases hq : q % 2 = 1
    · simp [hq]
    · simp [hq]
  · have e : sg r D = 1 := by unfold sg; rw [if_neg (by omega), if_pos h]
    rw [e]; simp; omega
theorem half_math (n d : Int) (h0 : d ≠ 0) : 2 * ((n - rd n d * d).natAbs : Int) ≤ d.natAbs ∧ (2 * ((n - rd n d * d).natAbs : Int) = d.natAbs → rd n d % 2 = 0) := by
  have dp : 0 < ab d := by unfold ab; omega
  have ed : (d.natAbs : Int) = ab d := rfl
  rw [ed]
  have r0 := Int.emod_nonneg (ab n) (show ab d ≠ 0 by omega)
  have r1 := Int.emod_lt_of_pos (ab n) dp
  have e := Int.mul_ediv_add_emod (ab n) (ab d)
  have en : ∀ s x, (sd s x).natAbs = x.natAbs := fun s x => by cases s <;> simp [sd]
  have e2 : ∀ s x, (sd s x) % 2 = 0 ↔ x % 2 = 0 := fun s x => by cases s <;> simp [sd] <;> omega
  have U := up_cases n d
  unfold rd
  rw [sd_mul, en, e2]
  generalize ab n / ab d = q at *
  generalize ab n % ab d = r at *
  generalize ab n = A at *
  rcases U with ⟨u, h⟩ | ⟨u, h⟩ <;> rw [u] <;> simp only [if_true, if_false, Bool.false_eq_true] <;> (try rw [Int.mul_add, Int.mul_one]) <;> generalize ab d * q = m at * <;> omega
theorem rd_neg (n d : Int) (h0 : d ≠ 0) : rd (-n) d = -rd n d := by
  have ea : ab (-n) = ab n := by unfold ab; omega
  unfold rd up
  rw [ea]
  by_cases h : n = 0
  · subst h
    have z : ab 0 = 0 := rfl
    have dp : 0 < ab d := by unfold ab; omega
    rw [z, Int.zero_ediv, Int.zero_emod, Int.mul_zero, sg_lt dp]
    cases (ng d) <;> simp [sd]
  · have en : ng (-n) = !ng n := by unfold ng; by_cases k : n < 0 <;> simp [k] <;> omega
    rw [en]
    generalize ng n = s
    generalize ng d = t
    cases s <;> cases t <;> simp [sd]
end Go.Proofs.YtpfcjajmfadcbaaGreat
namespace Go.Proofs.YtpfcjajmfadcbaaGreat
open Go.RowKit

/-- s is the root of n, rounded down. -/
def Rt (n s : Int) : Prop := 0 ≤ s ∧ s * s ≤ n ∧ n < (s + 1) * (s + 1)
/-- r is the nearest whole number to half the root of x. -/
def Nr (x r : Int) : Prop := 0 ≤ r ∧ x ≤ (2 * r + 1) * (2 * r + 1) ∧ (r ≠ 0 → (2 * r - 1) * (2 * r - 1) < x)
/-- g is no guess below n's root. -/
def Gs (n g : Int) : Prop := 0 ≤ g ∧ g ≤ 1125899906842624 ∧ n < (g + 1) * (g + 1)
/-- The guess behind g. -/
def nx (n g : Int) : Int := (g + (if g = 0 then 0 else n / g)) / 2

theorem sq_mono {a b : Int} (h0 : 0 ≤ a) (h : a ≤ b) : a * a ≤ b * b := Int.mul_le_mul h h h0 (by omega)
theorem sq_lt {a b : Int} (h0 : 0 ≤ b) (h : a * a < b * b) : a < b := by
  rcases Int.lt_or_le a b with g | g
  · exact g
  · have := sq_mono h0 g; omega
theorem sq_succ (a : Int) : (a + 1) * (a + 1) = a * a + 2 * a + 1 := by rw [Int.add_mul, Int.mul_add]; omega
theorem am_gm {a b c : Int} (ha : 0 ≤ a) (h : a + b ≤ 2 * c) : a * b ≤ c * c := by
  have h1 : a * b ≤ a * (2 * c - a) := Int.mul_le_mul_of_nonneg_left (by omega) ha
  have h2 : 0 ≤ (c - a) * (c - a) := by
    rcases Int.le_total 0 (c - a) with g | g
    · exact Int.mul_nonneg g g
    · exact Int.mul_nonneg_of_nonpos_of_nonpos g g
  have e1 : a * (2 * c - a) = 2 * (a * c) - a * a := by rw [Int.mul_sub, Int.mul_left_comm]
  have e2 : (c - a) * (c - a) = c * c - 2 * (a * c) + a * a := by
    rw [Int.sub_mul, Int.mul_sub, Int.mul_sub, Int.mul_comm c a]; omega
  omega
theorem quo_le {n g : Int} (hn : 0 ≤ n) (h0 : 0 < g) (h : n < (g + 1) * (g + 1)) : 0 ≤ n / g ∧ n / g ≤ g + 2 := by
  refine ⟨Int.ediv_nonneg hn (by omega), ?_⟩
  rw [sq_succ] at h
  refine Int.le_of_lt_add_one ((Int.ediv_lt_iff_lt_mul h0).mpr ?_)
  have : (g + 2 + 1) * g = g * g + 3 * g := by rw [Int.add_mul, Int.add_mul]; omega
  omega
theorem nx_gs {n g : Int} (hn : 0 ≤ n) (h : Gs n g) (k : nx n g < g) : Gs n (nx n g) := by
  obtain ⟨g0, g1, g2⟩ := h
  have gp : g ≠ 0 := by
    rintro rfl
    unfold nx at k
    simp at k
  have q := quo_le hn (show 0 < g by omega) g2
  have e : nx n g = (g + n / g) / 2 := by unfold nx; rw [if_neg gp]
  rw [e] at k ⊢
  have d := Int.mul_ediv_add_emod n g
  have r1 := Int.emod_lt_of_pos n (show 0 < g by omega)
  have a := am_gm (a := g) (b := n / g + 1) (c := (g + n / g) / 2 + 1) g0 (by omega)
  rw [Int.mul_add] at a
  exact ⟨by omega, by omega, by omega⟩
theorem nx_end {n g : Int} (hn : 0 ≤ n) (h : Gs n g) (k : ¬ nx n g < g) : Rt n g := by
  obtain ⟨g0, g1, g2⟩ := h
  refine ⟨g0, ?_, g2⟩
  by_cases gp : g = 0
  · subst gp; omega
  · have e : nx n g = (g + n / g) / 2 := by unfold nx; rw [if_neg gp]
    rw [e] at k
    have d := Int.mul_ediv_add_emod n g
    have r0 := Int.emod_nonneg n gp
    have := Int.mul_le_mul_of_nonneg_left (show g ≤ n / g by omega) g0
    omega
theorem nx_bd {n g : Int} (hn : 0 ≤ n) (h : Gs n g) : 0 ≤ nx n g ∧ nx n g ≤ 1125899906842625 ∧ (g ≠ 0 → 0 ≤ n / g ∧ n / g ≤ 1125899906842626) := by
  obtain ⟨g0, g1, g2⟩ := h
  by_cases gp : g = 0
  · subst gp
    unfold nx
    rw [if_pos rfl]
    exact ⟨by decide, by decide, fun h => absurd rfl h⟩
  · have q := quo_le hn (show 0 < g by omega) g2
    unfold nx
    rw [if_neg gp]
    exact ⟨by omega, by omega, fun _ => ⟨q.1, by omega⟩⟩
theorem rt_same {n s t : Int} (h : Rt n s) (k : Rt n t) : s = t := by
  obtain ⟨a, b, c⟩ := h
  obtain ⟨d, e, f⟩ := k
  have := sq_lt (a := s) (b := t + 1) (by omega) (by omega)
  have := sq_lt (a := t) (b := s + 1) (by omega) (by omega)
  omega
/-- The first guess. -/
theorem gs_first {n : Int} (hn : 0 ≤ n) (h : n < 633825300114114700748351602688) : bl n ≤ 99 ∧ Gs n (2 ^ ((bl n + 1) / 2)) := by
  have hU : U n := by rw [U_iff]; omega
  have b : bl n ≤ 99 := by
    refine Lib.bitLenAux_le 128 n.toNat 99 ?_
    have : (2 : Nat) ^ 99 = 633825300114114700748351602688 := by decide
    omega
  refine ⟨b, ?_⟩
  have lt : n < 2 ^ bl n := by
    by_cases h0 : n = 0
    · subst h0; decide
    · exact (bl_bd hU h0).2.2
  have p : (2 : Int) ^ ((bl n + 1) / 2) ≤ 2 ^ 50 := by have := Nat.pow_le_pow_right (show 0 < 2 by decide) (show (bl n + 1) / 2 ≤ 50 by omega); exact_mod_cast this
  have p0 : (0 : Int) < 2 ^ ((bl n + 1) / 2) := Int.pow_pos (by decide)
  have m : (2 : Int) ^ bl n ≤ 2 ^ ((bl n + 1) / 2) * 2 ^ ((bl n + 1) / 2) := by
    rw [← Int.pow_add]
    have := Nat.pow_le_pow_right (show 0 < 2 by decide) (show bl n ≤ (bl n + 1) / 2 + (bl n + 1) / 2 by omega); exact_mod_cast this
  generalize (2 : Int) ^ ((bl n + 1) / 2) = g at *
  refine ⟨by omega, by omega, ?_⟩
  rw [sq_succ]
  omega
/-- The last bit. -/
theorem nr_last {x s : Int} (h : Rt x s) : Nr x (if (2 * (s / 2) + 1) * (2 * (s / 2) + 1) < x then s / 2 + 1 else s / 2) := by
  obtain ⟨s0, s1, s2⟩ := h
  split
  · rename_i g
    have l := sq_mono (a := s + 1) (b := 2 * (s / 2 + 1) + 1) (by omega) (by omega)
    refine ⟨by omega, by omega, fun _ => ?_⟩
    rw [show 2 * (s / 2 + 1) - 1 = 2 * (s / 2) + 1 by omega]
    exact g
  · rename_i g
    refine ⟨by omega, by omega, fun h => ?_⟩
    have a := sq_succ (2 * (s / 2) - 1)
    rw [show 2 * (s / 2) - 1 + 1 = 2 * (s / 2) by omega] at a
    have := sq_mono (a := 2 * (s / 2)) (b := s) (by omega) (by omega)
    omega
theorem nr_same {x r t : Int} (h : Nr x r) (k : Nr x t) : r = t := by
  obtain ⟨a, b, c⟩ := h
  obtain ⟨d, e, f⟩ := k
  rcases Int.lt_trichotomy r t with g | g | g
  · have := f (by omega)
    have := sq_lt (a := 2 * t - 1) (b := 2 * r + 1) (by omega) (by omega)
    omega
  · exact g
  · have := c (by omega)
    have := sq_lt (a := 2 * r - 1) (b := 2 * t + 1) (by omega) (by omega)
    omega
theorem nr_mono {x y r t : Int} (h : Nr x r) (k : Nr y t) (l : x ≤ y) : r ≤ t := by
  obtain ⟨a, b, c⟩ := h
  obtain ⟨d, e, f⟩ := k
  rcases Int.lt_or_le t r with g | g
  · have := c (by omega)
    have := sq_lt (a := 2 * r - 1) (b := 2 * t + 1) (by omega) (by omega)
    omega
  · exact g
theorem nr_top {x r B : Int} (h : Nr x r) (hB : 0 ≤ B) (k : x ≤ (2 * B + 1) * (2 * B + 1)) : r ≤ B := by
  obtain ⟨a, b, c⟩ := h
  rcases Int.lt_or_le B r with g | g
  · have := c (by omega)
    have := sq_lt (a := 2 * r - 1) (b := 2 * B + 1) (by omega) (by omega)
    omega
  · exact g
/-- The root of 4 m^2. -/
theorem nr_square {m : Int} (h : 0 ≤ m) : Nr (4 * (m * m)) m := by
  have a := sq_succ (2 * m)
  have e : (2 * m) * (2 * m) = 4 * (m * m) := by rw [Int.mul_assoc, Int.mul_left_comm m 2 m]; omega
  refine ⟨h, by omega, fun g => ?_⟩
  have b := sq_succ (2 * m - 1)
  rw [show 2 * m - 1 + 1 = 2 * m by omega] at b
  omega
theorem nr_twice {x r t : Int} (h : Nr x r) (k : Nr (4 * x) t) : t - 2 * r ≤ 1 ∧ 2 * r - t ≤ 1 := by
  obtain ⟨a, b, c⟩ := h
  obtain ⟨d, e, f⟩ := k
  have q : ∀ y : Int, (2 * y) * (2 * y) = 4 * (y * y) := fun y => by rw [Int.mul_assoc, Int.mul_left_comm y 2 y]; omega
  constructor
  · by_cases g : t = 0
    · omega
    · have := f g
      have := q (2 * r + 1)
      have := sq_lt (a := 2 * t - 1) (b := 2 * (2 * r + 1)) (by omega) (by omega)
      omega
  · by_cases g : r = 0
    · omega
    · have := c g
      have := q (2 * r - 1)
      have := sq_lt (a := 2 * (2 * r - 1)) (b := 2 * t + 1) (by omega) (by omega)
      omega
theorem floor_is {x D t r : Int} (hD : 0 < D) (h : x = t * D + r) (h0 : 0 ≤ r) (h1 : r < D) : x / D = t := by
  rw [h, Int.add_comm, Int.add_mul_ediv_right _ _ (by omega), Int.ediv_eq_zero_of_lt h0 h1, Int.zero_add]
theorem dn_floor {x D : Int} (hx : 0 ≤ x) (hD : 0 < D) : dn x D = x / D := by
  have eD : ab D = D := by unfold ab; omega
  have ex : ab x = x := by unfold ab; omega
  have nD : ng D = false := by unfold ng; exact decide_eq_false (by omega)
  have nx : ng x = false := by unfold ng; exact decide_eq_false (by omega)
  unfold dn
  rw [eD, ex, nD, nx]
  simp [sd]
/-- n over d, rounded up. -/
def cl (n d : Int) : Int := -dn (-n) d
theorem cl_is {n d : Int} (hn : 0 ≤ n) (hd : 0 < d) : n ≤ cl n d * d ∧ (cl n d - 1) * d < n ∧ 0 ≤ cl n d ∧ cl n d ≤ n := by
  have eD : ab d = d := by unfold ab; omega
  have ex : ab (-n) = n := by unfold ab; omega
  have nD : ng d = false := by unfold ng; exact decide_eq_false (by omega)
  have e := Int.mul_ediv_add_emod n d
  have r0 := Int.emod_nonneg n (show d ≠ 0 by omega)
  have r1 := Int.emod_lt_of_pos n hd
  have q0 : 0 ≤ n / d := Int.ediv_nonneg hn (by omega)
  have q1 : n / d ≤ n := Int.ediv_le_self _ hn
  have v : cl n d = if n % d = 0 then n / d else n / d + 1 := by
    unfold cl dn
    rw [eD, ex, nD]
    by_cases h : n = 0
    · subst h
      have : ng (-0) = false := rfl
      rw [this]
      simp [sd]
    · have : ng (-n) = true := by unfold ng; exact decide_eq_true (by omega)
      rw [this]
      by_cases g : n % d = 0
      · simp [sd, g]
      · simp [sd, g]
  rw [v]
  have m := Int.mul_comm d (n / d)
  split
  · rename_i g
    refine ⟨by omega, ?_, q0, q1⟩
    rw [Int.sub_mul]
    omega
  · rename_i g
    refine ⟨?_, ?_, by omega, ?_⟩
    · rw [Int.add_mul]; omega
    · rw [Int.add_sub_cancel]; omega
    · have : n / d < n ∨ n / d = n := by omega
      rcases this with t | t
      · omega
      · exfalso
        have k := Int.mul_le_mul_of_nonneg_left (show 1 ≤ d by omega) q0
        rw [t] at k m e
        omega
/-- A greater divisor has no greater quotient. -/
theorem cl_mono {n a b : Int} (hn : 0 ≤ n) (ha : 0 < a) (h : a ≤ b) : cl n b ≤ cl n a := by
  have A := cl_is hn ha
  have B := cl_is hn (show 0 < b by omega)
  rcases Int.lt_or_le (cl n a) (cl n b) with g | g
  · have k := Int.mul_le_mul_of_nonneg_right (show cl n a ≤ cl n b - 1 by omega) (show 0 ≤ b by omega)
    have l := Int.mul_le_mul_of_nonneg_left h A.2.2.1
    omega
  · exact g
end Go.Proofs.YtpfcjajmfadcbaaGreat
namespace Go.Proofs.YtpfcjajmfadcbaaGreat
open Go.RowKit

theorem lowest_g (m : Int) {d : Nat} (hd : d ≠ 0) : ∃ g : Nat, g = Nat.gcd m.natAbs d ∧ 0 < g ∧ m.tdiv (g : Int) * g = m ∧ d / g * g = d := by
  refine ⟨_, rfl, Nat.gcd_pos_of_pos_right _ (by omega), ?_, Nat.div_mul_cancel (Nat.gcd_dvd_right _ _)⟩
  exact Int.tdiv_mul_cancel (Int.ofNat_dvd_left.mpr (Nat.gcd_dvd_left _ _))
theorem half_low {m : Int} {d : Nat} {a : Int} {c : Nat} (hd : d ≠ 0) (h : 2 * (m.natAbs) ≤ d) (ha : a = m.tdiv (Nat.gcd m.natAbs d : Nat)) (hc : c = d / Nat.gcd m.natAbs d) : 2 * a.natAbs ≤ c ∧ c ≠ 0 ∧ a.natAbs ≤ m.natAbs ∧ c ≤ d := by
  obtain ⟨g, hg, g0, e1, e2⟩ := lowest_g m hd
  rw [← hg] at ha hc
  rw [← ha] at e1
  rw [← hc] at e2
  have e3 : a.natAbs * g = m.natAbs := by rw [← e1, Int.natAbs_mul]; simp
  have k : (2 * a.natAbs) * g ≤ c * g := by rw [Nat.mul_assoc]; omega
  refine ⟨Nat.le_of_mul_le_mul_right k g0, ?_, ?_, ?_⟩
  · rintro rfl; omega
  · rw [← e3]; exact Nat.le_mul_of_pos_right _ g0
  · rw [← e2]; exact Nat.le_mul_of_pos_right _ g0
theorem pow_odd : ∀ (n : Nat) (m : Nat), m % 2 = 1 → m ∣ 2 ^ n → m = 1
  | 0, m, _, h => by simpa using h
  | n + 1, m, hm, h => by
    rw [Nat.pow_succ] at h
    have c : Nat.Coprime m 2 := by unfold Nat.Coprime; rw [Nat.gcd_comm, Nat.gcd_rec, hm]; rfl
    exact pow_odd n m hm (Nat.Coprime.dvd_of_dvd_mul_right c h)
theorem odd_gcd2 {m : Int} (h : m % 2 = 1) : Nat.gcd m.natAbs 2 = 1 := by
  rw [Nat.gcd_comm, Nat.gcd_rec, show m.natAbs % 2 = 1 by omega]; rfl
theorem odd_gcd4 {m : Int} (h : m % 2 = 1) : Nat.gcd m.natAbs 4 = 1 := by
  rw [Nat.gcd_comm, Nat.gcd_rec]
  rcases (show m.natAbs % 4 = 1 ∨ m.natAbs % 4 = 3 by omega) with g | g <;> rw [g] <;> rfl
theorem odd_make {m : Int} (h : m % 2 = 1) : m = m.tdiv (Nat.gcd m.natAbs 2 : Nat) ∧ 2 = 2 / Nat.gcd m.natAbs 2 := by
  rw [odd_gcd2 h]
  exact ⟨by simp, rfl⟩
theorem odd_sq {m : Int} (h : m % 2 = 1) : (m * m) % 2 = 1 := by
  rw [Int.mul_emod, h]; rfl
theorem rsq_facts {a M N x : Int} {k : Nat} (ha : 0 < a) (hM : M = 2 ^ k) (hN : N = 4 * M) (c1 : N ≤ x * a) (c2 : (x - 1) * a < N) : ∃ (P : Int) (Q : Nat), P = M.tdiv (Nat.gcd M.natAbs a.natAbs : Nat) ∧ Q = a.natAbs / Nat.gcd M.natAbs a.natAbs ∧ 0 ≤ P ∧ Q ≠ 0 ∧ (x - 1) * Q < 4 * P ∧ 4 * P ≤ x * Q ∧ (∀ j : Int, 0 ≤ j → (2 * j + 1) * (2 * j + 1) * Q = P * 4 → j = 0) ∧ P.natAbs ≤ M.natAbs ∧ Q ≤ a.natAbs := by
  have p0 : 0 < M := by rw [hM]; exact Int.pow_pos (by decide)
  obtain ⟨g, hg, g0, e1, e2⟩ := lowest_g M (d := a.natAbs) (by omega)
  rw [← hg]
  generalize M.tdiv (g : Int) = P at *
  generalize a.natAbs / g = Q at *
  have e2 : (Q : Int) * g = a := by have : ((Q * g : Nat) : Int) = (a.natAbs : Int) := by rw [e2]
                                    rw [Int.natCast_mul] at this; omega
  have g1 : (0 : Int) < g := by omega
  have P0 : 0 ≤ P := by
    rcases Int.lt_or_le P 0 with h | h
    · have := Int.mul_neg_of_neg_of_pos h g1; omega
    · exact h
  have Q0 : Q ≠ 0 := by rintro rfl; simp at e2; omega
  refine ⟨P, Q, rfl, rfl, P0, Q0, ?_, ?_, ?_, ?_, ?_⟩
  · refine Int.lt_of_mul_lt_mul_right (a := g) ?_ (by omega)
    rw [Int.mul_assoc, e2, Int.mul_assoc, e1]; omega
  · refine Int.le_of_mul_le_mul_right (a := g) ?_ g1
    rw [Int.mul_assoc, e1, Int.mul_assoc, e2]; omega
  · intro j j0 h
    have h2 : (2 * j + 1) * (2 * j + 1) * a = 2 ^ (k + 2) := by
      rw [← e2, ← Int.mul_assoc, h, Int.mul_right_comm, e1, hM, Int.pow_add]; rfl
    have d : (2 * j + 1) ∣ (2 : Int) ^ (k + 2) := ⟨(2 * j + 1) * a, by rw [← h2, Int.mul_assoc]⟩
    have d2 : (2 * j + 1).natAbs ∣ 2 ^ (k + 2) := by have := Int.natAbs_dvd_natAbs.mpr d; rwa [Int.natAbs_pow] at this
    have := pow_odd _ _ (by omega) d2
    omega
  · have : M.natAbs = P.natAbs * g := by rw [← e1, Int.natAbs_mul]; simp
    rw [this]; exact Nat.le_mul_of_pos_right _ g0
  · have : a.natAbs = Q * g := by omega
    rw [this]; exact Nat.le_mul_of_pos_right _ g0
theorem odd_make4 {m : Int} (h : m % 2 = 1) : m = m.tdiv (Nat.gcd m.natAbs 4 : Nat) ∧ 4 = 4 / Nat.gcd m.natAbs 4 := by
  rw [odd_gcd4 h]
  exact ⟨by simp, rfl⟩
/-- P over Q's root, rounded down, lies where? -/
theorem rt_quo {P Q s : Int} (hQ : 0 < Q) (hs : Rt (P / Q) s) : s * s * Q ≤ P ∧ P < (s + 1) * (s + 1) * Q := by
  obtain ⟨s0, s1, s2⟩ := hs
  have e := Int.mul_ediv_add_emod P Q
  have r0 := Int.emod_nonneg P (show Q ≠ 0 by omega)
  have r1 := Int.emod_lt_of_pos P hQ
  have a := Int.mul_le_mul_of_nonneg_right s1 (show 0 ≤ Q by omega)
  have b := Int.mul_le_mul_of_nonneg_right (show P / Q + 1 ≤ (s + 1) * (s + 1) by omega) (show 0 ≤ Q by omega)
  rw [Int.add_mul, Int.one_mul, Int.mul_comm (P / Q) Q] at b
  rw [Int.mul_comm (P / Q) Q] at a
  exact ⟨by omega, by omega⟩
/-- The half below the root: one more. -/
theorem near_up {P Q x s : Int} (hQ : 0 < Q) (h1 : (x - 1) * Q < 4 * P) (h2 : 4 * P ≤ x * Q) (hs : Rt (P / Q) s) (g : (2 * s + 1) * (2 * s + 1) * Q < P * 4) : Nr x (s + 1) := by
  obtain ⟨a, b⟩ := rt_quo hQ hs
  obtain ⟨s0, _, _⟩ := hs
  refine ⟨by omega, ?_, fun _ => ?_⟩
  · have k : (x - 1) * Q < (2 * (s + 1)) * (2 * (s + 1)) * Q := by
      have e : (2 * (s + 1)) * (2 * (s + 1)) * Q = 4 * ((s + 1) * (s + 1) * Q) := by
        generalize s + 1 = t
        rw [Int.mul_assoc 2 t, Int.mul_left_comm t 2 t, ← Int.mul_assoc, Int.mul_assoc]; omega
      omega
    have k2 := Int.lt_of_mul_lt_mul_right k (show 0 ≤ Q by omega)
    have := sq_mono (a := 2 * (s + 1)) (b := 2 * (s + 1) + 1) (by omega) (by omega)
    omega
  · have k : (2 * s + 1) * (2 * s + 1) * Q < x * Q := by omega
    have k2 := Int.lt_of_mul_lt_mul_right k (show 0 ≤ Q by omega)
    rw [show 2 * (s + 1) - 1 = 2 * s + 1 by omega]
    exact k2
/-- The half not below the root: it stays. -/
theorem near_stay {P Q x s : Int} (hQ : 0 < Q) (h1 : (x - 1) * Q < 4 * P) (h2 : 4 * P ≤ x * Q) (hs : Rt (P / Q) s) (g : P * 4 ≤ (2 * s + 1) * (2 * s + 1) * Q) : Nr x s := by
  obtain ⟨a, b⟩ := rt_quo hQ hs
  obtain ⟨s0, _, _⟩ := hs
  refine ⟨s0, ?_, fun g0 => ?_⟩
  · have k : (x - 1) * Q < (2 * s + 1) * (2 * s + 1) * Q := by omega
    have k2 := Int.lt_of_mul_lt_mul_right k (show 0 ≤ Q by omega)
    omega
  · have e : (2 * s) * (2 * s) * Q = 4 * (s * s * Q) := by
      rw [Int.mul_assoc 2 s, Int.mul_left_comm s 2 s, ← Int.mul_assoc, Int.mul_assoc]; omega
    have k : (2 * s) * (2 * s) * Q ≤ x * Q := by omega
    have k2 := Int.le_of_mul_le_mul_right k hQ
    have := sq_succ (2 * s - 1)
    rw [show 2 * s - 1 + 1 = 2 * s by omega] at this
    omega
/-- No half is a whole number's root. -/
theorem no_tie {P k : Int} : ¬ (2 * k + 1) * (2 * k + 1) * 1 = P * 4 := by
  intro h
  rw [Int.mul_one] at h
  have : ((2 * k + 1) * (2 * k + 1)) % 2 = 1 := odd_sq (by omega)
  omega
end Go.Proofs.YtpfcjajmfadcbaaGreat
namespace Go.Proofs.YtpfcjajmfadcbaaGreat
open Go.RowKit

theorem rd_whole (a : Int) {d : Int} (h : d ≠ 0) : rd (a * d) d = a := by
  have H := (half_math (a * d) d h).1
  generalize rd (a * d) d = q at *
  rw [← Int.sub_mul, Int.natAbs_mul] at H
  have H : 2 * ((a - q).natAbs * d.natAbs) ≤ 1 * d.natAbs := by omega
  rw [← Nat.mul_assoc] at H
  have := Nat.le_of_mul_le_mul_right H (show 0 < d.natAbs by omega)
  omega
theorem sg_at {a b : Int} (h : a ≤ b) : ¬ 0 < sg a b := by
  rcases Int.lt_or_eq_of_le h with g | g
  · rw [sg_lt g]; decide
  · rw [g, sg_eq]; decide
/-- A quotient's half. -/
theorem law_quo {a N b d : Int} (hb : b ≠ 0) (h : d = rd (a * N) b) : ¬ 0 < sg (((d * b - a * N).natAbs : Int) * 2 ^ 1) (b.natAbs : Int) := by
  refine sg_at ?_
  have H := (half_math (a * N) b hb).1
  rw [← h] at H
  omega
/-- What is left between a rounded quotient and the quotient in lowest terms. -/
theorem last_half {M X : Int} {D : Nat} (hD : D ≠ 0) (h : 2 * (M - X * D).natAbs ≤ D) : ∃ (P : Int) (Q : Nat) (m : Int), P = M.tdiv (Nat.gcd M.natAbs D : Nat) ∧ Q = D / Nat.gcd M.natAbs D ∧ m = X * ((Q : Nat) : Int) + (-P) * ((1 : Nat) : Int) ∧ Q ≠ 0 ∧ P.natAbs ≤ M.natAbs ∧ Q ≤ D ∧ 2 * m.natAbs ≤ Q := by
  obtain ⟨g, hg, g0, e1, e2⟩ := lowest_g M hD
  rw [← hg]
  generalize M.tdiv (g : Int) = P at *
  generalize D / g = Q at *
  have Q0 : Q ≠ 0 := by rintro rfl; simp at e2; omega
  refine ⟨P, Q, _, rfl, rfl, rfl, Q0, ?_, ?_, ?_⟩
  · have : M.natAbs = P.natAbs * g := by rw [← e1, Int.natAbs_mul]; simp
    rw [this]; exact Nat.le_mul_of_pos_right _ g0
  · rw [← e2]; exact Nat.le_mul_of_pos_right _ g0
  · have e3 : M - X * D = (P - X * Q) * g := by
      rw [Int.sub_mul, e1, Int.mul_assoc, ← e2, Int.natCast_mul]
    have e4 : (M - X * D).natAbs = (P - X * Q).natAbs * g := by rw [e3, Int.natAbs_mul]; simp
    rw [e4, ← e2, ← Nat.mul_assoc] at h
    have := Nat.le_of_mul_le_mul_right h g0
    have e5 : X * ((Q : Nat) : Int) + (-P) * ((1 : Nat) : Int) = -(P - X * Q) := by simp; omega
    rw [e5, Int.natAbs_neg]
    exact this
/-- A product's half, over a power of 2, in lowest terms. -/
theorem law_prod {M X : Int} {D : Nat} (hD : D ≠ 0) (h : X = rd M D) : ∃ (P : Int) (Q : Nat) (m : Int) (A : Int) (C : Nat), P = M.tdiv (Nat.gcd M.natAbs D : Nat) ∧ Q = D / Nat.gcd M.natAbs D ∧ m = X * ((Q : Nat) : Int) + (-P) * ((1 : Nat) : Int) ∧ Q ≠ 0 ∧ P.natAbs ≤ M.natAbs ∧ Q ≤ D ∧ m.natAbs ≤ D ∧ A = m.tdiv (Nat.gcd m.natAbs Q : Nat) ∧ C = Q / Nat.gcd m.natAbs Q ∧ A.natAbs ≤ D ∧ C ≤ D ∧ ¬ 0 < sg (((A.natAbs : Nat) : Int) * (2 : Nat)) (1 * ((C : Nat) : Int)) := by
  have H := (half_math M D (by omega)).1
  rw [← h] at H
  obtain ⟨P, Q, m, h1, h2, h3, h4, h5, h6, h7⟩ := last_half (M := M) (X := X) hD (by omega)
  have K := half_low h4 h7 rfl rfl
  exact ⟨P, Q, m, _, _, h1, h2, h3, h4, h5, h6, by omega, rfl, rfl, by omega, by omega, sg_at (by omega)⟩
end Go.Proofs.YtpfcjajmfadcbaaGreat
namespace Go.Proofs.YtpfcjajmfadcbaaGreat
open Go Go.RowKit Go.Shelf

set_option maxRecDepth 100000 in
set_option maxHeartbeats 2000000 in
theorem pneg_any (a c : Int) (f : Nat) (w : World) (ga : wd a = true) : Calls Tryz.prog 62 #[.agg #[.int .i64 a, .int .i64 c, .int .i64 f]] w fun e w' => e = .returned (.tuple #[.int .i64 (tw (-a)), .int .i64 (te (-a))]) ∧ Below w.heap.size w w' := by
  have B0 := Lib.hid ((Below.refl w.heap.size w).alloc (Nat.le_refl _) (.cells #[.int .i64 a, .int .i64 c, .int .i64 f] 64))
  have C := Lib.hid (fun W : World => fxneg_any a W ga)
  clear ga
  go_enter Tryz.func62, Tryz.ntmps62
  go_wp2_with (go_at_call 92; (with_reducible refine (C.out _).mono ?_); rintro e w' ⟨rfl, rfl⟩)
  go_ret2
  exact ⟨rfl, B0.out⟩
/-- Leaky's word, and its error. -/
def lv (f : Nat) (a c : Int) : Int := if 0 < a then a else v2 5 f a c
def le (f : Nat) (a c : Int) : Int := if 0 < a then 0 else e2 5 f a c
set_option maxRecDepth 100000 in
set_option maxHeartbeats 2000000 in
theorem leaky_any (a c : Int) (f : Nat) (w : World) (ga : wd a = true) (gc : wd c = true) (gf : fb f = true) : Calls Tryz.prog 94 #[.int .i64 a, .int .i64 c, .int .i64 f] w fun e w' => e = .returned (.tuple #[.int .i64 (lv f a c), .int .i64 (le f a c)]) ∧ Below w.heap.size w w' := by
  have CF := fun W : World => checkf_any f W
  rw [gf, if_pos rfl] at CF
  replace CF := Lib.hid CF
  have CA := fun W : World => check_any a W
  rw [ga, if_pos rfl] at CA
  replace CA := Lib.hid CA
  have CC := fun W : World => check_any c W
  rw [gc, if_pos rfl] at CC
  replace CC := Lib.hid CC
  have CM := Lib.hid (fun W : World => fxmul_any a c f W ga gc gf)
  by_cases h : 0 < a
  · have E1 : Hid (lv f a c = a) := Lib.hid (if_pos h)
    have E2 : Hid (le f a c = 0) := Lib.hid (if_pos h)
    have b0 : decide (0 < a) = true := decide_eq_true h
    clear h ga gc gf CM
    go_enter Tryz.func94, Tryz.ntmps94
    go_wp2_with (first | (go_at_call 31; (with_reducible refine (CF.out _).mono ?_); rintro e w' ⟨rfl, rfl⟩) | (go_at_call 44; (with_reducible refine (CA.out _).mono ?_); rintro e w' ⟨rfl, rfl⟩) | (go_at_call 44; (with_reducible refine (CC.out _).mono ?_); rintro e w' ⟨rfl, rfl⟩))
    go_ret2
    exact ⟨by rw [E1.out, E2.out]; rfl, Below.refl _ _⟩
  · have E1 : Hid (lv f a c = tw (rd (a * c) (2 ^ f))) := Lib.hid (if_neg h)
    have E2 : Hid (le f a c = te (rd (a * c) (2 ^ f))) := Lib.hid (if_neg h)
    have b0 : decide (0 < a) = false := decide_eq_false h
    clear h ga gc gf
    go_enter Tryz.func94, Tryz.ntmps94
    go_wp2_with (first | (go_at_call 31; (with_reducible refine (CF.out _).mono ?_); rintro e w' ⟨rfl, rfl⟩) | (go_at_call 44; (with_reducible refine (CA.out _).mono ?_); rintro e w' ⟨rfl, rfl⟩) | (go_at_call 44; (with_reducible refine (CC.out _).mono ?_); rintro e w' ⟨rfl, rfl⟩) | (go_at_call 88; (with_reducible refine (CM.out _).mono ?_); rintro e w' ⟨rfl, hb⟩))
    go_ret2
    exact ⟨by rw [E1.out, E2.out]; rfl, hb⟩
set_option maxRecDepth 100000 in
set_option maxHeartbeats 2000000 in
theorem pleaky_any (a c : Int) (f : Nat) (w : World) (ga : wd a = true) (gc : wd c = true) (gf : fb f = true) : Calls Tryz.prog 64 #[.agg #[.int .i64 a, .int .i64 c, .int .i64 f]] w fun e w' => e = .returned (.tuple #[.int .i64 (lv f a c), .int .i64 (le f a c)]) ∧ Below w.heap.size w w' := by
  have B0 := Lib.hid ((Below.refl w.heap.size w).alloc (Nat.le_refl _) (.cells #[.int .i64 a, .int .i64 c, .int .i64 f] 64))
  have C := Lib.hid (fun W : World => leaky_any a c f W ga gc gf)
  clear ga gc gf
  generalize lv f a c = x at *
  generalize le f a c = y at *
  go_enter Tryz.func64, Tryz.ntmps64
  go_wp2_with (go_at_call 94; (with_reducible refine (C.out _).mono ?_); rintro e w' ⟨rfl, hb⟩)
  go_ret2
  exact ⟨rfl, B0.out.trans (hb.mono (by simp))⟩

/-- Two's answer, or One's, opened. -/
def Tx (W : World) (E : Int) (S D : List Int) (e : Ending) (w' : World) : Prop := ∃ os cs od cd, e = .returned (.tuple #[.agg #[.slice os S.length cs, .slice od D.length cd], .int .i64 E]) ∧ Ld w' (.slice os S.length cs) S ∧ Ld w' (.slice od D.length cd) D ∧ Below W.heap.size W w'
theorem tx_of {W w' : World} {E : Int} {S D : List Int} {e : Ending} (h : SomeT W E S D e w') : Tx W E S D e w' := by
  obtain ⟨vs, vd, rfl, h1, h2, hb⟩ := someT_ld h
  obtain ⟨o, c, rfl, _, _⟩ := id h1
  obtain ⟨o2, c2, rfl, _, _⟩ := id h2
  exact ⟨o, c, o2, c2, rfl, h1, h2, hb⟩
theorem wd_neg {a : Int} (h : wd a = true) : wd (-a) = true := by
  have := wd_bd h
  exact wd_mk (by omega)
theorem wd_pow {f : Nat} (h : fb f = true) : wd (2 ^ f) = true := by
  have := fb_bd h
  have h1 : (2 : Nat) ^ f ≤ 2 ^ 32 := Nat.pow_le_pow_right (by decide) (by omega)
  have h2 : 0 < (2 : Nat) ^ f := Nat.pow_pos (by decide)
  have e : ((2 : Nat) ^ f : Nat) = ((2 : Int) ^ f) := by rw [Int.natCast_pow]; rfl
  exact wd_mk (by rw [← e]; omega)
/-- No word has an error. -/
theorem owe_no {ef : Int → Int} {da : List Int} (hw : wds da = true) (h : ∀ a, wd a = true → ef a = 0) : owe ef da = 0 := fer_no (fun _ hk => h _ (wds_wd hw hk))
theorem owv_is {vf : Int → Int} {da : List Int} {ls : List Int} (hl : ls.length = da.length) (h : ∀ k, k < da.length → vf (da.getD k 0) = ls.getD k 0) : owv vf da = ls := by
  refine ext_getD (by unfold owv; rw [vls_len, hl]) (fun k hk => ?_)
  unfold owv at hk ⊢
  rw [vls_len] at hk
  rw [← h k hk]
  unfold vls
  simp only [List.getD_eq_getElem?_getD, List.getElem?_map, List.getElem?_range hk]
  rfl
theorem owv_same {vf : Int → Int} {da : List Int} (hw : wds da = true) (h : ∀ a, wd a = true → vf a = a) : owv vf da = da := owv_is rfl (fun _ hk => h _ (wds_wd hw hk))

/-- Negated: no error. -/
def ngl (da : List Int) : List Int := owv (fun a => tw (-a)) da
theorem neg_any (f : Nat) (va vda : Value) (sa da : List Int) (w : World) (ha : Ld w va sa) (hda : Ld w vda da) (ta : tnb sa da = true) (hf : fb f = true) :
    Calls Tryz.prog 11 #[.int .i64 7, .agg #[va, vda], .int .i64 0, .int .i64 f] w (Tx w 0 sa (ngl da)) := by
  have h := one_gen 62 7 0 f 0 (fun a => tw (-a)) (fun a => te (-a)) va vda sa da w ha hda ta rfl hf rfl (enters_of Tryz.func62 (by kernel_rfl) rfl) (fun a W g => pneg_any a 0 f W g)
  have e : owe (fun a => te (-a)) da = 0 := owe_no (tnb_parts ta).2.2 (fun a g => te_in (wd_neg g))
  rw [e] at h
  exact h.mono (fun _ _ hh => tx_of hh)
theorem tk_word {op c : Int} (h : op = 8 ∨ op = 10) (g : wd c = true) : tk op c = true := by
  unfold tk
  rw [g]
  rcases h with rfl | rfl <;> simp
theorem scale_any (c : Int) (f : Nat) (va vda : Value) (sa da : List Int) (w : World) (ha : Ld w va sa) (hda : Ld w vda da) (ta : tnb sa da = true) (gc : wd c = true) (hf : fb f = true) :
    Calls Tryz.prog 11 #[.int .i64 8, .agg #[va, vda], .int .i64 c, .int .i64 f] w (Tx w (owe (fun a => e2 5 f a c) da) (unl (owe (fun a => e2 5 f a c) da) sa) (unl (owe (fun a => e2 5 f a c) da) (owv (fun a => v2 5 f a c) da))) :=
  (one_gen 53 8 c f 1 (fun a => v2 5 f a c) (fun a => e2 5 f a c) va vda sa da w ha hda ta (tk_word (.inl rfl) gc) hf rfl (enters_of Tryz.func53 (by kernel_rfl) rfl) (fun a W g => pprod_any a c f W g gc hf)).mono (fun _ _ hh => tx_of hh)
theorem oleaky_any (c : Int) (f : Nat) (va vda : Value) (sa da : List Int) (w : World) (ha : Ld w va sa) (hda : Ld w vda da) (ta : tnb sa da = true) (gc : wd c = true) (hf : fb f = true) :
    Calls Tryz.prog 11 #[.int .i64 10, .agg #[va, vda], .int .i64 c, .int .i64 f] w (Tx w (owe (fun a => le f a c) da) (unl (owe (fun a => le f a c) da) sa) (unl (owe (fun a => le f a c) da) (owv (fun a => lv f a c) da))) :=
  (one_gen 64 10 c f 3 (fun a => lv f a c) (fun a => le f a c) va vda sa da w ha hda ta (tk_word (.inr rfl) gc) hf rfl (enters_of Tryz.func64 (by kernel_rfl) rfl) (fun a W g => pleaky_any a c f W g gc hf)).mono (fun _ _ hh => tx_of hh)
theorem by_one {f : Nat} {a : Int} (g : wd a = true) : v2 5 f a (2 ^ f) = a ∧ e2 5 f a (2 ^ f) = 0 := by
  show tw (rd (a * 2 ^ f) (2 ^ f)) = a ∧ te (rd (a * 2 ^ f) (2 ^ f)) = 0
  rw [rd_whole a (pow_ne f)]
  exact ⟨tw_in g, te_in g⟩
theorem by_neg {f : Nat} {a : Int} (g : wd a = true) : v2 5 f a (-2 ^ f) = tw (-a) ∧ e2 5 f a (-2 ^ f) = 0 := by
  show tw (rd (a * -2 ^ f) (2 ^ f)) = _ ∧ te (rd (a * -2 ^ f) (2 ^ f)) = 0
  rw [Int.mul_neg, ← Int.neg_mul, rd_whole (-a) (pow_ne f)]
  exact ⟨rfl, te_in (wd_neg g)⟩
theorem over_one {f : Nat} {a : Int} (g : wd a = true) : v2 6 f a (2 ^ f) = a ∧ e2 6 f a (2 ^ f) = 0 := by
  show (if (2 : Int) ^ f = 0 then 0 else tw (rd (a * 2 ^ f) (2 ^ f))) = a ∧ (if (2 : Int) ^ f = 0 then 4 else te (rd (a * 2 ^ f) (2 ^ f))) = 0
  rw [if_neg (pow_ne f), if_neg (pow_ne f), rd_whole a (pow_ne f)]
  exact ⟨tw_in g, te_in g⟩
theorem scale1_any (f : Nat) (va vda : Value) (sa da : List Int) (w : World) (ha : Ld w va sa) (hda : Ld w vda da) (ta : tnb sa da = true) (hf : fb f = true) :
    Calls Tryz.prog 11 #[.int .i64 8, .agg #[va, vda], .int .i64 (2 ^ f), .int .i64 f] w (Tx w 0 sa da) := by
  have h := scale_any (2 ^ f) f va vda sa da w ha hda ta (wd_pow hf) hf
  rwa [owe_no (tnb_parts ta).2.2 (fun a g => (by_one g).2), owv_same (tnb_parts ta).2.2 (fun a g => (by_one g).1)] at h
theorem scalen_any (f : Nat) (va vda : Value) (sa da : List Int) (w : World) (ha : Ld w va sa) (hda : Ld w vda da) (ta : tnb sa da = true) (hf : fb f = true) :
    Calls Tryz.prog 11 #[.int .i64 8, .agg #[va, vda], .int .i64 (-2 ^ f), .int .i64 f] w (Tx w 0 sa (ngl da)) := by
  have h := scale_any (-2 ^ f) f va vda sa da w ha hda ta (wd_neg (wd_pow hf)) hf
  have e : owv (fun a => v2 5 f a (-2 ^ f)) da = ngl da := owv_is (by unfold ngl owv; rw [vls_len]) (fun k hk => by
    show v2 5 f (da.getD k 0) (-2 ^ f) = _
    rw [(by_neg (wds_wd (tnb_parts ta).2.2 hk)).1]
    unfold ngl owv vls
    simp only [List.getD_eq_getElem?_getD, List.getElem?_map, List.getElem?_range hk]
    rfl)
  rwa [owe_no (tnb_parts ta).2.2 (fun a g => (by_neg g).2), e] at h
theorem leaky1_any (f : Nat) (va vda : Value) (sa da : List Int) (w : World) (ha : Ld w va sa) (hda : Ld w vda da) (ta : tnb sa da = true) (hf : fb f = true) :
    Calls Tryz.prog 11 #[.int .i64 10, .agg #[va, vda], .int .i64 (2 ^ f), .int .i64 f] w (Tx w 0 sa da) := by
  have h := oleaky_any (2 ^ f) f va vda sa da w ha hda ta (wd_pow hf) hf
  have h1 : ∀ a, wd a = true → lv f a (2 ^ f) = a := fun a g => by
    unfold lv; split
    · rfl
    · exact (by_one g).1
  have h2 : ∀ a, wd a = true → le f a (2 ^ f) = 0 := fun a g => by
    unfold le; split
    · rfl
    · exact (by_one g).2
  rwa [owe_no (tnb_parts ta).2.2 h2, owv_same (tnb_parts ta).2.2 h1] at h
/-- Spread over the empty shape. -/
theorem spr_nil (s : List Int) : fit s [] = true ∧ spr s [] = s := by
  have hm : mx s [] = s.length := by unfold mx; simp
  have ho : ∀ j, 1 ≤ j → ov [] j = 1 := fun j hj => by unfold ov; rw [if_pos (show ([] : List Int).length < j from hj)]
  constructor
  · unfold fit
    rw [fitN_iff]
    intro j h1 _
    rw [fa_iff]
    exact .inr (.inr (ho j h1))
  · unfold spr
    refine ext_getD (by rw [spl_len, hm]) (fun k hk => ?_)
    rw [spl_len] at hk
    rw [spl_getD s [] _ k hk, ho _ (by omega)]
    show ov s (mx s [] - k) = _
    rw [hm]
    exact ov_at (by omega)
theorem spe_nilr {s : List Int} (h : may s = true) : spe s [] = 0 ∧ spv s [] = s := by
  obtain ⟨a, b⟩ := spr_nil s
  have e : spe s [] = 0 := by unfold spe; rw [if_pos a, b, if_pos h]
  exact ⟨e, by unfold spv; rw [if_pos e, b]⟩
theorem txa_nil (c : Int) (s : List Int) (n : Nat) : txa [] [c] s n = c := by
  unfold txa und
  have : ∀ x : List Int, ix [] x = 0 := fun x => by cases x <;> rfl
  rw [this]; rfl
theorem txa_self {sa da : List Int} {n : Nat} (ta : tnb sa da = true) (hn : n < da.length) : txa sa da sa n = da.getD n 0 := by
  obtain ⟨ma, hl, _⟩ := tnb_parts ta
  have hi := atl_inx sa (n : Nat) (may_pos ma) (by omega) (by omega)
  unfold txa
  rw [und_same hi, ix_atl sa (n : Nat) (may_pos ma) (by omega) (by omega), Int.toNat_natCast]
/-- Times a word as a tensor is scaled by it. -/
theorem tw_word {sa da : List Int} (ef : Int → Int → Int) (c : Int) (ta : tnb sa da = true) : twe ef sa da [] [c] = owe (fun a => ef a c) da ∧ twv ef sa da [] [c] = owv (fun a => ef a c) da := by
  obtain ⟨ma, hl, _⟩ := tnb_parts ta
  obtain ⟨a, b⟩ := spe_nilr ma
  unfold twe twv owe owv
  rw [a, if_pos rfl, b, show (prod sa).toNat = da.length by omega]
  exact ⟨fer_same (fun k hk => by rw [txa_nil, txa_self ta hk]), vls_same (fun k hk => by rw [txa_nil, txa_self ta hk])⟩
end Go.Proofs.YtpfcjajmfadcbaaGreat
namespace Go.Proofs.YtpfcjajmfadcbaaGreat

/-- Where the n-th index stands. -/
def plat (sh st : List Int) (off : Int) (n : Nat) : Int := off + dot st (atl sh (n : Int))
/-- Does an index before stand there, too? -/
def hit (sh st : List Int) (off : Int) (k : Nat) : Bool := (List.range k).any fun i => decide (plat sh st off i = plat sh st off k)
/-- Do two indexes stand at one place? -/
def dup (sh st : List Int) (off : Int) (N : Nat) : Bool := (List.range N).any fun k => hit sh st off k
theorem dup_yes {sh st : List Int} {off : Int} {N k : Nat} (hk : k < N) (h : hit sh st off k = true) : dup sh st off N = true := List.any_eq_true.2 ⟨k, List.mem_range.2 hk, h⟩
theorem dup_no {sh st : List Int} {off : Int} {N : Nat} (h : ∀ k, k < N → hit sh st off k = false) : dup sh st off N = false := by
  cases e : dup sh st off N with
  | false => rfl
  | true =>
    obtain ⟨k, hk, h2⟩ := List.any_eq_true.1 e
    rw [h k (List.mem_range.1 hk)] at h2
    cases h2
/-- The words, k of them laid. -/
def lys (sh st : List Int) (off : Int) (ls tds : List Int) : Nat → List Int
  | 0 => ls
  | k + 1 => (lys sh st off ls tds k).set (plat sh st off k).toNat (tds.getD k 0)
theorem lys_len (sh st : List Int) (off : Int) (ls tds : List Int) : ∀ k, (lys sh st off ls tds k).length = ls.length
  | 0 => rfl
  | k + 1 => by unfold lys; rw [List.length_set, lys_len sh st off ls tds k]
theorem lys_step {sh st : List Int} {off : Int} {ls tds : List Int} {k P : Nat} (h : plat sh st off k = (P : Int)) : lys sh st off ls tds (k + 1) = (lys sh st off ls tds k).set P (tds.getD k 0) := by
  show List.set _ _ _ = _
  rw [h, Int.toNat_natCast]
/-- Which places are taken, by k indexes. -/
def tks (sh st : List Int) (off : Int) (m : Nat) : Nat → List Bool
  | 0 => List.replicate m false
  | k + 1 => (tks sh st off m k).set (plat sh st off k).toNat true
theorem tks_len (sh st : List Int) (off : Int) (m : Nat) : ∀ k, (tks sh st off m k).length = m
  | 0 => by simp [tks]
  | k + 1 => by unfold tks; rw [List.length_set, tks_len sh st off m k]
theorem tks_step {sh st : List Int} {off : Int} {m k P : Nat} (h : plat sh st off k = (P : Int)) : tks sh st off m (k + 1) = (tks sh st off m k).set P true := by
  show List.set _ _ _ = _
  rw [h, Int.toNat_natCast]
theorem tks_at {sh st : List Int} {off : Int} {m Q : Nat} (hQ : Q < m) : ∀ k, (∀ i, i < k → 0 ≤ plat sh st off i) → (tks sh st off m k).getD Q false = (List.range k).any fun i => decide (plat sh st off i = (Q : Int))
  | 0, _ => by simp [tks, List.getD, hQ]
  | k + 1, h => by
    have ih := tks_at (sh := sh) (st := st) (off := off) hQ k (fun i hi => h i (by omega))
    have h0 := h k (by omega)
    obtain ⟨P, hP⟩ := Int.eq_ofNat_of_zero_le h0
    rw [tks_step hP, List.range_succ, List.any_append, ← ih]
    simp only [List.any_cons, List.any_nil, Bool.or_false, hP]
    rw [List.getD_eq_getElem?_getD, List.getD_eq_getElem?_getD, List.getElem?_set]
    by_cases e : P = Q
    · subst e
      rw [if_pos rfl, if_pos (by rw [tks_len]; exact hQ)]
      simp
    · rw [if_neg e]
      have : ¬ (P : Int) = (Q : Int) := by omega
      simp [this]
theorem tks_hit {sh st : List Int} {off : Int} {m k P : Nat} (hk : ∀ i, i < k → 0 ≤ plat sh st off i) (h : plat sh st off k = (P : Int)) (hP : P < m) : (tks sh st off m k).getD P false = hit sh st off k := by
  rw [tks_at hP k hk]
  unfold hit
  rw [h]
/-- What is laid where it lay changes nothing. -/
theorem lys_same {sh st : List Int} {off : Int} {ls tds : List Int} {N : Nat} (h : ∀ k, k < N → ∃ P : Nat, plat sh st off k = (P : Int) ∧ tds.getD k 0 = ls.getD P 0) : ∀ k, k ≤ N → lys sh st off ls tds k = ls
  | 0, _ => rfl
  | k + 1, hk => by
    obtain ⟨P, hP, hv⟩ := h k (by omega)
    rw [lys_step hP, lys_same h k (by omega), hv]
    apply List.ext_getElem
    · simp
    · intro j h1 h2
      rw [List.getElem_set]
      split
      · rename_i e
        subst e
        simp [List.getD, List.getElem?_eq_getElem h2]
      · rfl
end Go.Proofs.YtpfcjajmfadcbaaGreat
namespace Go.Proofs.YtpfcjajmfadcbaaGreat
open Go.RowKit

/-- Words in new memory. -/
def SomeWd (w : World) (ls : List Int) (e : Ending) (w' : World) : Prop := ∃ o c, e = .returned (.slice o ls.length c) ∧ w'.ownsRow w.heap.size 2 1 (.slice o ls.length c) ls.length (ints ls) ∧ Ld w' (.slice o ls.length c) ls ∧ Below w.heap.size w w'
end Go.Proofs.YtpfcjajmfadcbaaGreat
namespace Go.Proofs.YtpfcjajmfadcbaaGreat
open Go.RowKit


end Go.Proofs.YtpfcjajmfadcbaaGreat
namespace Go.Proofs.YtpfcjajmfadcbaaGreat
open Go.RowKit



end Go.Proofs.YtpfcjajmfadcbaaGreat
namespace Go.Proofs.YtpfcjajmfadcbaaGreat
open Go.RowKit


theorem Ov.kept2 {w w' : World} {base : Nat} {vs vt : Value} {sh st : List Int} (h : Ov w base vs vt sh st) (hg : w.grownBy w' vs.ownBlock) : w'.ownsRow base 3 1 vt st.length (ints st) := h.2.1.kept hg (by
  cases e : vt.ownBlock with
  | none => exact .inl rfl
  | some g => exact .inr (fun e2 => h.2.2 g e2.symm e))
theorem own_len {w : World} {base n : Nat} {e : TypeId} {v : Value} {xs : List Value} (h : w.ownsRow base e 1 v n xs) : ∃ o c, v = .slice o n c := by
  rcases h.2 with ⟨rfl, rfl⟩ | ⟨g, cap, cur, rfl, _⟩
  · exact ⟨_, _, rfl⟩
  · exact ⟨_, _, rfl⟩
theorem own_put2 {w : World} {base g c i n : Nat} {ls : List Int} {e : TypeId} (h : w.ownsRow base e 1 (.slice (some ⟨g, 0, none⟩) n c) n (ints ls)) (hl : ls.length = n) (hi : i < n) (v : Int) : (w.setCell ⟨g, i, none⟩ (.int .i64 v)).ownsRow base e 1 (.slice (some ⟨g, 0, none⟩) n c) n (ints (ls.set i v)) := by
  subst hl
  have := own_put h hi v
  rwa [List.length_set] at this

set_option maxRecDepth 100000 in
set_option maxHeartbeats 4000000 in
theorem numberso_any (base : Nat) (v : Value) (ls : List Int) (w : World) (h : w.ownsRow base 3 1 v ls.length (ints ls)) (hb : base ≤ w.heap.size) (hl : ls.length ≤ 65536) :
    Calls Tryz.prog 84 #[v] w fun e w' => e = .returned (.tuple #[]) ∧ w.grownBy w' v.ownBlock := by
  obtain ⟨i0, hi0, hz0, hz1, hz2⟩ := info_parts infoI
  obtain ⟨n, hn⟩ : ∃ n, n = ls.length := ⟨_, rfl⟩
  have HLN := Lib.hid hn
  rw [← hn] at h hl
  clear hn
  obtain ⟨o, c, rfl⟩ := own_len h
  have H0 : Hid (w.ownsRow base 3 1 (.slice o n c) n (ints ls)) := h
  have HF := Lib.hid (fun (h0 : 0 < n) => own_some h h0)
  clear h
  go_enter Tryz.func84, Tryz.ntmps84
  go_wp2
  go_loopw [2] (fun s2 wr => ∃ (k : Nat) (L : List Int), k ≤ n ∧ s2 = .int .i64 k ∧ Hid (L.length = n) ∧ Hid (wr.ownsRow base 3 1 (.slice o n c) n (ints L)) ∧ Hid (w.grownBy wr (Value.slice o n c).ownBlock)) (fun s2 _ => n - (intOf s2).toNat)
  case atStart => exact ⟨0, ls, Nat.zero_le _, rfl, HLN.out.symm, H0.out, World.grownBy.refl _ _⟩
  case round =>
    obtain ⟨k, L, hk, rfl, HL, HO, HG⟩ := hrel
    by_cases hlt : k < n
    · obtain ⟨g, rfl⟩ := HF.out (by omega)
      have kc : wr.cell? ⟨g, k, none⟩ = some (.int .i64 (L.getD k 0)) := by
        have h1 := HO.out
        rw [← HL.out] at h1
        exact own_cell h1 (by have := HL.out; omega)
      have kf := own_frozen HO.out k
      generalize L.getD k 0 = x at kc
      go_wp2
      refine ⟨⟨k + 1, L.set k (-99), by omega, by go_num, by have := HL.out; simpa [Hid] using this, own_put2 HO.out HL.out hlt _, grown_put HG.out _⟩, by simp [intOf]; omega⟩
    · go_wp2_with (at_builtin; refine wpList_append_own _ rfl _ _ 23 rfl base 3 i0 (.int .i64 0) 1 8 Tryz.underlying23 hi0 hz0 hz1 hz2 rfl (by decide) _ n (ints L) rfl (HO.out.alloc _) ⟨wr.heap.size, 0, none⟩ 1 1 [.int .i64 5] rfl rfl ?c1 ?c2 ?c3 ?c4 ?c5 ?_)
      case c1 => exact (cell_one_new _ _ _)
      case c2 => simp [Value.oneCell']
      case c3 => unfold maxLen; omega
      case c4 => omega
      case c5 => have := HG.out.size; simp; omega
      intro v' w9 _ hgrow _
      have h1 := HG.out
      have h2 : w.grownBy w9 (Value.slice o n c).ownBlock := ⟨hgrow.os.trans h1.os, hgrow.tape.trans h1.tape, hgrow.output.trans h1.output, Nat.le_trans h1.size (Nat.le_trans (by simp) hgrow.size), fun j hj hne => (hgrow.block j (by have := h1.size; simp; omega) hne).trans ((Below.heap_alloc _ _ _ (by have := h1.size; omega)).trans (h1.block j hj hne))⟩
      have H2 := Lib.hid h2
      clear h1 h2 hgrow
      go_wp2
      refine bodyPost_end (results_none rfl _ _ _) rfl ?_
      exact ⟨rfl, H2.out⟩




/-- A list, where there is no error, in memory. -/
theorem ov_ld {w : World} {base : Nat} {vs vt : Value} {sh st : List Int} (h : Ov w base vs vt sh st) : Ld w vs sh ∧ Ld w vt st := by
  obtain ⟨_, _, rfl, h1⟩ := Ld.of_owns h.1
  obtain ⟨_, _, rfl, h2⟩ := Ld.of_owns h.2.1
  exact ⟨h1, h2⟩




end Go.Proofs.YtpfcjajmfadcbaaGreat
namespace Go.Proofs.YtpfcjajmfadcbaaGreat
open Go.RowKit

set_option maxRecDepth 100000 in
set_option maxHeartbeats 4000000 in
theorem wordso_any (base : Nat) (v : Value) (ls : List Int) (w : World) (h : w.ownsRow base 2 1 v ls.length (ints ls)) (hb : base ≤ w.heap.size) (hl : ls.length ≤ 65536) :
    Calls Tryz.prog 85 #[v] w fun e w' => e = .returned (.tuple #[]) ∧ w.grownBy w' v.ownBlock := by
  obtain ⟨i0, hi0, hz0, hz1, hz2⟩ := info_parts infoW
  obtain ⟨n, hn⟩ : ∃ n, n = ls.length := ⟨_, rfl⟩
  have HLN := Lib.hid hn
  rw [← hn] at h hl
  clear hn
  obtain ⟨o, c, rfl⟩ := own_len h
  have H0 : Hid (w.ownsRow base 2 1 (.slice o n c) n (ints ls)) := h
  have HF := Lib.hid (fun (h0 : 0 < n) => own_some h h0)
  clear h
  go_enter Tryz.func85, Tryz.ntmps85
  go_wp2
  go_loopw [2] (fun s2 wr => ∃ (k : Nat) (L : List Int), k ≤ n ∧ s2 = .int .i64 k ∧ Hid (L.length = n) ∧ Hid (wr.ownsRow base 2 1 (.slice o n c) n (ints L)) ∧ Hid (w.grownBy wr (Value.slice o n c).ownBlock)) (fun s2 _ => n - (intOf s2).toNat)
  case atStart => exact ⟨0, ls, Nat.zero_le _, rfl, HLN.out.symm, H0.out, World.grownBy.refl _ _⟩
  case round =>
    obtain ⟨k, L, hk, rfl, HL, HO, HG⟩ := hrel
    by_cases hlt : k < n
    · obtain ⟨g, rfl⟩ := HF.out (by omega)
      have kc : wr.cell? ⟨g, k, none⟩ = some (.int .i64 (L.getD k 0)) := by
        have h1 := HO.out
        rw [← HL.out] at h1
        exact own_cell h1 (by have := HL.out; omega)
      have kf := own_frozen HO.out k
      generalize L.getD k 0 = x at kc
      go_wp2
      refine ⟨⟨k + 1, L.set k (-9999), by omega, by go_num, by have := HL.out; simpa [Hid] using this, own_put2 HO.out HL.out hlt _, grown_put HG.out _⟩, by simp [intOf]; omega⟩
    · go_wp2_with (at_builtin; refine wpList_append_own _ rfl _ _ 24 rfl base 2 i0 (.int .i64 0) 1 8 Tryz.underlying24 hi0 hz0 hz1 hz2 rfl (by decide) _ n (ints L) rfl (HO.out.alloc _) ⟨wr.heap.size, 0, none⟩ 1 1 [.int .i64 5] rfl rfl ?c1 ?c2 ?c3 ?c4 ?c5 ?_)
      case c1 => exact (cell_one_new _ _ _)
      case c2 => simp [Value.oneCell']
      case c3 => unfold maxLen; omega
      case c4 => omega
      case c5 => have := HG.out.size; simp; omega
      intro v' w9 _ hgrow _
      have h1 := HG.out
      have h2 : w.grownBy w9 (Value.slice o n c).ownBlock := ⟨hgrow.os.trans h1.os, hgrow.tape.trans h1.tape, hgrow.output.trans h1.output, Nat.le_trans h1.size (Nat.le_trans (by simp) hgrow.size), fun j hj hne => (hgrow.block j (by have := h1.size; simp; omega) hne).trans ((Below.heap_alloc _ _ _ (by have := h1.size; omega)).trans (h1.block j hj hne))⟩
      have H2 := Lib.hid h2
      clear h1 h2 hgrow
      go_wp2
      refine bodyPost_end (results_none rfl _ _ _) rfl ?_
      exact ⟨rfl, H2.out⟩

set_option maxRecDepth 100000 in
set_option maxHeartbeats 4000000 in
theorem copywords_any (v : Value) (ls : List Int) (w : World) (h : Ld w v ls) (ll : ls.length ≤ 17592186044000) :
    Calls Tryz.prog 42 #[v] w (SomeWd w ls) := by
  obtain ⟨i0, hi0, hz0, hz1, hz2⟩ := info_parts infoW
  obtain ⟨o, c, rfl, _, hx⟩ := h
  have HX := Lib.hid hx
  clear hx
  go_enter Tryz.func42, Tryz.ntmps42
  go_wp2
  go_loopw [3, 4] (fun s3 s4 wr => ∃ k : Nat, k ≤ ls.length ∧ s4 = .int .i64 k ∧ Hid (wr.ownsRow w.heap.size 2 1 s3 k (ints (ls.take k))) ∧ Below w.heap.size w wr) (fun _ s4 _ => ls.length - (intOf s4).toNat)
  case atStart => exact ⟨0, Nat.zero_le _, rfl, World.ownsRow_nil _ _ _ _, Below.refl _ _⟩
  case round =>
    obtain ⟨k, hk, rfl, HO, hB⟩ := hrel
    have hBs := hB.size
    by_cases hlt : k < ls.length
    · obtain ⟨b, f, rfl, hb, hc⟩ := HX.out k hlt
      have hc' : wr.cell? ⟨b, f + k, none⟩ = some (.int .i64 (ls.getD k 0)) := (hB.cell (p := ⟨b, f + k, none⟩) hb).trans hc
      have E : Hid (ints (ls.take (k + 1)) = ints (ls.take k) ++ [.int .i64 (ls.getD k 0)]) := by
        unfold Hid ints
        rw [List.take_succ_eq_append_getElem hlt, List.map_append]
        simp [List.getD, List.getElem?_eq_getElem hlt]
      clear hc
      generalize ls.getD k 0 = x at *
      go_wp2_with (at_builtin; refine wpList_append_own _ rfl _ _ 24 rfl w.heap.size 2 i0 (.int .i64 0) 1 8 Tryz.underlying24 hi0 hz0 hz1 hz2 rfl (by decide) _ k (ints (ls.take k)) rfl (HO.out.alloc _) ⟨wr.heap.size, 0, none⟩ 1 1 [.int .i64 x] rfl rfl ?c1 ?c2 ?c3 ?c4 ?c5 ?_)
      case c1 => exact (cell_one_new _ _ _)
      case c2 => simp [Value.oneCell']
      case c3 => unfold maxLen; omega
      case c4 => omega
      case c5 => simp; omega
      intro v' w9 hown1 hgrow _
      have hB9 : Below w.heap.size w w9 := (hB.alloc hBs _).grown hgrow (by simp; omega) (fun j hj => (HO.out.lt j hj).1)
      have h1 : Hid (w9.ownsRow w.heap.size 2 1 v' (k + 1) (ints (ls.take (k + 1)))) := by
        rw [Hid, E.out]; exact hown1
      clear hown1 hgrow
      go_wp2
      exact ⟨⟨k + 1, by omega, by go_num, h1, hB9⟩, by simp [intOf]; omega⟩
    · obtain rfl : k = ls.length := by omega
      have h1 := HO.out
      rw [List.take_length] at h1
      obtain ⟨o2, c2, rfl, hld⟩ := Ld.of_owns h1
      have H1 := Lib.hid (And.intro h1 hld)
      clear h1 hld HO
      go_wp2
      go_ret
      exact ⟨o2, c2, rfl, H1.out.1, H1.out.2, hB⟩

end Go.Proofs.YtpfcjajmfadcbaaGreat
