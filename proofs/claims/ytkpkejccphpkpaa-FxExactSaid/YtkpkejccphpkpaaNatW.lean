/-
  The references' whole numbers: over a power of two.
-/
import Derived.Test.YtkpkejccphpkpaaNatV
namespace Go.Proofs.Ytkpkejccphpkpaa
open Go.RowKit

/-- The limb at a place, of the number itself. -/
theorem limb_at {ls : List Nat} (hx : ∀ x ∈ ls, x < 18446744073709551616) (i : Nat) : lval 18446744073709551616 ls / 18446744073709551616 ^ i % 18446744073709551616 = ls.getD i 0 := by
  by_cases hi : i < ls.length
  · have e := lval_split 18446744073709551616 ls i (by omega)
    have lt := lval_lt 18446744073709551616 (by decide) (ls.take i) (fun x h => hx x (List.mem_of_mem_take h))
    rw [List.length_take, Nat.min_eq_left (by omega)] at lt
    have p : (0 : Nat) < 18446744073709551616 ^ i := Nat.pow_pos (by decide)
    rw [e, Nat.add_mul_div_left _ _ p, Nat.div_eq_of_lt lt, Nat.zero_add]
    have d : ls.drop i = ls[i] :: ls.drop (i + 1) := List.drop_eq_getElem_cons hi
    rw [d]
    simp only [lval, Nat.add_mul_mod_self_left]
    rw [Nat.mod_eq_of_lt (hx _ (List.getElem_mem hi))]
    simp [List.getD, List.getElem?_eq_getElem hi]
  · have lt := lval_lt 18446744073709551616 (by decide) ls hx
    have := Nat.pow_le_pow_right (show 0 < 18446744073709551616 by decide) (show ls.length ≤ i by omega)
    rw [Nat.div_eq_of_lt (by omega)]
    simp [List.getD, List.getElem?_eq_none (by omega : ls.length ≤ i)]
theorem two_part {s : Nat} (hs : s ≤ 64) : (2 : Nat) ^ s * 2 ^ (64 - s) = 18446744073709551616 := by rw [← Nat.pow_add, Nat.add_sub_cancel' hs]
/-- A limb of a number over 2^s, out of two limbs of the number. -/
theorem limb_shift (A s : Nat) (hs : s ≤ 64) : A / 2 ^ s % 18446744073709551616 = A % 18446744073709551616 / 2 ^ s + (A / 18446744073709551616 % 18446744073709551616 * 2 ^ (64 - s)) % 18446744073709551616 ∧ A % 18446744073709551616 / 2 ^ s < 2 ^ (64 - s) := by
  have hpq := two_part hs
  have hp : (0 : Nat) < 2 ^ s := Nat.two_pow_pos s
  have hq : (0 : Nat) < 2 ^ (64 - s) := Nat.two_pow_pos _
  have eA : A = A % 18446744073709551616 + 18446744073709551616 * (A / 18446744073709551616) := (Nat.mod_add_div A 18446744073709551616).symm
  have xl : A % 18446744073709551616 / 2 ^ s < 2 ^ (64 - s) := by rw [Nat.div_lt_iff_lt_mul hp, Nat.mul_comm, hpq]; exact Nat.mod_lt _ (by decide)
  refine ⟨?_, xl⟩
  have e1 : A / 2 ^ s = A % 18446744073709551616 / 2 ^ s + 2 ^ (64 - s) * (A / 18446744073709551616) := by
    have h : A = A % 18446744073709551616 + 2 ^ s * (2 ^ (64 - s) * (A / 18446744073709551616)) := by rw [← Nat.mul_assoc, hpq]; exact eA
    have h2 := Nat.add_mul_div_left (A % 18446744073709551616) (2 ^ (64 - s) * (A / 18446744073709551616)) hp
    rw [← h] at h2
    exact h2
  rw [e1]
  generalize A / 18446744073709551616 = Y
  generalize A % 18446744073709551616 / 2 ^ s = x at *
  have e2 : Y % 18446744073709551616 * 2 ^ (64 - s) % 18446744073709551616 = 2 ^ (64 - s) * (Y % 2 ^ s) := by
    have : Y % 18446744073709551616 * 2 ^ (64 - s) % 18446744073709551616 = 2 ^ (64 - s) * Y % 18446744073709551616 := by rw [Nat.mul_comm (2 ^ (64 - s)) Y, Nat.mod_mul_mod]
    rw [this]
    have h := Nat.mul_mod_mul_left (2 ^ (64 - s)) Y (2 ^ s)
    rw [Nat.mul_comm (2 ^ (64 - s)) (2 ^ s), hpq] at h
    exact h
  have e3 : (x + 2 ^ (64 - s) * Y) % 18446744073709551616 = x + 2 ^ (64 - s) * (Y % 2 ^ s) := by
    have m := Nat.mod_lt Y hp
    have m2 := Nat.mul_le_mul_left (2 ^ (64 - s)) (show Y % 2 ^ s + 1 ≤ 2 ^ s from m)
    rw [Nat.mul_add, Nat.mul_one, Nat.mul_comm (2 ^ (64 - s)) (2 ^ s), hpq] at m2
    have h : x + 2 ^ (64 - s) * Y = (x + 2 ^ (64 - s) * (Y % 2 ^ s)) + 18446744073709551616 * (Y / 2 ^ s) := by
      have := Nat.mod_add_div Y (2 ^ s)
      have e : 2 ^ (64 - s) * Y = 2 ^ (64 - s) * (Y % 2 ^ s) + 2 ^ (64 - s) * (2 ^ s * (Y / 2 ^ s)) := by rw [← Nat.mul_add, this]
      rw [e, ← Nat.mul_assoc (2 ^ (64 - s)) (2 ^ s), Nat.mul_comm (2 ^ (64 - s)) (2 ^ s), hpq, Nat.add_assoc]
    rw [h, Nat.add_mul_mod_self_left, Nat.mod_eq_of_lt (by omega)]
  rw [e2, e3]
theorem or_high (x y s : Nat) (hs : s ≤ 64) (hx : x < 2 ^ (64 - s)) : bits BinOp.or IntKind.u64 (x : Int) (IntKind.u64.wrap ((y : Int) * 2 ^ (64 - s))) = ((x + y * 2 ^ (64 - s) % 18446744073709551616 : Nat) : Int) := by
  have hpq := two_part hs
  have hq : (0 : Nat) < 2 ^ (64 - s) := Nat.two_pow_pos _
  have w : IntKind.u64.wrap ((y : Int) * 2 ^ (64 - s)) = ((y * 2 ^ (64 - s) % 18446744073709551616 : Nat) : Int) := by
    rw [IntKind.wrap_u64]; simp
  have e1 : y * 2 ^ (64 - s) % 18446744073709551616 = 2 ^ (64 - s) * (y % 2 ^ s) := by
    have h := Nat.mul_mod_mul_left (2 ^ (64 - s)) y (2 ^ s)
    rw [Nat.mul_comm (2 ^ (64 - s)) (2 ^ s), hpq, Nat.mul_comm (2 ^ (64 - s)) y] at h
    exact h
  have l1 : 2 ^ (64 - s) ≤ 18446744073709551616 := by
    have := Nat.mul_le_mul_right (2 ^ (64 - s)) (show 1 ≤ 2 ^ s from Nat.two_pow_pos s)
    omega
  rw [w, u64_or_nat _ _ (by omega) (Nat.mod_lt _ (by decide)), e1]
  congr 1
  rw [Nat.add_comm, Nat.two_pow_add_eq_or_of_lt hx, Nat.or_comm]
/-- What holds at each round: the limbs of the number over 2^n told so far. -/
def ShInv (m k : Nat) (es : List Nat) : Prop := es.length = k ∧ (∀ x ∈ es, x < 18446744073709551616) ∧ lval 18446744073709551616 es = m % 18446744073709551616 ^ k
theorem shinv_step {m k : Nat} {es : List Nat} (h : ShInv m k es) : ShInv m (k + 1) (es ++ [m / 18446744073709551616 ^ k % 18446744073709551616]) := by
  obtain ⟨h1, h2, h3⟩ := h
  refine ⟨by simp [h1], ?_, ?_⟩
  · intro x hxm
    rw [List.mem_append] at hxm
    rcases hxm with hm | hm
    · exact h2 x hm
    · simp at hm; rw [hm]; exact Nat.mod_lt _ (by decide)
  · rw [lval_append, h1, h3, Nat.mod_pow_succ]
    simp [lval]

set_option maxRecDepth 100000 in
set_option maxHeartbeats 8000000 in
/-- Down2 -/
theorem down2_far (va : Value) (a n : Nat) (w : World) (ha : IsN w va a) (la : a < BIG) (hn : n ≤ 4611686018427387904) : Calls Try.prog 120 #[va, .int .i64 n] w (SomeNF w (a / 2 ^ n)) := by
  obtain ⟨i0, hi0, hz0, hz1, hz2⟩ := info_parts info64
  have NL := Lib.hid (fun W h => nlen_any va a W h la)
  obtain ⟨xs, rx, x1, x2, x3⟩ := id ha
  have HA := Lib.hid ha
  have lx := len_n x3 (by rw [x2]; exact la)
  obtain ⟨ox, cx, rfl, hcx⟩ := rx.form
  by_cases g : bn a ≤ n
  · have E : Hid (a / 2 ^ n = 0) := by
      have h1 := bn_lt a
      have h2 := Nat.pow_le_pow_right (show 0 < 2 by decide) g
      exact Nat.div_eq_of_lt (by omega)
    have g' : (bn a : Int) ≤ n := by omega
    clear g rx hcx x1 x2 x3 la ha
    go_enter Try.func120, Try.ntmps120
    go_wp2_with (go_at_call 119; (with_reducible refine (NL.out _ HA.out).mono ?_); rintro e w' ⟨rfl, rfl⟩)
    go_ret
    exact ⟨_, rfl, ⟨[], .inl ⟨rfl, rfl⟩, by simp, by rw [E.out]; rfl, rfl⟩, Below.refl _ _, fun _ _ => by simp [Value.ownBlock]⟩
  · have g' : ¬ (bn a : Int) ≤ n := by omega
    have bl : bn a ≤ 64 * xs.length := by
      apply bn_le
      have := lval_lt 18446744073709551616 (by decide) xs x1
      rw [x2, b64, ← Nat.pow_mul] at this
      exact this
    obtain ⟨q, hq⟩ : ∃ q, q = n / 64 := ⟨_, rfl⟩
    obtain ⟨s, hs⟩ : ∃ s, s = n % 64 := ⟨_, rfl⟩
    have eq1 : (n : Int) / 64 = (q : Int) := by omega
    have es1 : (n : Int) % 64 = (s : Int) := by omega
    have en : n = 64 * q + s := by omega
    have hs64 : s < 64 := by omega
    have hq2 : q < xs.length := by omega
    have MK : Hid (∀ k, a / 2 ^ n / 18446744073709551616 ^ k = a / 18446744073709551616 ^ (q + k) / 2 ^ s) := fun k => by
      rw [Nat.div_div_eq_div_mul, Nat.div_div_eq_div_mul, en, b64, ← Nat.pow_mul, ← Nat.pow_mul, ← Nat.pow_add, ← Nat.pow_add]
      congr 2; omega
    have ME : Hid (a / 2 ^ n < 18446744073709551616 ^ (xs.length - q)) := by
      have h := lval_lt 18446744073709551616 (by decide) xs x1
      rw [x2] at h
      have p : (0 : Nat) < 2 ^ n := Nat.two_pow_pos n
      unfold Hid
      rw [Nat.div_lt_iff_lt_mul p]
      refine Nat.lt_of_lt_of_le h ?_
      rw [b64, ← Nat.pow_mul, ← Nat.pow_mul, ← Nat.pow_add]
      exact Nat.pow_le_pow_right (by decide) (by omega)
    have LA : Hid (∀ i, a / 18446744073709551616 ^ i % 18446744073709551616 = xs.getD i 0) := fun i => by rw [← x2]; exact limb_at x1 i
    have HX := Lib.hid (And.intro hcx x1)
    clear g rx hcx x1 x2 x3 la ha hq hs bl en
    go_enter Try.func120, Try.ntmps120
    go_wp2_with (go_at_call 119; (with_reducible refine (NL.out _ HA.out).mono ?_); rintro e w' ⟨rfl, rfl⟩)
    have gD : decide (bn a ≤ n) = false := by rw [decide_eq_false_iff_not]; omega
    simp only [gD]
    clear g' eq1 es1 gD
    obtain ⟨nx, hnx⟩ : ∃ n, n = xs.length := ⟨_, rfl⟩
    rw [← hnx] at lx hq2 ME
    rw [← hnx]
    have NX := Lib.hid hnx
    clear hnx
    go_loopw [6, 7] (fun s6 s7 wr => ∃ (k : Nat) (es : List Nat), q + k ≤ nx ∧ s7 = .int .i64 ((q + k : Nat) : Int) ∧ Hid (ShInv (a / 2 ^ n) k es) ∧ Hid (wr.ownsRow w.heap.size 23 1 s6 es.length (es.map fun x => Value.int .u64 (x : Nat))) ∧ Below w.heap.size w wr) (fun _ s7 _ => nx - (intOf s7).toNat)
    case atStart => exact ⟨0, [], by omega, rfl, ⟨rfl, by simp, by simp [lval, Nat.mod_one]⟩, World.ownsRow_nil _ _ _ _, Below.refl _ _⟩
    case round =>
      obtain ⟨k, es, hk, rfl, HI, hown, hB⟩ := hrel
      have hBs := hB.size
      obtain ⟨i, hi⟩ : ∃ i, i = q + k := ⟨_, rfl⟩
      have esl : es.length ≤ nx := by have := HI.out.1; omega
      rw [← hi] at hk
      rw [← hi]
      by_cases hlt : i < nx
      · obtain ⟨bx, fx, rfl, hbx, hcellx⟩ := HX.out.1 i (by rw [← NX.out]; exact hlt)
        have hcx : wr.cell? ⟨bx, fx + i, none⟩ = some (.int .u64 (xs.getD i 0 : Nat)) := (hB.cell (p := ⟨bx, fx + i, none⟩) hbx).trans hcellx
        obtain ⟨b1, b2⟩ := limb_shift (a / 18446744073709551616 ^ i) s (by omega)
        have st := shinv_step HI.out
        rw [MK.out k, ← hi, b1, Nat.div_div_eq_div_mul _ (18446744073709551616 ^ i), ← Nat.pow_succ, LA.out, LA.out] at st
        rw [LA.out] at b2
        have gx := getD_lt (by decide) HX.out.2 i
        have gy := getD_lt (by decide) HX.out.2 (i + 1)
        obtain ⟨x, ex⟩ : ∃ x, x = xs.getD i 0 := ⟨_, rfl⟩
        obtain ⟨y, ey⟩ : ∃ y, y = xs.getD (i + 1) 0 := ⟨_, rfl⟩
        rw [← ex] at hcx st b2 gx
        rw [← ey] at st gy
        have OR := or_high (x / 2 ^ s) y s (by omega) b2
        obtain ⟨x1, hx1⟩ : ∃ x1, x1 = x / 2 ^ s := ⟨_, rfl⟩
        rw [← hx1] at st b2 OR
        obtain ⟨d, hd⟩ : ∃ d, d = x1 + y * 2 ^ (64 - s) % 18446744073709551616 := ⟨_, rfl⟩
        rw [← hd] at st OR
        have hxI : (x : Int) / 2 ^ s = (x1 : Int) := by rw [hx1]; simp
        have ST := Lib.hid st
        have HO := hown
        have HIQ := Lib.hid hi
        clear hown st b1 hcellx hi
        by_cases hs0 : s = 0
        · have e0 : d = x := by
            rw [hd, hx1, hs0, show 64 - 0 = 64 by rfl, ← b64, Nat.mul_mod_left]; simp
          rw [e0] at ST
          have ex1 : x1 = x := by rw [hx1, hs0]; simp
          rw [ex1] at hxI
          have hs1 : ¬ (0 : Int) < (s : Int) := by omega
          clear hd hx1 OR b2 e0 ex1 ex ey hs0
          go_wp2_with (at_builtin; refine wpList_append_own _ rfl _ _ 29 rfl w.heap.size 23 i0 (.int .u64 0) 1 8 Try.underlying29 hi0 hz0 hz1 hz2 rfl (by decide) _ es.length (es.map fun x => Value.int .u64 (x : Nat)) rfl (HO.out.alloc _) ⟨wr.heap.size, 0, none⟩ 1 1 [.int .u64 (x : Nat)] rfl rfl ?c1 ?c2 ?c3 ?c4 ?c5 ?_)
          any_goals (first | exact cell_one_new _ _ _ | (show _ ≤ _; first | (unfold maxLen; omega) | omega | (simp; omega)) | (show Value.oneCell' _ = true; rfl) | (show ∀ u ∈ _, Value.oneCell' u = true; simp [Value.oneCell']))
          intro v' w9 hown1 hgrow _
          have hB9 : Below w.heap.size w w9 := (hB.alloc hBs _).grown hgrow (by simp; omega) (fun k hk => (HO.out.lt k hk).1)
          have h1 : Hid (w9.ownsRow w.heap.size 23 1 v' (es ++ [x]).length ((es ++ [x]).map fun x => Value.int .u64 (x : Nat))) := by
            have h1 := hown1
            simpa [Hid] using h1
          clear hown1 hgrow
          go_wp2
          exact ⟨⟨k + 1, es ++ [x], by have := HIQ.out; omega, by have := HIQ.out; congr 1; omega, ST.out, h1, hB9⟩, by simp [intOf]; omega⟩
        · by_cases hy : i + 1 < nx
          · obtain ⟨_, _, he, _, hcelly⟩ := HX.out.1 (i + 1) (by rw [← NX.out]; exact hy)
            simp only [Option.some.injEq, Addr.mk.injEq, and_true] at he
            obtain ⟨rfl, rfl⟩ := he
            have hcy : wr.cell? ⟨bx, fx + (i + 1), none⟩ = some (.int .u64 (y : Nat)) := by
              have h := (hB.cell (p := ⟨bx, fx + (i + 1), none⟩) hbx).trans hcelly
              rw [← ey] at h
              exact h
            clear hd hx1 hcelly ex ey
            go_wp2_with (at_builtin; refine wpList_append_own _ rfl _ _ 29 rfl w.heap.size 23 i0 (.int .u64 0) 1 8 Try.underlying29 hi0 hz0 hz1 hz2 rfl (by decide) _ es.length (es.map fun x => Value.int .u64 (x : Nat)) rfl (HO.out.alloc _) ⟨wr.heap.size, 0, none⟩ 1 1 [.int .u64 (d : Nat)] rfl rfl ?d1 ?d2 ?d3 ?d4 ?d5 ?_)
            any_goals (first | exact cell_one_new _ _ _ | (show _ ≤ _; first | (unfold maxLen; omega) | omega | (simp; omega)) | (show Value.oneCell' _ = true; rfl) | (show ∀ u ∈ _, Value.oneCell' u = true; simp [Value.oneCell']))
            intro v' w9 hown1 hgrow _
            have hB9 : Below w.heap.size w w9 := (hB.alloc hBs _).grown hgrow (by simp; omega) (fun k hk => (HO.out.lt k hk).1)
            have h1 : Hid (w9.ownsRow w.heap.size 23 1 v' (es ++ [d]).length ((es ++ [d]).map fun x => Value.int .u64 (x : Nat))) := by
              have h1 := hown1
              simpa [Hid] using h1
            clear hown1 hgrow
            go_wp2
            exact ⟨⟨k + 1, es ++ [d], by have := HIQ.out; omega, by have := HIQ.out; congr 1; omega, ST.out, h1, hB9⟩, by simp [intOf]; omega⟩
          · have hy0 : y = 0 := by rw [ey]; simp [List.getD, List.getElem?_eq_none (by rw [← NX.out]; omega : xs.length ≤ i + 1)]
            have e0 : d = x1 := by rw [hd, hy0]; simp
            rw [e0] at ST
            clear hd hx1 OR e0 ex ey hy0
            go_wp2_with (at_builtin; refine wpList_append_own _ rfl _ _ 29 rfl w.heap.size 23 i0 (.int .u64 0) 1 8 Try.underlying29 hi0 hz0 hz1 hz2 rfl (by decide) _ es.length (es.map fun x => Value.int .u64 (x : Nat)) rfl (HO.out.alloc _) ⟨wr.heap.size, 0, none⟩ 1 1 [.int .u64 (x1 : Nat)] rfl rfl ?e1 ?e2 ?e3 ?e4 ?e5 ?_)
            any_goals (first | exact cell_one_new _ _ _ | (show _ ≤ _; first | (unfold maxLen; omega) | omega | (simp; omega)) | (show Value.oneCell' _ = true; rfl) | (show ∀ u ∈ _, Value.oneCell' u = true; simp [Value.oneCell']))
            intro v' w9 hown1 hgrow _
            have hB9 : Below w.heap.size w w9 := (hB.alloc hBs _).grown hgrow (by simp; omega) (fun k hk => (HO.out.lt k hk).1)
            have h1 : Hid (w9.ownsRow w.heap.size 23 1 v' (es ++ [x1]).length ((es ++ [x1]).map fun x => Value.int .u64 (x : Nat))) := by
              have h1 := hown1
              simpa [Hid] using h1
            clear hown1 hgrow
            go_wp2
            exact ⟨⟨k + 1, es ++ [x1], by have := HIQ.out; omega, by have := HIQ.out; congr 1; omega, ST.out, h1, hB9⟩, by simp [intOf]; omega⟩
      · have hie : i = nx := by omega
        have hkk : Hid (lval 18446744073709551616 es = a / 2 ^ n ∧ ∀ x ∈ es, x < 18446744073709551616) := by
          obtain ⟨h1, h2, h3⟩ := HI.out
          refine ⟨?_, h2⟩
          rw [h3, Nat.mod_eq_of_lt]
          have := ME.out
          rwa [show nx - q = k by omega] at this
        have RD : Hid (Rd .u64 wr u6 es) := own_rd (base := w.heap.size) (e := 23) hown.out
        have HN : Hid (IsN wr (cutv u6 (trimLen es)) (a / 2 ^ n)) := by
          have h := isN_trim RD.out hkk.out.2
          rw [hkk.out.1] at h
          exact h
        have TR := Lib.hid (fun h => trim_any u6 es wr h RD.out)
        have FR := Lib.hid (fun b' (hb' : b' < w.heap.size) => own_far hown.out hb')
        clear hi hie hown HI
        go_wp2_with (first | (go_at_call 94; (with_reducible refine (TR.out (by omega)).mono ?_); rintro e w' ⟨rfl, rfl⟩) | fail)
        go_ret
        exact ⟨_, rfl, HN.out, hB, fun b' hb' => cutv_far (FR.out b' hb')⟩
theorem down2_any (va : Value) (a n : Nat) (w : World) (ha : IsN w va a) (la : a < BIG) (hn : n ≤ 4611686018427387904) : Calls Try.prog 120 #[va, .int .i64 n] w (SomeN w (a / 2 ^ n)) :=
  (down2_far va a n w ha la hn).mono fun _ _ h => h.some
end Go.Proofs.Ytkpkejccphpkpaa
