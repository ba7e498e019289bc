/-
  The references' whole numbers: a slice of limbs as a number.
  The references' whole numbers: sums.
  The references' whole numbers: differences.
  The references' whole numbers: which is the lower one.
  The references' whole numbers: products.
-/
import Derived.Laws.MakeOwn
import Derived.Deep.DeepCutAuto
import Derived.Test.YtimmgmhgahbcbaaM01
import Derived.Test.YtimmgmhgahbcbaaM09
namespace Go.Proofs.Ytimmgmhgahbcbaa
open Go.RowKit

theorem lval_append (B : Nat) : ∀ us vs : List Nat, lval B (us ++ vs) = lval B us + B ^ us.length * lval B vs
  | [], vs => by simp [lval]
  | x :: us, vs => by
    have ih := lval_append B us vs
    simp only [List.cons_append, lval, ih, List.length_cons, Nat.pow_succ]
    rw [Nat.mul_add, Nat.mul_comm (B ^ us.length) B, Nat.mul_assoc]
    omega
theorem lval_split (B : Nat) (ls : List Nat) (i : Nat) (h : i ≤ ls.length) : lval B ls = lval B (ls.take i) + B ^ i * lval B (ls.drop i) := by
  conv => lhs; rw [← List.take_append_drop i ls]
  rw [lval_append, List.length_take, Nat.min_eq_left h]
theorem lval_lt (B : Nat) (hB : 0 < B) : ∀ ls : List Nat, (∀ x ∈ ls, x < B) → lval B ls < B ^ ls.length
  | [], _ => by simp [lval]
  | x :: ls, h => by
    have ih := lval_lt B hB ls (fun y hy => h y (List.mem_cons_of_mem _ hy))
    have hx := h x List.mem_cons_self
    simp only [lval, List.length_cons, Nat.pow_succ]
    have := Nat.mul_le_mul_left B (show lval B ls + 1 ≤ B ^ ls.length from ih)
    rw [Nat.mul_add, Nat.mul_one, Nat.mul_comm B (B ^ ls.length)] at this
    omega
theorem lval_ge (B : Nat) (ls : List Nat) (h : trimLen ls = ls.length) (h0 : ls ≠ []) : B ^ (ls.length - 1) ≤ lval B ls := by
  have hl : 0 < ls.length := List.length_pos_iff.2 h0
  have hn : ls.getD (ls.length - 1) 0 ≠ 0 := by
    rcases trim_last ls with h1 | h1
    · omega
    · rwa [h] at h1
  rw [lval_split B ls (ls.length - 1) (by omega)]
  have e : ls.drop (ls.length - 1) = [ls.getD (ls.length - 1) 0] := by
    have hlt : ls.length - 1 < ls.length := by omega
    rw [List.drop_eq_getElem_cons hlt, List.drop_eq_nil_of_le (by omega)]
    simp [List.getD, hlt]
  rw [e]
  simp only [lval, Nat.mul_zero, Nat.add_zero]
  have := Nat.mul_le_mul_left (B ^ (ls.length - 1)) (show 1 ≤ ls.getD (ls.length - 1) 0 by omega)
  omega
theorem trim_take (ls : List Nat) : trimLen (ls.take (trimLen ls)) = (ls.take (trimLen ls)).length := by
  have hl := trimLen_le ls
  have e : (ls.take (trimLen ls)).length = trimLen ls := by simp [Nat.min_eq_left hl]
  rw [e]
  refine trimLen_is _ _ (by rw [e]; exact Nat.le_refl _) (fun i hi => ?_) ?_
  · simp only [List.getD_eq_getElem?_getD, List.getElem?_take]; rw [if_neg (by omega)]; rfl
  · rcases trim_last ls with h | h
    · exact .inl h
    · right
      by_cases h0 : trimLen ls = 0
      · rw [h0]; rw [h0] at h; simp only [List.take_zero]; simp; rw [h0] at hl; cases ls with
        | nil => simp at h
        | cons x xs =>
          simp [trimLen] at h0
          split at h0
          · split at h0
            · rename_i hx; simp [hx] at h
            · omega
          · omega
      · simp only [List.getD_eq_getElem?_getD, List.getElem?_take] at h ⊢; rw [if_pos (by omega)]; exact h

/-- Beyond all numbers that a statement speaks of: 2^18 limbs of 64 bits. -/
def BIG : Nat := 2 ^ 16777216
theorem pow2_mono (k m : Nat) (h : k ≤ m) : 2 ^ k ≤ 2 ^ m := Nat.pow_le_pow_right (by decide) h
theorem big_of {n k : Nat} (h : n < 2 ^ k) (hk : k ≤ 16777216) : n < BIG := by
  unfold BIG
  exact Nat.lt_of_lt_of_le h (pow2_mono k 16777216 hk)
/-- The slice v of limbs is the number n: no nought on top. -/
def IsN (w : World) (v : Value) (n : Nat) : Prop := ∃ ls, Rd .u64 w v ls ∧ (∀ x ∈ ls, x < 18446744073709551616) ∧ lval 18446744073709551616 ls = n ∧ trimLen ls = ls.length
/-- The slice v of digits of 32 bits is the number n. -/
def IsD (w : World) (v : Value) (n : Nat) : Prop := ∃ ls, Rd .u32 w v ls ∧ (∀ x ∈ ls, x < 4294967296) ∧ lval 4294967296 ls = n ∧ trimLen ls = ls.length
theorem IsN.below {w w' : World} {v : Value} {n : Nat} (h : IsN w v n) (hb : Below w.heap.size w w') : IsN w' v n := by
  obtain ⟨ls, h1, h2⟩ := h; exact ⟨ls, h1.below hb, h2⟩
theorem IsD.below {w w' : World} {v : Value} {n : Nat} (h : IsD w v n) (hb : Below w.heap.size w w') : IsD w' v n := by
  obtain ⟨ls, h1, h2⟩ := h; exact ⟨ls, h1.below hb, h2⟩
theorem len_big {B k : Nat} {ls : List Nat} (hB : B = 2 ^ k) (_hk : 1 ≤ k) (h : trimLen ls = ls.length) (hb : lval B ls < BIG) : ls.length * k ≤ 16777216 + k := by
  subst hB
  by_cases h0 : ls = []
  · subst h0; simp
  · have := lval_ge (2 ^ k) ls h h0
    rcases Nat.lt_or_ge 16777216 ((ls.length - 1) * k) with hgt | hle
    · exfalso
      have h1 : BIG ≤ 2 ^ ((ls.length - 1) * k) := by
        unfold BIG
        exact pow2_mono 16777216 _ (by omega)
      rw [← Nat.pow_mul, Nat.mul_comm k] at this
      omega
    · have hl : 0 < ls.length := List.length_pos_iff.2 h0
      have : ls.length * k = (ls.length - 1) * k + k := by
        conv => lhs; rw [show ls.length = (ls.length - 1) + 1 by omega]
        rw [Nat.succ_mul]
      omega
theorem len_n {ls : List Nat} (h : trimLen ls = ls.length) (hb : lval 18446744073709551616 ls < BIG) : ls.length ≤ 262145 := by
  have := len_big (B := 18446744073709551616) (k := 64) (by decide) (by decide) h hb; omega
theorem len_d {ls : List Nat} (h : trimLen ls = ls.length) (hb : lval 4294967296 ls < BIG) : ls.length ≤ 524289 := by
  have := len_big (B := 4294967296) (k := 32) (by decide) (by decide) h hb; omega
theorem split2_lt : ∀ (ls : List Nat), (∀ x ∈ ls, x < 18446744073709551616) → ∀ y ∈ split2 ls, y < 4294967296
  | [], _, y, hy => by cases hy
  | x :: ls, h, y, hy => by
    have ih := split2_lt ls (fun z hz => h z (List.mem_cons_of_mem _ hz))
    have hx := h x List.mem_cons_self
    simp only [split2, List.mem_cons] at hy
    rcases hy with rfl | rfl | hy
    · omega
    · omega
    · exact ih y hy
theorem join2_lt : ∀ (n : Nat) (ls : List Nat), ls.length ≤ n → (∀ x ∈ ls, x < 4294967296) → ∀ y ∈ join2 ls, y < 18446744073709551616
  | _, [], _, _, y, hy => by cases hy
  | _, [x], _, h, y, hy => by simp [join2] at hy; have := h x List.mem_cons_self; omega
  | 0, x :: y :: ls, hl, _, _, _ => by simp at hl
  | n + 1, x :: y :: ls, hl, h, z, hz => by
    have ih := join2_lt n ls (by simp at hl; omega) (fun z hz => h z (List.mem_cons_of_mem _ (List.mem_cons_of_mem _ hz)))
    have hx := h x List.mem_cons_self
    have hy := h y (List.mem_cons_of_mem _ List.mem_cons_self)
    simp only [join2, List.mem_cons] at hz
    rcases hz with rfl | hz
    · omega
    · exact ih z hz
/-- halves, of numbers -/
def SomeD (w : World) (n : Nat) (e : Ending) (w' : World) : Prop := ∃ v, e = .returned v ∧ IsD w' v n ∧ Below w.heap.size w w'
def SomeN (w : World) (n : Nat) (e : Ending) (w' : World) : Prop := ∃ v, e = .returned v ∧ IsN w' v n ∧ Below w.heap.size w w'
/-- As SomeN, and the number lies in none of the blocks that were there. -/
def SomeNF (w : World) (n : Nat) (e : Ending) (w' : World) : Prop := ∃ v, e = .returned v ∧ IsN w' v n ∧ Below w.heap.size w w' ∧ ∀ b, b < w.heap.size → v.ownBlock ≠ some b
theorem SomeNF.some {w : World} {n : Nat} {e : Ending} {w' : World} (h : SomeNF w n e w') : SomeN w n e w' := by
  obtain ⟨v, h1, h2, h3, _⟩ := h; exact ⟨v, h1, h2, h3⟩
theorem halves_num (v : Value) (n : Nat) (w : World) (h : IsN w v n) (hb : n < BIG) : Calls Try.prog 58 #[v] w (SomeD w n) := by
  obtain ⟨ls, h1, h2, rfl, h4⟩ := h
  refine (halves_any v ls w h2 (by have := len_n h4 hb; omega) h1).mono fun e w' ⟨u, he, hr, hB⟩ => ⟨u, he, ⟨_, hr, ?_, ?_, trim_take _⟩, hB⟩
  · exact fun x hx => split2_lt ls h2 x (List.mem_of_mem_take hx)
  · rw [lval_trim, split2_val ls h2]
theorem whole_far (v : Value) (ls : List Nat) (w : World) (h : Rd .u32 w v ls) (h2 : ∀ x ∈ ls, x < 4294967296) (hl : ls.length ≤ 2199023255552) : Calls Try.prog 59 #[v] w (SomeNF w (lval 4294967296 ls)) := by
  refine (whole_any v ls w h2 hl h).mono fun e w' ⟨u, he, hr, hB, hF⟩ => ⟨u, he, ⟨_, hr, ?_, ?_, trim_take _⟩, hB, hF⟩
  · exact fun x hx => join2_lt ls.length ls (Nat.le_refl _) h2 x (List.mem_of_mem_take hx)
  · rw [lval_trim, join2_val ls.length ls (by omega)]
theorem whole_num (v : Value) (ls : List Nat) (w : World) (h : Rd .u32 w v ls) (h2 : ∀ x ∈ ls, x < 4294967296) (hl : ls.length ≤ 2199023255552) : Calls Try.prog 59 #[v] w (SomeN w (lval 4294967296 ls)) :=
  (whole_far v ls w h h2 hl).mono fun _ _ h => h.some
theorem nof_num (x : Nat) (w : World) (hx : x < 18446744073709551616) : Calls Try.prog 41 #[.int .u64 x] w (SomeN w x) := by
  refine (nof_any x w).mono fun e w' ⟨he, hw⟩ => ?_
  subst hw
  refine ⟨_, he, ⟨[x].take (trimLen [x]), ?_, ?_, ?_, trim_take _⟩, (Below.refl _ _).alloc (Nat.le_refl _) _⟩
  · exact (Rd.one w x 65).cut _ (trimLen_le _)
  · intro y hy; have := List.mem_of_mem_take hy; simp at this; omega
  · rw [lval_trim]; simp [lval]
end Go.Proofs.Ytimmgmhgahbcbaa
namespace Go.Proofs.Ytimmgmhgahbcbaa
open Go.RowKit

theorem Rd.form {k : IntKind} {w : World} {v : Value} {ls : List Nat} (h : Rd k w v ls) : ∃ o cap, v = .slice o ls.length cap ∧ ∀ i, i < ls.length → ∃ b off, o = some ⟨b, off, none⟩ ∧ b < w.heap.size ∧ w.cell? ⟨b, off + i, none⟩ = some (.int k (ls.getD i 0 : Nat)) := by
  rcases h with ⟨rfl, rfl⟩ | ⟨b, off, cap, rfl, _, hl, h⟩
  · exact ⟨none, 0, rfl, fun i hi => by simp at hi⟩
  · exact ⟨_, cap, rfl, fun i hi => ⟨b, off, rfl, hl, h i hi⟩⟩
theorem getD_lt {ls : List Nat} {B : Nat} (hB : 0 < B) (h : ∀ x ∈ ls, x < B) (i : Nat) : ls.getD i 0 < B := by
  by_cases hi : i < ls.length
  · simp only [List.getD, List.getElem?_eq_getElem hi, Option.getD_some]; exact h _ (List.getElem_mem hi)
  · simp only [List.getD, List.getElem?_eq_none (by omega : ls.length ≤ i), Option.getD_none]; exact hB
theorem lval_take_succ (B : Nat) (ls : List Nat) (i : Nat) : lval B (ls.take (i + 1)) = lval B (ls.take i) + B ^ i * ls.getD i 0 := by
  by_cases hi : i < ls.length
  · rw [take_snoc_getD ls i hi, lval_append, List.length_take, Nat.min_eq_left (by omega)]; simp [lval]
  · rw [List.take_of_length_le (by omega), List.take_of_length_le (by omega)]
    simp [List.getD, List.getElem?_eq_none (by omega : ls.length ≤ i)]
/-- What holds at each round of a sum: the digits told, and the carry. -/
def PInv (xs ys ds : List Nat) (i c : Nat) : Prop := ds.length = i ∧ (∀ x ∈ ds, x < 4294967296) ∧ c ≤ 1 ∧ lval 4294967296 (xs.take i) + lval 4294967296 (ys.take i) = lval 4294967296 ds + 4294967296 ^ i * c
theorem pinv_step {xs ys ds : List Nat} {i c s : Nat} (h : PInv xs ys ds i c) (hx : ∀ x ∈ xs, x < 4294967296) (hy : ∀ x ∈ ys, x < 4294967296) (hs : s = c + xs.getD i 0 + ys.getD i 0) : PInv xs ys (ds ++ [s % 4294967296]) (i + 1) (s / 4294967296) := by
  obtain ⟨h1, h2, h3, h4⟩ := h
  have gx := getD_lt (by decide) hx i
  have gy := getD_lt (by decide) hy i
  refine ⟨by simp [h1], ?_, by omega, ?_⟩
  · intro x hxm
    rw [List.mem_append] at hxm
    rcases hxm with hm | hm
    · exact h2 x hm
    · simp at hm; omega
  · rw [lval_take_succ, lval_take_succ, lval_append, h1, Nat.pow_succ]
    simp only [lval, Nat.mul_zero, Nat.add_zero]
    have e : s % 4294967296 + 4294967296 * (s / 4294967296) = s := Nat.mod_add_div _ _
    have e2 : 4294967296 ^ i * (s % 4294967296) + 4294967296 ^ i * 4294967296 * (s / 4294967296) = 4294967296 ^ i * s := by
      rw [Nat.mul_assoc, ← Nat.mul_add, e]
    have e3 : 4294967296 ^ i * s = 4294967296 ^ i * c + 4294967296 ^ i * xs.getD i 0 + 4294967296 ^ i * ys.getD i 0 := by rw [hs, Nat.mul_add, Nat.mul_add]
    omega
theorem pinv_end {xs ys ds : List Nat} {i c : Nat} (h : PInv xs ys ds i c) (hx : xs.length ≤ i) (hy : ys.length ≤ i) : lval 4294967296 (ds ++ [c]) = lval 4294967296 xs + lval 4294967296 ys ∧ ∀ x ∈ ds ++ [c], x < 4294967296 := by
  obtain ⟨h1, h2, h3, h4⟩ := h
  rw [List.take_of_length_le hx, List.take_of_length_le hy] at h4
  refine ⟨by rw [lval_append, h1]; simp [lval]; omega, ?_⟩
  intro x hxm
  rw [List.mem_append] at hxm
  rcases hxm with hm | hm
  · exact h2 x hm
  · simp at hm; omega

set_option maxRecDepth 100000 in
set_option maxHeartbeats 8000000 in
/-- NPlus -/
theorem nplus_any (va vb : Value) (a b : Nat) (w : World) (ha : IsN w va a) (hb : IsN w vb b) (la : a < BIG) (lb : b < BIG) : Calls Try.prog 45 #[va, vb] w (SomeN w (a + b)) := by
  obtain ⟨i0, hi0, hz0, hz1, hz2⟩ := info_parts info32
  have HA := Lib.hid (And.intro ha (And.intro hb (And.intro la lb)))
  clear ha hb la lb
  go_enter Try.func45, Try.ntmps45
  go_wp2_with (first | (go_at_call 58; (with_reducible refine (halves_num va a _ HA.out.1 HA.out.2.2.1).mono ?_); rintro e w1 ⟨vx, rfl, hvx, hb1⟩) | (go_at_call 58; (with_reducible refine (halves_num vb b _ (HA.out.2.1.below hb1) HA.out.2.2.2).mono ?_); rintro e w2 ⟨vy, rfl, hvy, hb2⟩))
  obtain ⟨xs, rx, x1, x2, x3⟩ := hvx.below hb2
  obtain ⟨ys, ry, y1, y2, y3⟩ := hvy
  have lx := len_d x3 (by rw [x2]; exact HA.out.2.2.1)
  have ly := len_d y3 (by rw [y2]; exact HA.out.2.2.2)
  obtain ⟨ox, cx, rfl, hcx⟩ := rx.form
  obtain ⟨oy, cy, rfl, hcy⟩ := ry.form
  have HX := Lib.hid (And.intro hcx (And.intro hcy (And.intro x1 (And.intro y1 (And.intro x2 y2)))))
  clear rx ry hcx hcy x1 y1 x2 y2 x3 y3 hvx
  have M := Lib.hid (Nat.le_max_left xs.length ys.length)
  have M2 := Lib.hid (Nat.le_max_right xs.length ys.length)
  go_loopw [7, 8, 9] (fun s7 s8 s9 wr => ∃ (i : Nat) (ds : List Nat) (c : Nat), (i ≤ xs.length ∨ i ≤ ys.length) ∧ i ≤ 524289 ∧ s8 = .int .u64 c ∧ s9 = .int .i64 i ∧ Hid (PInv xs ys ds i c) ∧ Hid (wr.ownsRow w2.heap.size 94 1 s7 ds.length (ds.map fun x => Value.int .u32 (x : Nat))) ∧ Below w2.heap.size w2 wr) (fun _ _ s9 _ => xs.length + ys.length - (intOf s9).toNat)
  case atStart => exact ⟨0, [], 0, .inl (Nat.zero_le _), by omega, rfl, rfl, ⟨rfl, by simp, by omega, by simp [lval]⟩, World.ownsRow_nil _ _ _ _, Below.refl _ _⟩
  case round =>
    obtain ⟨i, ds, c, him, hi2, rfl, rfl, HI, hown, hB⟩ := hrel
    have hBs := hB.size
    have cl : c ≤ 1 := HI.out.2.2.1
    by_cases hx : i < xs.length
    · by_cases hy : i < ys.length
      · skip
        obtain ⟨bx, fx, rfl, hbx, hcellx⟩ := HX.out.1 i hx
        have hcx : wr.cell? ⟨bx, fx + i, none⟩ = some (.int .u32 (xs.getD i 0 : Nat)) := (hB.cell (p := ⟨bx, fx + i, none⟩) hbx).trans hcellx
        obtain ⟨xi, exi⟩ : ∃ xi, xi = xs.getD i 0 := ⟨_, rfl⟩
        have xl : xi < 4294967296 := by rw [exi]; exact getD_lt (by decide) HX.out.2.2.1 i
        rw [← exi] at hcx
        clear hcellx
        obtain ⟨by', fy, rfl, hby, hcelly⟩ := HX.out.2.1 i hy
        have hcy : wr.cell? ⟨by', fy + i, none⟩ = some (.int .u32 (ys.getD i 0 : Nat)) := (hB.cell (p := ⟨by', fy + i, none⟩) hby).trans hcelly
        obtain ⟨yi, eyi⟩ : ∃ yi, yi = ys.getD i 0 := ⟨_, rfl⟩
        have yl : yi < 4294967296 := by rw [eyi]; exact getD_lt (by decide) HX.out.2.2.2.1 i
        rw [← eyi] at hcy
        clear hcelly
        obtain ⟨s, hs⟩ : ∃ s : Nat, s = c + xi + yi := ⟨_, rfl⟩
        have st := pinv_step (s := s) HI.out HX.out.2.2.1 HX.out.2.2.2.1 (by rw [← exi, ← eyi, hs])
        obtain ⟨d, hd⟩ : ∃ d, d = s % 4294967296 := ⟨_, rfl⟩
        obtain ⟨c2, hc2⟩ : ∃ c2, c2 = s / 4294967296 := ⟨_, rfl⟩
        rw [← hd, ← hc2] at st
        have e1 : IntKind.u32.wrap ((c : Int) + (xi : Int) + (yi : Int)) = (d : Int) := by rw [IntKind.wrap_u32]; omega
        have e2 : ((c : Int) + (xi : Int) + (yi : Int)) / 4294967296 = (c2 : Int) := by omega
        have ST := Lib.hid st
        have dl : ds.length ≤ 524289 := by have := HI.out.1; omega
        clear st hs hd hc2 exi eyi
        have HO := hown
        clear hown
        go_wp2_with (at_builtin; refine wpList_append_own _ rfl _ _ 92 rfl w2.heap.size 94 i0 (.int .u32 0) 1 4 Try.underlying92 hi0 hz0 hz1 hz2 rfl (by decide) _ ds.length (ds.map fun x => Value.int .u32 (x : Nat)) rfl (HO.out.alloc _) ⟨wr.heap.size, 0, none⟩ 1 1 [.int .u32 (d : Nat)] rfl rfl ?c1 ?c2 ?c3 ?c4 ?c5 ?_)
        case c1 => exact (cell_one_new _ _ _)
        case c2 => simp [Value.oneCell']
        case c3 => unfold maxLen; omega
        case c4 => omega
        case c5 => simp; omega
        intro v' w9 hown1 hgrow _
        go_wp2
        refine ⟨⟨i + 1, ds ++ [d], c2, by omega, by omega, rfl, by go_num, ST.out, ?_, ?_⟩, by simp [intOf]; omega⟩
        · have h1 := hown1
          simpa [Hid] using h1
        · exact (hB.alloc hBs _).grown hgrow (by simp; omega) (fun k hk => (HO.out.lt k hk).1)
      · skip
        obtain ⟨bx, fx, rfl, hbx, hcellx⟩ := HX.out.1 i hx
        have hcx : wr.cell? ⟨bx, fx + i, none⟩ = some (.int .u32 (xs.getD i 0 : Nat)) := (hB.cell (p := ⟨bx, fx + i, none⟩) hbx).trans hcellx
        obtain ⟨xi, exi⟩ : ∃ xi, xi = xs.getD i 0 := ⟨_, rfl⟩
        have xl : xi < 4294967296 := by rw [exi]; exact getD_lt (by decide) HX.out.2.2.1 i
        rw [← exi] at hcx
        clear hcellx
        have zy : ys.getD i 0 = 0 := by simp [List.getD, List.getElem?_eq_none (by omega : ys.length ≤ i)]
        obtain ⟨s, hs⟩ : ∃ s : Nat, s = c + xi := ⟨_, rfl⟩
        have st := pinv_step (s := s) HI.out HX.out.2.2.1 HX.out.2.2.2.1 (by rw [← exi, zy, hs]; omega)
        obtain ⟨d, hd⟩ : ∃ d, d = s % 4294967296 := ⟨_, rfl⟩
        obtain ⟨c2, hc2⟩ : ∃ c2, c2 = s / 4294967296 := ⟨_, rfl⟩
        rw [← hd, ← hc2] at st
        have e1 : IntKind.u32.wrap ((c : Int) + (xi : Int)) = (d : Int) := by rw [IntKind.wrap_u32]; omega
        have e2 : ((c : Int) + (xi : Int)) / 4294967296 = (c2 : Int) := by omega
        have ST := Lib.hid st
        have dl : ds.length ≤ 524289 := by have := HI.out.1; omega
        clear st hs hd hc2 exi zy
        have HO := hown
        clear hown
        go_wp2_with (at_builtin; refine wpList_append_own _ rfl _ _ 92 rfl w2.heap.size 94 i0 (.int .u32 0) 1 4 Try.underlying92 hi0 hz0 hz1 hz2 rfl (by decide) _ ds.length (ds.map fun x => Value.int .u32 (x : Nat)) rfl (HO.out.alloc _) ⟨wr.heap.size, 0, none⟩ 1 1 [.int .u32 (d : Nat)] rfl rfl ?c1 ?c2 ?c3 ?c4 ?c5 ?_)
        case c1 => exact (cell_one_new _ _ _)
        case c2 => simp [Value.oneCell']
        case c3 => unfold maxLen; omega
        case c4 => omega
        case c5 => simp; omega
        intro v' w9 hown1 hgrow _
        go_wp2
        refine ⟨⟨i + 1, ds ++ [d], c2, by omega, by omega, rfl, by go_num, ST.out, ?_, ?_⟩, by simp [intOf]; omega⟩
        · have h1 := hown1
          simpa [Hid] using h1
        · exact (hB.alloc hBs _).grown hgrow (by simp; omega) (fun k hk => (HO.out.lt k hk).1)
    · by_cases hy : i < ys.length
      · skip
        obtain ⟨by', fy, rfl, hby, hcelly⟩ := HX.out.2.1 i hy
        have hcy : wr.cell? ⟨by', fy + i, none⟩ = some (.int .u32 (ys.getD i 0 : Nat)) := (hB.cell (p := ⟨by', fy + i, none⟩) hby).trans hcelly
        obtain ⟨yi, eyi⟩ : ∃ yi, yi = ys.getD i 0 := ⟨_, rfl⟩
        have yl : yi < 4294967296 := by rw [eyi]; exact getD_lt (by decide) HX.out.2.2.2.1 i
        rw [← eyi] at hcy
        clear hcelly
        have zx : xs.getD i 0 = 0 := by simp [List.getD, List.getElem?_eq_none (by omega : xs.length ≤ i)]
        obtain ⟨s, hs⟩ : ∃ s : Nat, s = c + yi := ⟨_, rfl⟩
        have st := pinv_step (s := s) HI.out HX.out.2.2.1 HX.out.2.2.2.1 (by rw [zx, ← eyi, hs]; omega)
        obtain ⟨d, hd⟩ : ∃ d, d = s % 4294967296 := ⟨_, rfl⟩
        obtain ⟨c2, hc2⟩ : ∃ c2, c2 = s / 4294967296 := ⟨_, rfl⟩
        rw [← hd, ← hc2] at st
        have e1 : IntKind.u32.wrap ((c : Int) + (yi : Int)) = (d : Int) := by rw [IntKind.wrap_u32]; omega
        have e2 : ((c : Int) + (yi : Int)) / 4294967296 = (c2 : Int) := by omega
        have ST := Lib.hid st
        have dl : ds.length ≤ 524289 := by have := HI.out.1; omega
        clear st hs hd hc2 zx eyi
        have HO := hown
        clear hown
        go_wp2_with (at_builtin; refine wpList_append_own _ rfl _ _ 92 rfl w2.heap.size 94 i0 (.int .u32 0) 1 4 Try.underlying92 hi0 hz0 hz1 hz2 rfl (by decide) _ ds.length (ds.map fun x => Value.int .u32 (x : Nat)) rfl (HO.out.alloc _) ⟨wr.heap.size, 0, none⟩ 1 1 [.int .u32 (d : Nat)] rfl rfl ?c1 ?c2 ?c3 ?c4 ?c5 ?_)
        case c1 => exact (cell_one_new _ _ _)
        case c2 => simp [Value.oneCell']
        case c3 => unfold maxLen; omega
        case c4 => omega
        case c5 => simp; omega
        intro v' w9 hown1 hgrow _
        go_wp2
        refine ⟨⟨i + 1, ds ++ [d], c2, by omega, by omega, rfl, by go_num, ST.out, ?_, ?_⟩, by simp [intOf]; omega⟩
        · have h1 := hown1
          simpa [Hid] using h1
        · exact (hB.alloc hBs _).grown hgrow (by simp; omega) (fun k hk => (HO.out.lt k hk).1)
      · skip
        obtain ⟨p1, p2⟩ := pinv_end HI.out (by omega) (by omega)
        have P1 := Lib.hid p1
        have P2 := Lib.hid p2
        have dl : ds.length ≤ 524289 := by have := HI.out.1; omega
        have e1 : IntKind.u32.wrap (c : Int) = (c : Int) := by rw [IntKind.wrap_u32]; omega
        have HO := hown
        clear hown p1 p2
        go_wp2_with (at_builtin; refine wpList_append_own _ rfl _ _ 92 rfl w2.heap.size 94 i0 (.int .u32 0) 1 4 Try.underlying92 hi0 hz0 hz1 hz2 rfl (by decide) _ ds.length (ds.map fun x => Value.int .u32 (x : Nat)) rfl (HO.out.alloc _) ⟨wr.heap.size, 0, none⟩ 1 1 [.int .u32 (c : Nat)] rfl rfl ?c1 ?c2 ?c3 ?c4 ?c5 ?_)
        case c1 => exact (cell_one_new _ _ _)
        case c2 => simp [Value.oneCell']
        case c3 => unfold maxLen; omega
        case c4 => omega
        case c5 => simp; omega
        intro v' w9 hown1 hgrow _
        obtain ⟨L, hL⟩ : ∃ L, L = ds ++ [c] := ⟨_, rfl⟩
        have RD : Hid (Rd .u32 w9 v' L) := by
          rw [hL]
          refine own_rd (base := w2.heap.size) (e := 94) ?_
          have h1 := hown1
          simpa using h1
        have ll : L.length ≤ 1048578 := by rw [hL]; simp; omega
        rw [← hL] at P1 P2
        have hB9 : Below w2.heap.size w2 w9 := (hB.alloc hBs _).grown hgrow (by simp; omega) (fun k hk => (HO.out.lt k hk).1)
        have TK : Hid (Rd .u32 w9 (cutv v' (trimLen L)) (L.take (trimLen L))) := RD.out.cut _ (trimLen_le _)
        have TL : Hid ((∀ x ∈ L.take (trimLen L), x < 4294967296) ∧ (L.take (trimLen L)).length ≤ 2199023255552) := ⟨fun x hx => P2.out x (List.mem_of_mem_take hx), by simp; omega⟩
        have TV : Hid (lval 4294967296 (L.take (trimLen L)) = a + b) := by unfold Hid; rw [lval_trim, P1.out]; rw [HX.out.2.2.2.2.1, HX.out.2.2.2.2.2]
        clear hL hown1 hgrow
        have CT := Lib.hid (cutd_any v' L w9 (by omega) RD.out)
        generalize L.take (trimLen L) = TT at *
        generalize trimLen L = tn at *
        go_wp2_with (first | (go_at_call 60; (with_reducible refine (CT.out).mono ?_); rintro e w' ⟨rfl, rfl⟩) | (go_at_call 59; (with_reducible refine (whole_num _ TT _ TK.out TL.out.1 TL.out.2).mono ?_); rintro e w10 ⟨u, rfl, hN, hb10⟩))
        go_ret
        refine ⟨_, rfl, by rw [← TV.out]; exact hN, ?_⟩
        exact (hb1.trans (hb2.mono hb1.size)).trans ((hB9.mono (Nat.le_trans hb1.size hb2.size)).trans (hb10.mono (Nat.le_trans (Nat.le_trans hb1.size hb2.size) hB9.size)))
end Go.Proofs.Ytimmgmhgahbcbaa
namespace Go.Proofs.Ytimmgmhgahbcbaa
open Go.RowKit

theorem len_mono {B : Nat} (hB : 0 < B) {xs ys : List Nat} (hx : ∀ x ∈ xs, x < B) (ty : trimLen ys = ys.length) (h : lval B ys ≤ lval B xs) : ys.length ≤ xs.length := by
  rcases Nat.lt_or_ge xs.length ys.length with h1 | h1
  · exfalso
    have h0 : ys ≠ [] := by intro e; rw [e] at h1; simp at h1
    have a1 := lval_lt B hB xs hx
    have a2 := lval_ge B ys ty h0
    have a3 : B ^ xs.length ≤ B ^ (ys.length - 1) := Nat.pow_le_pow_right hB (by omega)
    omega
  · exact h1
/-- What holds at each round of a difference. -/
def LInv (xs ys ds : List Nat) (i : Nat) (c : Int) : Prop := ds.length = i ∧ (∀ x ∈ ds, x < 4294967296) ∧ -1 ≤ c ∧ c ≤ 0 ∧ (lval 4294967296 (xs.take i) : Int) - lval 4294967296 (ys.take i) = lval 4294967296 ds + ((4294967296 ^ i : Nat) : Int) * c
theorem linv_alg {P X Y D x y d : Nat} {c s : Int} (h4 : (X : Int) - Y = D + (P : Int) * c) (hs : s = c + (x : Nat) - (y : Nat)) (hd : (d : Int) = s % 4294967296) :
    ((X + P * x : Nat) : Int) - ((Y + P * y : Nat) : Int) = ((D + P * d : Nat) : Int) + ((P * 4294967296 : Nat) : Int) * (s / 4294967296) := by
  have e : s % 4294967296 + 4294967296 * (s / 4294967296) = s := Int.emod_add_mul_ediv s _
  have e2 : (P : Int) * (d : Int) + (P : Int) * 4294967296 * (s / 4294967296) = (P : Int) * c + (P : Int) * (x : Int) - (P : Int) * (y : Int) := by
    rw [hd, Int.mul_assoc, ← Int.mul_add, e, hs, Int.mul_sub, Int.mul_add]
  simp only [Int.natCast_add, Int.natCast_mul]
  have e3 : ((4294967296 : Nat) : Int) = 4294967296 := rfl
  rw [e3]
  generalize (P : Int) * (d : Int) = a1 at *
  generalize (P : Int) * 4294967296 * (s / 4294967296) = a2 at *
  generalize (P : Int) * c = a3 at *
  generalize (P : Int) * (x : Int) = a4 at *
  generalize (P : Int) * (y : Int) = a5 at *
  omega
theorem linv_step {xs ys ds : List Nat} {i : Nat} {c s : Int} {d : Nat} (h : LInv xs ys ds i c) (hx : ∀ x ∈ xs, x < 4294967296) (hy : ∀ x ∈ ys, x < 4294967296) (hs : s = c + (xs.getD i 0 : Nat) - (ys.getD i 0 : Nat)) (hd : (d : Int) = s % 4294967296) : LInv xs ys (ds ++ [d]) (i + 1) (s / 4294967296) := by
  obtain ⟨h1, h2, h3, h3', h4⟩ := h
  have gx := getD_lt (by decide) hx i
  have gy := getD_lt (by decide) hy i
  refine ⟨by simp [h1], ?_, by omega, by omega, ?_⟩
  · intro x hxm
    rw [List.mem_append] at hxm
    rcases hxm with hm | hm
    · exact h2 x hm
    · simp at hm; omega
  · rw [lval_take_succ, lval_take_succ, lval_append, h1, Nat.pow_succ]
    simp only [lval, Nat.mul_zero, Nat.add_zero]
    exact linv_alg h4 hs hd
theorem linv_end {xs ys ds : List Nat} {c : Int} (h : LInv xs ys ds xs.length c) (hy : ys.length ≤ xs.length) (hle : lval 4294967296 ys ≤ lval 4294967296 xs) : lval 4294967296 ds = lval 4294967296 xs - lval 4294967296 ys ∧ ∀ x ∈ ds, x < 4294967296 := by
  obtain ⟨h1, h2, h3, h3', h4⟩ := h
  rw [List.take_of_length_le (Nat.le_refl _), List.take_of_length_le hy] at h4
  have hl := lval_lt 4294967296 (by decide) ds h2
  rw [h1] at hl
  refine ⟨?_, h2⟩
  generalize 4294967296 ^ xs.length = P at *
  have hc : c = 0 := by
    rcases Int.lt_or_le c 0 with h | h
    · have : c = -1 := by omega
      subst this
      omega
    · omega
  subst hc
  omega

set_option maxRecDepth 100000 in
set_option maxHeartbeats 8000000 in
/-- NLess -/
theorem nless_far (va vb : Value) (a b : Nat) (w : World) (ha : IsN w va a) (hb : IsN w vb b) (la : a < BIG) (hab : b ≤ a) : Calls Try.prog 47 #[va, vb] w (SomeNF w (a - b)) := by
  obtain ⟨i0, hi0, hz0, hz1, hz2⟩ := info_parts info32
  have HA := Lib.hid (And.intro ha (And.intro hb (And.intro la (And.intro (show b < BIG by omega) hab))))
  clear ha hb la hab
  go_enter Try.func47, Try.ntmps47
  go_wp2_with (first | (go_at_call 58; (with_reducible refine (halves_num va a _ HA.out.1 HA.out.2.2.1).mono ?_); rintro e w1 ⟨vx, rfl, hvx, hb1⟩) | (go_at_call 58; (with_reducible refine (halves_num vb b _ (HA.out.2.1.below hb1) HA.out.2.2.2.1).mono ?_); rintro e w2 ⟨vy, rfl, hvy, hb2⟩))
  obtain ⟨xs, rx, x1, x2, x3⟩ := hvx.below hb2
  obtain ⟨ys, ry, y1, y2, y3⟩ := hvy
  have lx := len_d x3 (by rw [x2]; exact HA.out.2.2.1)
  have ly := len_mono (by decide) x1 y3 (by rw [x2, y2]; exact HA.out.2.2.2.2)
  obtain ⟨ox, cx, rfl, hcx⟩ := rx.form
  obtain ⟨oy, cy, rfl, hcy⟩ := ry.form
  have HX := Lib.hid (And.intro hcx (And.intro hcy (And.intro x1 (And.intro y1 (And.intro x2 y2)))))
  clear rx ry hcx hcy x1 y1 x2 y2 x3 y3 hvx
  go_loopw [7, 8, 9] (fun s7 s8 s9 wr => ∃ (i : Nat) (ds : List Nat) (c : Int), i ≤ xs.length ∧ s8 = .int .i64 c ∧ s9 = .int .i64 i ∧ Hid (LInv xs ys ds i c) ∧ Hid (wr.ownsRow w2.heap.size 94 1 s7 ds.length (ds.map fun x => Value.int .u32 (x : Nat))) ∧ Below w2.heap.size w2 wr) (fun _ _ s9 _ => xs.length - (intOf s9).toNat)
  case atStart => exact ⟨0, [], 0, Nat.zero_le _, rfl, rfl, ⟨rfl, by simp, by omega, by omega, by simp only [List.take_zero, lval]; omega⟩, World.ownsRow_nil _ _ _ _, Below.refl _ _⟩
  case round =>
    obtain ⟨i, ds, c, him, rfl, rfl, HI, hown, hB⟩ := hrel
    have hBs := hB.size
    have cl : c ≤ 0 := HI.out.2.2.2.1
    have cl' : -1 ≤ c := HI.out.2.2.1
    by_cases hx : i < xs.length
    · by_cases hy : i < ys.length
      · skip
        obtain ⟨bx, fx, rfl, hbx, hcellx⟩ := HX.out.1 i hx
        have hcx : wr.cell? ⟨bx, fx + i, none⟩ = some (.int .u32 (xs.getD i 0 : Nat)) := (hB.cell (p := ⟨bx, fx + i, none⟩) hbx).trans hcellx
        obtain ⟨xi, exi⟩ : ∃ xi, xi = xs.getD i 0 := ⟨_, rfl⟩
        have xl : xi < 4294967296 := by rw [exi]; exact getD_lt (by decide) HX.out.2.2.1 i
        rw [← exi] at hcx
        clear hcellx
        obtain ⟨by', fy, rfl, hby, hcelly⟩ := HX.out.2.1 i hy
        have hcy : wr.cell? ⟨by', fy + i, none⟩ = some (.int .u32 (ys.getD i 0 : Nat)) := (hB.cell (p := ⟨by', fy + i, none⟩) hby).trans hcelly
        obtain ⟨yi, eyi⟩ : ∃ yi, yi = ys.getD i 0 := ⟨_, rfl⟩
        have yl : yi < 4294967296 := by rw [eyi]; exact getD_lt (by decide) HX.out.2.2.2.1 i
        rw [← eyi] at hcy
        clear hcelly
        obtain ⟨s, hs⟩ : ∃ s : Int, s = c + (xi : Int) - (yi : Int) := ⟨_, rfl⟩
        obtain ⟨d, hd⟩ := Int.eq_ofNat_of_zero_le (show 0 ≤ s % 4294967296 by omega)
        have st := linv_step (s := s) (d := d) HI.out HX.out.2.2.1 HX.out.2.2.2.1 (by rw [← exi, ← eyi, hs]) hd.symm
        obtain ⟨c2, hc2⟩ : ∃ c2, c2 = s / 4294967296 := ⟨_, rfl⟩
        rw [← hc2] at st
        have e1 : IntKind.u32.wrap (IntKind.u64.wrap (c + (xi : Int) - (yi : Int))) = (d : Int) := by rw [IntKind.wrap_u32, IntKind.wrap_u64]; omega
        have e2 : (c + (xi : Int) - (yi : Int)) / 4294967296 = c2 := by omega
        have ST := Lib.hid st
        have dl : ds.length ≤ 524289 := by have := HI.out.1; omega
        clear st hs hd hc2 exi eyi
        have HO := hown
        clear hown
        go_wp2_with (at_builtin; refine wpList_append_own _ rfl _ _ 92 rfl w2.heap.size 94 i0 (.int .u32 0) 1 4 Try.underlying92 hi0 hz0 hz1 hz2 rfl (by decide) _ ds.length (ds.map fun x => Value.int .u32 (x : Nat)) rfl (HO.out.alloc _) ⟨wr.heap.size, 0, none⟩ 1 1 [.int .u32 (d : Nat)] rfl rfl ?c1 ?c2 ?c3 ?c4 ?c5 ?_)
        case c1 => exact (cell_one_new _ _ _)
        case c2 => simp [Value.oneCell']
        case c3 => unfold maxLen; omega
        case c4 => omega
        case c5 => simp; omega
        intro v' w9 hown1 hgrow _
        go_wp2
        refine ⟨⟨i + 1, ds ++ [d], c2, by omega, rfl, by go_num, ST.out, ?_, ?_⟩, by simp [intOf]; omega⟩
        · have h1 := hown1
          simpa [Hid] using h1
        · exact (hB.alloc hBs _).grown hgrow (by simp; omega) (fun k hk => (HO.out.lt k hk).1)
      · skip
        obtain ⟨bx, fx, rfl, hbx, hcellx⟩ := HX.out.1 i hx
        have hcx : wr.cell? ⟨bx, fx + i, none⟩ = some (.int .u32 (xs.getD i 0 : Nat)) := (hB.cell (p := ⟨bx, fx + i, none⟩) hbx).trans hcellx
        obtain ⟨xi, exi⟩ : ∃ xi, xi = xs.getD i 0 := ⟨_, rfl⟩
        have xl : xi < 4294967296 := by rw [exi]; exact getD_lt (by decide) HX.out.2.2.1 i
        rw [← exi] at hcx
        clear hcellx
        have zy : ys.getD i 0 = 0 := by simp [List.getD, List.getElem?_eq_none (by omega : ys.length ≤ i)]
        obtain ⟨s, hs⟩ : ∃ s : Int, s = c + (xi : Int) := ⟨_, rfl⟩
        obtain ⟨d, hd⟩ := Int.eq_ofNat_of_zero_le (show 0 ≤ s % 4294967296 by omega)
        have st := linv_step (s := s) (d := d) HI.out HX.out.2.2.1 HX.out.2.2.2.1 (by rw [← exi, zy, hs]; simp) hd.symm
        obtain ⟨c2, hc2⟩ : ∃ c2, c2 = s / 4294967296 := ⟨_, rfl⟩
        rw [← hc2] at st
        have e1 : IntKind.u32.wrap (IntKind.u64.wrap (c + (xi : Int))) = (d : Int) := by rw [IntKind.wrap_u32, IntKind.wrap_u64]; omega
        have e2 : (c + (xi : Int)) / 4294967296 = c2 := by omega
        have ST := Lib.hid st
        have dl : ds.length ≤ 524289 := by have := HI.out.1; omega
        clear st hs hd hc2 exi zy
        have HO := hown
        clear hown
        go_wp2_with (at_builtin; refine wpList_append_own _ rfl _ _ 92 rfl w2.heap.size 94 i0 (.int .u32 0) 1 4 Try.underlying92 hi0 hz0 hz1 hz2 rfl (by decide) _ ds.length (ds.map fun x => Value.int .u32 (x : Nat)) rfl (HO.out.alloc _) ⟨wr.heap.size, 0, none⟩ 1 1 [.int .u32 (d : Nat)] rfl rfl ?c1 ?c2 ?c3 ?c4 ?c5 ?_)
        case c1 => exact (cell_one_new _ _ _)
        case c2 => simp [Value.oneCell']
        case c3 => unfold maxLen; omega
        case c4 => omega
        case c5 => simp; omega
        intro v' w9 hown1 hgrow _
        go_wp2
        refine ⟨⟨i + 1, ds ++ [d], c2, by omega, rfl, by go_num, ST.out, ?_, ?_⟩, by simp [intOf]; omega⟩
        · have h1 := hown1
          simpa [Hid] using h1
        · exact (hB.alloc hBs _).grown hgrow (by simp; omega) (fun k hk => (HO.out.lt k hk).1)
    · have he : i = xs.length := by omega
      subst he
      obtain ⟨p1, p2⟩ := linv_end HI.out ly (by rw [HX.out.2.2.2.2.1, HX.out.2.2.2.2.2]; exact HA.out.2.2.2.2)
      have P2 := Lib.hid p2
      have dl : ds.length ≤ 524289 := by have := HI.out.1; omega
      have RD := Lib.hid (own_rd hown.out)
      have TK : Hid (Rd .u32 wr (cutv u7 (trimLen ds)) (ds.take (trimLen ds))) := RD.out.cut _ (trimLen_le _)
      have TL : Hid ((∀ x ∈ ds.take (trimLen ds), x < 4294967296) ∧ (ds.take (trimLen ds)).length ≤ 2199023255552) := ⟨fun x hx => P2.out x (List.mem_of_mem_take hx), by simp; omega⟩
      have TV : Hid (lval 4294967296 (ds.take (trimLen ds)) = a - b) := by unfold Hid; rw [lval_trim, p1, HX.out.2.2.2.2.1, HX.out.2.2.2.2.2]
      have CT := Lib.hid (cutd_any u7 ds wr (by omega) RD.out)
      clear hown p1 p2 hx
      generalize ds.take (trimLen ds) = TT at *
      generalize trimLen ds = tn at *
      go_wp2_with (first | (go_at_call 60; (with_reducible refine (CT.out).mono ?_); rintro e w' ⟨rfl, rfl⟩) | (go_at_call 59; (with_reducible refine (whole_far _ TT _ TK.out TL.out.1 TL.out.2).mono ?_); rintro e w10 ⟨u, rfl, hN, hb10, far⟩))
      go_ret
      refine ⟨_, rfl, by rw [← TV.out]; exact hN, ?_, fun b' hb' => far b' (by have h1 := hb1.size; have h2 := hb2.size; omega)⟩
      exact (hb1.trans (hb2.mono hb1.size)).trans ((hB.mono (Nat.le_trans hb1.size hb2.size)).trans (hb10.mono (Nat.le_trans (Nat.le_trans hb1.size hb2.size) hBs)))
theorem nless_any (va vb : Value) (a b : Nat) (w : World) (ha : IsN w va a) (hb : IsN w vb b) (la : a < BIG) (hab : b ≤ a) : Calls Try.prog 47 #[va, vb] w (SomeN w (a - b)) :=
  (nless_far va vb a b w ha hb la hab).mono fun _ _ h => h.some
end Go.Proofs.Ytimmgmhgahbcbaa
namespace Go.Proofs.Ytimmgmhgahbcbaa
open Go.RowKit

theorem len_less {B : Nat} (hB : 0 < B) {xs ys : List Nat} (hx : ∀ x ∈ xs, x < B) (ty : trimLen ys = ys.length) (h : xs.length < ys.length) : lval B xs < lval B ys := by
  rcases Nat.lt_or_ge (lval B xs) (lval B ys) with h1 | h1
  · exact h1
  · have := len_mono hB hx ty h1; omega
theorem top_less {B : Nat} (hB : 0 < B) {xs ys : List Nat} {m : Nat} (hx : ∀ x ∈ xs, x < B) (hl : xs.length = ys.length) (hm : m < xs.length) (hd : xs.drop (m + 1) = ys.drop (m + 1)) (h : xs.getD m 0 < ys.getD m 0) : lval B xs < lval B ys := by
  have e1 := lval_split B xs m (by omega)
  have e2 := lval_split B ys m (by omega)
  have hmy : m < ys.length := by omega
  have d1 : xs.drop m = xs.getD m 0 :: xs.drop (m + 1) := by rw [List.drop_eq_getElem_cons hm]; simp [List.getD, hm]
  have d2 : ys.drop m = ys.getD m 0 :: ys.drop (m + 1) := by rw [List.drop_eq_getElem_cons hmy]; simp [List.getD, hmy]
  rw [d1, hd] at e1
  rw [d2] at e2
  simp only [lval] at e1 e2
  have l1 := lval_lt B hB (xs.take m) (fun x hxm => hx x (List.mem_of_mem_take hxm))
  rw [List.length_take, Nat.min_eq_left (by omega)] at l1
  have m1 := Nat.mul_le_mul_left (B ^ m) (show xs.getD m 0 + B * lval B (ys.drop (m + 1)) + 1 ≤ ys.getD m 0 + B * lval B (ys.drop (m + 1)) by omega)
  rw [Nat.mul_add, Nat.mul_one] at m1
  omega

set_option maxRecDepth 100000 in
set_option maxHeartbeats 8000000 in
/-- NCmp -/
theorem ncmp_any (va vb : Value) (a b : Nat) (w : World) (ha : IsN w va a) (hb : IsN w vb b) (la : a < BIG) (lb : b < BIG) : Calls Try.prog 46 #[va, vb] w fun e w' => e = .returned (.int .i64 (sg a b)) ∧ Below w.heap.size w w' := by
  obtain ⟨xs, rx, x1, x2, x3⟩ := ha
  obtain ⟨ys, ry, y1, y2, y3⟩ := hb
  have lx := len_n x3 (by rw [x2]; exact la)
  have ly := len_n y3 (by rw [y2]; exact lb)
  obtain ⟨ox, cx, rfl, hcx⟩ := rx.form
  obtain ⟨oy, cy, rfl, hcy⟩ := ry.form
  have HX := Lib.hid (And.intro hcx (And.intro hcy (And.intro x1 (And.intro y1 (And.intro x2 y2)))))
  clear la lb
  rcases Nat.lt_trichotomy xs.length ys.length with hl | hl | hl
  · have E := Lib.hid (sg_lt (show (a : Int) < b by have := len_less (by decide) x1 y3 hl; omega))
    have hl' : (xs.length : Int) < ys.length := by omega
    have hn : ((xs.length : Int) == ys.length) = false := by simp; omega
    clear rx ry hcx hcy x1 y1 x2 y2 x3 y3 hl
    go_enter Try.func46, Try.ntmps46
    go_wp2
    go_ret
    exact ⟨by rw [E.out]; rfl, Below.refl _ _⟩
  · obtain ⟨n, hn⟩ : ∃ n, n = ys.length := ⟨_, rfl⟩
    have EQ := Lib.hid hl
    have L : Hid (xs.length = n ∧ ys.length = n) := ⟨by rw [hn]; exact hl, hn.symm⟩
    rw [hl, ← hn] 
    rw [← hn] at ly
    clear rx ry hcx hcy x1 y1 x2 y2 x3 y3 hl lx hn
    go_enter Try.func46, Try.ntmps46
    go_wp2
    go_loopw [5] (fun s5 wr => ∃ z : Int, s5 = .int .i64 z ∧ -1 ≤ z ∧ z < n ∧ Hid (xs.drop (z + 1).toNat = ys.drop (z + 1).toNat) ∧ Below w.heap.size w wr) (fun s5 _ => (intOf s5 + 1).toNat)
    case atStart => exact ⟨_, rfl, by omega, by omega, by unfold Hid; rw [List.drop_eq_nil_of_le (by have := L.out.1; omega), List.drop_eq_nil_of_le (by have := L.out.2; omega)], Below.refl _ _⟩
    case round =>
      obtain ⟨z, rfl, z0, z1, hd, hB⟩ := hrel
      have hBs := hB.size
      by_cases hz : z < 0
      · have E : Hid (sg (a : Int) b = 0) := by
          have e : xs = ys := by have := hd.out; rw [show (z + 1).toNat = 0 by omega] at this; simpa using this
          have : a = b := by rw [← HX.out.2.2.2.2.1, ← HX.out.2.2.2.2.2, e]
          rw [this]; exact sg_eq _
        go_wp2
        go_ret
        exact ⟨by rw [E.out]; rfl, hB⟩
      · obtain ⟨m, rfl⟩ := Int.eq_ofNat_of_zero_le (show 0 ≤ z by omega)
        have hm : m < n := by omega
        obtain ⟨bx, fx, rfl, hbx, hcellx⟩ := HX.out.1 m (by rw [L.out.1]; exact hm)
        obtain ⟨by', fy, rfl, hby, hcelly⟩ := HX.out.2.1 m (by rw [L.out.2]; exact hm)
        have hcx : wr.cell? ⟨bx, fx + m, none⟩ = some (.int .u64 (xs.getD m 0 : Nat)) := (hB.cell (p := ⟨bx, fx + m, none⟩) hbx).trans hcellx
        have hcy : wr.cell? ⟨by', fy + m, none⟩ = some (.int .u64 (ys.getD m 0 : Nat)) := (hB.cell (p := ⟨by', fy + m, none⟩) hby).trans hcelly
        obtain ⟨x, ex⟩ : ∃ x, x = xs.getD m 0 := ⟨_, rfl⟩
        obtain ⟨y, ey⟩ : ∃ y, y = ys.getD m 0 := ⟨_, rfl⟩
        rw [← ex] at hcx
        rw [← ey] at hcy
        clear hcellx hcelly
        have hdm : Hid (xs.drop (m + 1) = ys.drop (m + 1)) := by have := hd.out; rwa [show ((m : Int) + 1).toNat = m + 1 by omega] at this
        have EX := Lib.hid (And.intro ex ey)
        clear ex ey hd
        have hlen : Hid (xs.length = ys.length ∧ m < xs.length) := ⟨by rw [L.out.1, L.out.2], by rw [L.out.1]; exact hm⟩
        rcases Nat.lt_trichotomy x y with h | h | h
        · have E : Hid (sg (a : Int) b = -1) := sg_lt (by have := top_less (by decide) HX.out.2.2.1 hlen.out.1 hlen.out.2 hdm.out (by rw [← EX.out.1, ← EX.out.2]; exact h); rw [HX.out.2.2.2.2.1, HX.out.2.2.2.2.2] at this; omega)
          have h' : (x : Int) < y := by omega
          go_wp2
          go_region_held3 (fun w' => w'.cell? ⟨bx, fx + m, none⟩ = some (.int .u64 (x : Nat)) ∧ w'.cell? ⟨by', fy + m, none⟩ = some (.int .u64 (y : Nat))) (simp [go_sem, *]) (fail)
          go_wp2
          go_ret
          exact ⟨by rw [E.out]; rfl, by repeat (first | assumption | apply Below.drew)⟩
        · subst h
          have hN : Hid (xs.drop m = ys.drop m) := by
            unfold Hid
            have hmx : m < xs.length := hlen.out.2
            have hmy : m < ys.length := by rw [← hlen.out.1]; exact hmx
            rw [List.drop_eq_getElem_cons hmx, List.drop_eq_getElem_cons hmy, hdm.out]
            congr 1
            have e1 := EX.out.1
            have e2 := EX.out.2
            simp only [List.getD, List.getElem?_eq_getElem hlen.out.2, Option.getD_some] at e1
            simp only [List.getD, List.getElem?_eq_getElem (show m < ys.length by rw [← hlen.out.1]; exact hlen.out.2), Option.getD_some] at e2
            rw [← e1, ← e2]
          go_wp2
          go_region_held3 (fun w' => w'.cell? ⟨bx, fx + m, none⟩ = some (.int .u64 (x : Nat)) ∧ w'.cell? ⟨by', fy + m, none⟩ = some (.int .u64 (x : Nat))) (simp [go_sem, *]) (fail)
          go_wp2
          go_region_held3 (fun w' => w'.cell? ⟨bx, fx + m, none⟩ = some (.int .u64 (x : Nat)) ∧ w'.cell? ⟨by', fy + m, none⟩ = some (.int .u64 (x : Nat))) (simp [go_sem, *]) (fail)
          go_wp2
          refine ⟨⟨(m : Int) - 1, rfl, by omega, by omega, ?_, ?_⟩, by simp [intOf]⟩
          · rw [show ((m : Int) - 1 + 1).toNat = m by omega]; exact hN
          · repeat (first | assumption | apply Below.drew)
        · have E : Hid (sg (a : Int) b = 1) := sg_gt (by have := top_less (by decide) HX.out.2.2.2.1 hlen.out.1.symm (by rw [← hlen.out.1]; exact hlen.out.2) hdm.out.symm (by rw [← EX.out.1, ← EX.out.2]; exact h); rw [HX.out.2.2.2.2.1, HX.out.2.2.2.2.2] at this; omega)
          have h' : (y : Int) < x := by omega
          go_wp2
          go_region_held3 (fun w' => w'.cell? ⟨bx, fx + m, none⟩ = some (.int .u64 (x : Nat)) ∧ w'.cell? ⟨by', fy + m, none⟩ = some (.int .u64 (y : Nat))) (simp [go_sem, *]) (fail)
          go_wp2
          go_region_held3 (fun w' => w'.cell? ⟨bx, fx + m, none⟩ = some (.int .u64 (x : Nat)) ∧ w'.cell? ⟨by', fy + m, none⟩ = some (.int .u64 (y : Nat))) (simp [go_sem, *]) (fail)
          go_wp2
          go_ret
          exact ⟨by rw [E.out]; rfl, by repeat (first | assumption | apply Below.drew)⟩
  · have E := Lib.hid (sg_gt (show (b : Int) < a by have := len_less (by decide) y1 x3 hl; omega))
    have hl' : (ys.length : Int) < xs.length := by omega
    have hn : ((xs.length : Int) == ys.length) = false := by simp; omega
    clear rx ry hcx hcy x1 y1 x2 y2 x3 y3 hl
    go_enter Try.func46, Try.ntmps46
    go_wp2
    go_ret
    exact ⟨by rw [E.out]; rfl, Below.refl _ _⟩
end Go.Proofs.Ytimmgmhgahbcbaa
namespace Go.Proofs.Ytimmgmhgahbcbaa
open Go.RowKit

theorem lval_set (B : Nat) : ∀ (es : List Nat) (j v : Nat), j < es.length → lval B (es.set j v) + B ^ j * es.getD j 0 = lval B es + B ^ j * v
  | x :: es, 0, v, _ => by simp [lval]; omega
  | x :: es, j + 1, v, h => by
    have ih := lval_set B es j v (by simpa using h)
    simp only [List.set_cons_succ, lval, List.getD_cons_succ, Nat.pow_succ]
    have e : ∀ z : Nat, B ^ j * B * z = B * (B ^ j * z) := fun z => by rw [Nat.mul_comm (B ^ j) B, Nat.mul_assoc]
    rw [e, e]
    have := congrArg (B * ·) ih
    simp only [Nat.mul_add] at this
    omega
theorem getD_set (es : List Nat) (j m v : Nat) (hj : j < es.length) : (es.set j v).getD m 0 = if m = j then v else es.getD m 0 := by
  simp only [List.getD_eq_getElem?_getD, List.getElem?_set]
  by_cases h : j = m
  · subst h; simp [hj]
  · rw [if_neg h, if_neg (fun e => h e.symm)]
/-- What holds at each round of a product. -/
def OInv (xs ys ds : List Nat) (i : Nat) : Prop := ds.length = xs.length + ys.length ∧ (∀ j, ds.getD j 0 < 4294967296) ∧ (∀ j, i + ys.length ≤ j → ds.getD j 0 = 0) ∧ lval 4294967296 ds = lval 4294967296 (xs.take i) * lval 4294967296 ys
def KInv (xs ys ds es : List Nat) (i k c : Nat) : Prop := es.length = xs.length + ys.length ∧ (∀ j, es.getD j 0 < 4294967296) ∧ (∀ j, i + ys.length ≤ j → es.getD j 0 = 0) ∧ c < 4294967296 ∧
  lval 4294967296 es + 4294967296 ^ (i + k) * c = lval 4294967296 ds + 4294967296 ^ i * xs.getD i 0 * lval 4294967296 (ys.take k)
theorem kinv_start {xs ys ds : List Nat} {i : Nat} (h : OInv xs ys ds i) : KInv xs ys ds ds i 0 0 := ⟨h.1, h.2.1, h.2.2.1, by decide, by simp [lval]⟩
theorem kinv_step {xs ys ds es : List Nat} {i k c t : Nat} (h : KInv xs ys ds es i k c) (hi : i < xs.length) (hk : k < ys.length) (hx : xs.getD i 0 < 4294967296) (hy : ys.getD k 0 < 4294967296) (ht : t = c + es.getD (i + k) 0 + xs.getD i 0 * ys.getD k 0) :
    t < 18446744073709551616 ∧ KInv xs ys ds (es.set (i + k) (t % 4294967296)) i (k + 1) (t / 4294967296) := by
  obtain ⟨h1, h2, h3, h4, h5⟩ := h
  have he := h2 (i + k)
  have hm : xs.getD i 0 * ys.getD k 0 ≤ 4294967295 * 4294967295 := Nat.mul_le_mul (by omega) (by omega)
  have hlt : i + k < es.length := by omega
  refine ⟨by omega, by simp [h1], fun j => ?_, fun j hj => ?_, by omega, ?_⟩
  · rw [getD_set _ _ _ _ hlt]; split
    · omega
    · exact h2 j
  · rw [getD_set _ _ _ _ hlt, if_neg (by omega)]; exact h3 j hj
  · have s := lval_set 4294967296 es (i + k) (t % 4294967296) hlt
    rw [lval_take_succ]
    have e : t % 4294967296 + 4294967296 * (t / 4294967296) = t := Nat.mod_add_div _ _
    rw [show i + (k + 1) = (i + k) + 1 by omega, Nat.pow_succ]
    have e1 : 4294967296 ^ (i + k) * (t % 4294967296) + 4294967296 ^ (i + k) * 4294967296 * (t / 4294967296) = 4294967296 ^ (i + k) * t := by rw [Nat.mul_assoc, ← Nat.mul_add, e]
    have e2 : 4294967296 ^ (i + k) * t = 4294967296 ^ (i + k) * c + 4294967296 ^ (i + k) * es.getD (i + k) 0 + 4294967296 ^ (i + k) * (xs.getD i 0 * ys.getD k 0) := by rw [ht, Nat.mul_add, Nat.mul_add]
    have e3 : 4294967296 ^ (i + k) * (xs.getD i 0 * ys.getD k 0) = 4294967296 ^ i * xs.getD i 0 * (4294967296 ^ k * ys.getD k 0) := by
      rw [Nat.pow_add]; simp only [Nat.mul_assoc, Nat.mul_left_comm]
    rw [Nat.mul_add (4294967296 ^ i * xs.getD i 0)]
    omega
theorem oinv_step {xs ys ds es : List Nat} {i c : Nat} (ho : OInv xs ys ds i) (h : KInv xs ys ds es i ys.length c) (hi : i < xs.length) : OInv xs ys (es.set (i + ys.length) c) (i + 1) := by
  obtain ⟨h1, h2, h3, h4, h5⟩ := h
  obtain ⟨o1, o2, o3, o4⟩ := ho
  have hlt : i + ys.length < es.length := by omega
  refine ⟨by simp [h1], fun j => ?_, fun j hj => ?_, ?_⟩
  · rw [getD_set _ _ _ _ hlt]; split
    · exact h4
    · exact h2 j
  · rw [getD_set _ _ _ _ hlt, if_neg (by omega)]; exact h3 j (by omega)
  · have s := lval_set 4294967296 es (i + ys.length) c hlt
    rw [h3 _ (Nat.le_refl _), Nat.mul_zero, Nat.add_zero] at s
    rw [s, h5, List.take_of_length_le (Nat.le_refl _), o4, lval_take_succ, Nat.add_mul]
theorem oinv_start (xs ys : List Nat) : OInv xs ys (List.replicate (xs.length + ys.length) 0) 0 := by
  have g : ∀ n j, (List.replicate n 0).getD j 0 = 0 := fun n j => by simp only [List.getD_eq_getElem?_getD, List.getElem?_replicate]; split <;> rfl
  have l : ∀ n, lval 4294967296 (List.replicate n 0) = 0 := fun n => by
    induction n with
    | zero => rfl
    | succ n ih => simp [List.replicate_succ, lval, ih]
  refine ⟨by simp, fun j => by rw [g]; decide, fun j _ => g _ _, by rw [l]; simp [lval]⟩

/-- The block g holds the digits es. -/
def CellsAt (W : World) (g : Nat) (es : List Nat) : Prop := g < W.heap.size ∧ ∀ j, j < es.length → W.cell? ⟨g, j, none⟩ = some (.int .u32 (es.getD j 0 : Nat)) ∧ W.frozen? ⟨g, j, none⟩ = false
theorem CellsAt.set {W : World} {g : Nat} {es : List Nat} (h : CellsAt W g es) (j v : Nat) (hj : j < es.length) : CellsAt (W.setCell ⟨g, j, none⟩ (.int .u32 (v : Nat))) g (es.set j v) := by
  refine ⟨by simpa [World.setCell] using h.1, fun m hm => ?_⟩
  rw [List.length_set] at hm
  obtain ⟨h1, h2⟩ := h.2 m hm
  refine ⟨?_, by rw [World.frozen?_setCell]; exact h2⟩
  rw [getD_set _ _ _ _ hj]
  by_cases e : m = j
  · subst e; rw [if_pos rfl]; simp [go_sem, h1]
  · rw [if_neg e]
    have : ¬ j = m := fun h => e h.symm
    simp [go_sem, h1]
theorem CellsAt.drew {W : World} {g : Nat} {es : List Nat} (h : CellsAt W g es) : CellsAt W.drew g es := h
theorem CellsAt.rd {W : World} {g cap : Nat} {es : List Nat} (h : CellsAt W g es) (hc : es.length ≤ cap) : Rd .u32 W (.slice (some ⟨g, 0, none⟩) es.length cap) es :=
  .inr ⟨g, 0, cap, rfl, hc, h.1, fun i hi => by rw [Nat.zero_add]; exact (h.2 i hi).1⟩
theorem cells_made (w : World) (n : Nat) : CellsAt (w.alloc (.cells (madeCells #[.int .u32 0] n) 94)) w.heap.size (List.replicate n 0) := by
  refine ⟨by simp, fun j hj => ?_⟩
  simp at hj
  have g : (List.replicate n 0).getD j 0 = 0 := by simp only [List.getD_eq_getElem?_getD, List.getElem?_replicate]; split <;> rfl
  rw [g]
  refine ⟨?_, by simp [go_sem]⟩
  rw [World.cell?_alloc_new]
  simp [madeCells, hj, Nat.mod_one]

set_option maxRecDepth 100000 in
set_option maxHeartbeats 8000000 in
/-- NTimes -/
theorem ntimes_any (va vb : Value) (a b : Nat) (w : World) (ha : IsN w va a) (hb : IsN w vb b) (la : a < BIG) (lb : b < BIG) : Calls Try.prog 48 #[va, vb] w (SomeN w (a * b)) := by
  obtain ⟨i0, hi0, hz0, hz1, hz2⟩ := info_parts info32
  have HA := Lib.hid (And.intro ha (And.intro hb (And.intro la lb)))
  clear ha hb la lb
  have hmk : Hid (∀ (n : Nat) (W : World), n ≤ 1048578 → (Instr.makeSlice 92 (.int .i64 (n : Int)) (.int .i64 (n : Int))).run Try.prog W = .ok (.slice (some ⟨W.heap.size, 0, none⟩) n n) (W.alloc (.cells (madeCells #[.int .u32 0] n) 94))) := by
    intro n W hn
    have := run_make (w := W) 92 94 i0 (.int .u32 0) Try.underlying92 hi0 hz0 .i64 .i64 n n (by omega) (by omega) (by rw [hz2]; omega) (by omega)
    rw [this, hz1]; simp [Value.cells]
  go_enter Try.func48, Try.ntmps48
  go_upto_region 3 with (first | (go_at_call 58; (with_reducible refine (halves_num va a _ HA.out.1 HA.out.2.2.1).mono ?_); rintro e w1 ⟨vx, rfl, hvx, hb1⟩) | (go_at_call 58; (with_reducible refine (halves_num vb b _ (HA.out.2.1.below hb1) HA.out.2.2.2).mono ?_); rintro e w2 ⟨vy, rfl, hvy, hb2⟩))
  obtain ⟨xs, rx, x1, x2, x3⟩ := hvx.below hb2
  obtain ⟨ys, ry, y1, y2, y3⟩ := hvy
  have lx := len_d x3 (by rw [x2]; exact HA.out.2.2.1)
  have ly := len_d y3 (by rw [y2]; exact HA.out.2.2.2)
  obtain ⟨ox, cx, rfl, hcx⟩ := rx.form
  obtain ⟨oy, cy, rfl, hcy⟩ := ry.form
  have HX := Lib.hid (And.intro hcx (And.intro hcy (And.intro x1 (And.intro y1 (And.intro x2 y2)))))
  clear rx ry hcx hcy x1 y1 x2 y2 x3 y3 hvx
  have mk := hmk.out (xs.length + ys.length) w2 (by omega)
  simp only [Int.natCast_add] at mk
  go_wp2
  obtain ⟨nx, hnx⟩ : ∃ n, n = xs.length := ⟨_, rfl⟩
  obtain ⟨ny, hny⟩ : ∃ n, n = ys.length := ⟨_, rfl⟩
  have NX := Lib.hid (And.intro hnx hny)
  rw [← hnx] at lx
  rw [← hny] at ly
  rw [← hnx, ← hny]
  have hC0 : Hid (CellsAt (w2.alloc (.cells (madeCells #[.int .u32 0] (nx + ny)) 94)) w2.heap.size (List.replicate (nx + ny) 0)) := cells_made _ _
  have hO0 : Hid (OInv xs ys (List.replicate (nx + ny) 0) 0) := by rw [hnx, hny]; exact oinv_start xs ys
  clear hnx hny mk
  go_loopw [8] (fun s8 wr => ∃ (i : Nat) (ds : List Nat), i ≤ nx ∧ s8 = .int .i64 i ∧ Hid (OInv xs ys ds i) ∧ Hid (CellsAt wr w2.heap.size ds) ∧ Below w2.heap.size w2 wr) (fun s8 _ => nx - (intOf s8).toNat)
  case atStart => exact ⟨0, _, Nat.zero_le _, rfl, hO0, hC0, (Below.refl _ _).alloc (Nat.le_refl _) _⟩
  case round =>
    obtain ⟨i, ds, hi, rfl, HO, HC, hB⟩ := hrel
    obtain ⟨wo, hwo⟩ : ∃ wo : World, wo = wr := ⟨_, rfl⟩
    subst hwo
    by_cases hlt : i < nx
    · go_wp2
      go_loopw [9, 10] (fun s9 s10 wi => ∃ (k c : Nat) (es : List Nat), k ≤ ny ∧ s9 = .int .u64 c ∧ s10 = .int .i64 k ∧ Hid (KInv xs ys ds es i k c) ∧ Hid (CellsAt wi w2.heap.size es) ∧ Below w2.heap.size w2 wi) (fun _ s10 _ => ny - (intOf s10).toNat)
      case atStart => exact ⟨0, 0, ds, Nat.zero_le _, rfl, rfl, kinv_start HO.out, HC, hB⟩
      case round =>
        obtain ⟨k, c, es, hk, rfl, rfl, HK, HE, hBi⟩ := hrel
        by_cases hkl : k < ny
        · skip
          have hix : i < xs.length := by rw [← NX.out.1]; exact hlt
          have hky : k < ys.length := by rw [← NX.out.2]; exact hkl
          obtain ⟨bx, fx, rfl, hbx, hcellx⟩ := HX.out.1 i hix
          obtain ⟨by', fy, rfl, hby, hcelly⟩ := HX.out.2.1 k hky
          have hcx : wr.cell? ⟨bx, fx + i, none⟩ = some (.int .u32 (xs.getD i 0 : Nat)) := (hBi.cell (p := ⟨bx, fx + i, none⟩) hbx).trans hcellx
          have hcy : wr.cell? ⟨by', fy + k, none⟩ = some (.int .u32 (ys.getD k 0 : Nat)) := (hBi.cell (p := ⟨by', fy + k, none⟩) hby).trans hcelly
          have hlen : i + k < es.length := by have := HK.out.1; omega
          obtain ⟨hce, hfe⟩ := HE.out.2 (i + k) hlen
          have gx := getD_lt (by decide) HX.out.2.2.1 i
          have gy := getD_lt (by decide) HX.out.2.2.2.1 k
          have ge := HK.out.2.1 (i + k)
          have hc4 := HK.out.2.2.2.1
          obtain ⟨t, ht⟩ : ∃ t, t = c + es.getD (i + k) 0 + xs.getD i 0 * ys.getD k 0 := ⟨_, rfl⟩
          obtain ⟨t1, st⟩ := kinv_step HK.out hix hky gx gy ht
          obtain ⟨d, hd⟩ : ∃ d, d = t % 4294967296 := ⟨_, rfl⟩
          obtain ⟨c2, hc2⟩ : ∃ c2, c2 = t / 4294967296 := ⟨_, rfl⟩
          rw [← hd, ← hc2] at st
          have hm : xs.getD i 0 * ys.getD k 0 ≤ 4294967295 * 4294967295 := Nat.mul_le_mul (by omega) (by omega)
          have hS := HE.out.set (i + k) d hlen
          obtain ⟨x, ex⟩ : ∃ x, x = xs.getD i 0 := ⟨_, rfl⟩
          obtain ⟨y, ey⟩ : ∃ y, y = ys.getD k 0 := ⟨_, rfl⟩
          obtain ⟨z, ez⟩ : ∃ z, z = es.getD (i + k) 0 := ⟨_, rfl⟩
          rw [← ex] at hcx ht gx hm
          rw [← ey] at hcy ht gy hm
          rw [← ez] at hce ht ge
          obtain ⟨m, em⟩ : ∃ m, m = x * y := ⟨_, rfl⟩
          have emI : (x : Int) * (y : Int) = (m : Int) := by rw [em, Int.natCast_mul]
          rw [← em] at ht hm
          have w1 : IntKind.u64.wrap ((c : Int) + (z : Int)) = (c : Int) + (z : Int) := by rw [IntKind.wrap_u64]; omega
          have w2' : IntKind.u64.wrap (m : Int) = (m : Int) := by rw [IntKind.wrap_u64]; omega
          have w3 : IntKind.u64.wrap ((c : Int) + (z : Int) + (m : Int)) = (t : Int) := by rw [IntKind.wrap_u64]; omega
          have w4 : IntKind.i64.wrap ((i : Int) + (k : Int)) = (i : Int) + (k : Int) := IntWalk.i64_in _ ⟨by omega, by omega⟩
          have w5 : ((i : Int) + (k : Int)).toNat = i + k := by omega
          have w6 : (0 : Int) ≤ (i : Int) + (k : Int) := by omega
          have w7 : (i : Int) + (k : Int) < (nx : Int) + (ny : Int) := by omega
          have v1 : IntKind.u32.wrap (t : Int) = (d : Int) := by rw [IntKind.wrap_u32]; omega
          have v2 : (t : Int) / 4294967296 = (c2 : Int) := by omega
          have ST := Lib.hid (And.intro st hS)
          have WW : Hid (IntKind.u64.wrap ((x : Int) * (y : Int)) = (m : Int) ∧ IntKind.u64.wrap (m : Int) = (m : Int) ∧ IntKind.u64.wrap ((c : Int) + (z : Int) + (m : Int)) = (t : Int) ∧ (t : Int) % 4294967296 = (d : Int) ∧ (t : Int) / 4294967296 = (c2 : Int)) := ⟨by rw [emI]; exact w2', w2', w3, by omega, v2⟩
          clear st hS ht hd hc2 ex ey ez em hcellx hcelly hm t1
          go_wp2
          go_region_held3 (fun w' => w'.cell? ⟨bx, fx + i, none⟩ = some (.int .u32 (x : Nat)) ∧ w'.cell? ⟨by', fy + k, none⟩ = some (.int .u32 (y : Nat)) ∧ w'.cell? ⟨w2.heap.size, i + k, none⟩ = some (.int .u32 (z : Nat))) (simp [go_sem, *]) (fail)
          clear w1 w2' w3 w4 w5
          go_wp2
          simp only [WW.out.1, WW.out.2.1, WW.out.2.2.1, WW.out.2.2.2.1, WW.out.2.2.2.2]
          refine ⟨⟨k + 1, c2, es.set (i + k) d, by omega, rfl, by go_num, ST.out.1, ST.out.2.drew, ?_⟩, by simp [intOf]; omega⟩
          repeat (first | assumption | exact hBi | apply Below.drew | refine Below.setCell ?_ (by first | omega | (simp; done) | (simp; omega)) _)
        · have hk2 : k = ny := by omega
          subst hk2
          have hix : i < xs.length := by rw [← NX.out.1]; exact hlt
          have hlen : i + k < es.length := by have := HK.out.1; rw [← NX.out.1, ← NX.out.2] at this; omega
          obtain ⟨hce, hfe⟩ := HE.out.2 (i + k) hlen
          have hc4 := HK.out.2.2.2.1
          have st := oinv_step HO.out (by have := HK.out; rw [NX.out.2] at this; exact this) hix
          rw [← NX.out.2] at st
          have hS := HE.out.set (i + k) c hlen
          have v1 : IntKind.u32.wrap (c : Int) = (c : Int) := by rw [IntKind.wrap_u32]; omega
          have ST := Lib.hid (And.intro st hS)
          have w6 : (0 : Int) ≤ (i : Int) + (k : Int) := by omega
          have w7 : (i : Int) + (k : Int) < (nx : Int) + (k : Int) := by omega
          clear st hS
          go_wp2
          refine ⟨⟨i + 1, es.set (i + k) c, by omega, by go_num, ST.out.1, ST.out.2, ?_⟩, by simp [intOf]; omega⟩
          repeat (first | assumption | exact hBi | apply Below.drew | refine Below.setCell ?_ (by first | omega | (simp; done) | (simp; omega)) _)
    · have he : i = nx := by omega
      subst he
      obtain ⟨o1, o2, o3, o4⟩ := HO.out
      rw [NX.out.1, List.take_of_length_le (Nat.le_refl _)] at o4
      have dl : ds.length = i + ny := by rw [o1, ← NX.out.1, ← NX.out.2]
      have lt2 : ∀ x ∈ ds, x < 4294967296 := fun x hx => by
        obtain ⟨j, hj, rfl⟩ := List.mem_iff_getElem.1 hx
        have := o2 j
        simpa [List.getD, hj] using this
      have RD : Hid (Rd .u32 wo (.slice (some ⟨w2.heap.size, 0, none⟩) (i + ny) (i + ny)) ds) := by rw [← dl]; exact HC.out.rd (Nat.le_refl _)
      have TK : Hid (Rd .u32 wo (cutv (.slice (some ⟨w2.heap.size, 0, none⟩) (i + ny) (i + ny)) (trimLen ds)) (ds.take (trimLen ds))) := RD.out.cut _ (trimLen_le _)
      have TL : Hid ((∀ x ∈ ds.take (trimLen ds), x < 4294967296) ∧ (ds.take (trimLen ds)).length ≤ 2199023255552) := ⟨fun x hx => lt2 x (List.mem_of_mem_take hx), by simp; omega⟩
      have TV : Hid (lval 4294967296 (ds.take (trimLen ds)) = a * b) := by unfold Hid; rw [lval_trim, o4, HX.out.2.2.2.2.1, HX.out.2.2.2.2.2]
      have CT := Lib.hid (cutd_any _ ds wo (by omega) RD.out)
      have hBs := hB.size
      clear o1 o2 o3 o4 dl lt2 hlt
      generalize ds.take (trimLen ds) = TT at *
      generalize trimLen ds = tn at *
      go_wp2_with (first | (go_at_call 60; (with_reducible refine (CT.out).mono ?_); rintro e w' ⟨rfl, rfl⟩) | (go_at_call 59; (with_reducible refine (whole_num _ TT _ TK.out TL.out.1 TL.out.2).mono ?_); rintro e w10 ⟨u, rfl, hN, hb10⟩))
      go_ret
      refine ⟨_, rfl, by rw [← TV.out]; exact hN, ?_⟩
      exact (hb1.trans (hb2.mono hb1.size)).trans ((hB.mono (Nat.le_trans hb1.size hb2.size)).trans (hb10.mono (Nat.le_trans (Nat.le_trans hb1.size hb2.size) hBs)))
end Go.Proofs.Ytimmgmhgahbcbaa
