/-
  Decimal digits: of a number in two parts, and the lowest first.
  Lists of limbs: their trailing noughts, their value; what a slice of limbs reads as.
  The references' whole numbers: noughts on top are cut; a word as a number.
  The references' whole numbers: limbs of 64 bits in digits of 32, and back.
-/
import Derived.Lib.ItoaNum
import Derived.WalkKit
import Derived.WalkSpells
import Derived.Lib.Hide
import Derived.LoopTactic
import Derived.OwnWalk
import Derived.Laws.AppendOwn
import Derived.Deep.RegionHeld3
import Derived.Deep.AppendLies
import Derived.Test.YteplhlmdaabpaaaGreatDoorM01
namespace Go.Proofs.YteplhlmdaabpaaaGreatDoor
open Go.Lib

/-- A digit's byte. -/
def dg8 (d : Nat) : UInt8 := UInt8.ofNat (48 + d)
/-- The last k digits, the highest first. -/
def padD : Nat → Nat → List UInt8
  | 0, _ => []
  | k + 1, l => padD k (l / 10) ++ [dg8 (l % 10)]
/-- The last k digits, the lowest first. -/
def digs : Nat → Nat → List UInt8
  | 0, _ => []
  | k + 1, l => dg8 (l % 10) :: digs k (l / 10)
theorem dec_small {u : Nat} (h : u < 10) : decDigits u = [dg8 u] := by rw [decDigits, dif_pos h]; rfl
theorem dec_big {u : Nat} (h : ¬ u < 10) : decDigits u = decDigits (u / 10) ++ [dg8 (u % 10)] := by rw [decDigits, dif_neg h]; rfl
theorem dec_split : ∀ (k h l : Nat), 0 < h → l < 10 ^ k → decDigits (h * 10 ^ k + l) = decDigits h ++ padD k l
  | 0, h, l, _, hl => by
    have : l = 0 := by simpa using hl
    subst this
    simp [padD]
  | k + 1, h, l, h0, hl => by
    have e : h * 10 ^ (k + 1) + l = 10 * (h * 10 ^ k) + l := by rw [Nat.pow_succ, ← Nat.mul_assoc]; omega
    have p := Nat.mul_le_mul h0 (Nat.one_le_pow k 10 (by decide))
    rw [Nat.pow_succ] at hl
    rw [e, dec_big (by omega), show (10 * (h * 10 ^ k) + l) / 10 = h * 10 ^ k + l / 10 by omega, show (10 * (h * 10 ^ k) + l) % 10 = l % 10 by omega, dec_split k h (l / 10) h0 (by omega), padD, List.append_assoc]
theorem pad_zero : ∀ k, padD k 0 = List.replicate k 48
  | 0 => rfl
  | k + 1 => by rw [padD, show 0 / 10 = 0 from rfl, pad_zero k, List.replicate_succ']; rfl
theorem dec_len (u : Nat) : (decDigits u).length = nDigits u := decDigits_length u
theorem dec_pos (u : Nat) : 0 < (decDigits u).length := by
  by_cases h : u < 10
  · rw [dec_small h]; exact Nat.zero_lt_one
  · rw [dec_big h]; simp
theorem pad_dec : ∀ (k l : Nat), 0 < k → l < 10 ^ k → (decDigits l).length ≤ k ∧ padD k l = List.replicate (k - (decDigits l).length) 48 ++ decDigits l
  | 0, _, h, _ => absurd h (by decide)
  | k + 1, l, _, hl => by
    by_cases h : l < 10
    · rw [dec_small h, padD, show l / 10 = 0 by omega, pad_zero, show l % 10 = l by omega]
      simp
    · have hk : 0 < k := by
        rcases Nat.eq_zero_or_pos k with g | g
        · subst g; simp at hl; omega
        · exact g
      rw [Nat.pow_succ] at hl
      obtain ⟨a, b⟩ := pad_dec k (l / 10) hk (by omega)
      rw [dec_big h, padD, b]
      simp only [List.length_append, List.length_singleton]
      exact ⟨by omega, by rw [show k + 1 - ((decDigits (l / 10)).length + 1) = k - (decDigits (l / 10)).length by omega, List.append_assoc]⟩
theorem digs_len : ∀ k l, (digs k l).length = k
  | 0, _ => rfl
  | k + 1, l => by rw [digs, List.length_cons, digs_len k]
theorem digs_add : ∀ (k m l : Nat), digs (k + m) l = digs k l ++ digs m (l / 10 ^ k)
  | 0, m, l => by simp [digs]
  | k + 1, m, l => by rw [show k + 1 + m = (k + m) + 1 by omega, digs, digs_add k m, digs, Nat.pow_succ, Nat.div_div_eq_div_mul, Nat.mul_comm 10]; rfl
theorem digs_pad : ∀ k l, (digs k l).reverse = padD k l
  | 0, _ => rfl
  | k + 1, l => by rw [digs, List.reverse_cons, digs_pad k, padD]
theorem dg8_ne {d : Nat} (h0 : 0 < d) (h : d < 10) : dg8 d ≠ 48 := by
  unfold dg8
  intro e
  have := congrArg UInt8.toNat e
  simp at this
  omega
theorem dg8_nat {d : Nat} (h : d < 10) : (dg8 d).toNat = 48 + d := by
  unfold dg8
  simp
  omega
/-- No number above 0 begins with a nought. -/
theorem dec_head : ∀ (n : Nat), 0 < n → (decDigits n).head? ≠ some 48 := by
  intro n
  induction n using Nat.strongRecOn with
  | _ n ih =>
    intro h0
    by_cases h : n < 10
    · rw [dec_small h]
      simp only [List.head?_cons, ne_eq, Option.some.injEq]
      exact dg8_ne h0 h
    · rw [dec_big h]
      have := ih (n / 10) (by omega) (by omega)
      have p := dec_pos (n / 10)
      cases hd : decDigits (n / 10) with
      | nil => rw [hd] at p; exact absurd p (by decide)
      | cons a t => rw [hd] at this; simpa using this
theorem digs_snoc (k l : Nat) : digs (k + 1) l = digs k l ++ [dg8 (l / 10 ^ k % 10)] := by
  rw [digs_add k 1 l]; rfl
theorem digs_mod : ∀ (k l : Nat), digs k (l % 10 ^ k) = digs k l
  | 0, _ => rfl
  | k + 1, l => by
    have h1 : l % 10 ^ (k + 1) % 10 = l % 10 := by rw [Nat.pow_succ, Nat.mul_comm, Nat.mod_mul_right_mod]
    have h2 : l % 10 ^ (k + 1) / 10 = l / 10 % 10 ^ k := by rw [Nat.pow_succ, Nat.mul_comm, Nat.mod_mul_right_div_self]
    rw [digs, digs, h1, h2, digs_mod k]
theorem digs_next (j n : Nat) : digs (9 * (j + 1)) n = digs (9 * j) n ++ digs 9 (n / 10 ^ (9 * j) % 1000000000) := by
  rw [show 9 * (j + 1) = 9 * j + 9 by omega, digs_add]
  congr 1
  exact (digs_mod 9 _).symm
theorem quo_next (j n : Nat) : n / 10 ^ (9 * j) / 1000000000 = n / 10 ^ (9 * (j + 1)) := by
  rw [Nat.div_div_eq_div_mul, show 9 * (j + 1) = 9 * j + 9 by omega, Nat.pow_add]
/-- All digits, the lowest first: those of the numeral, then noughts. -/
theorem digs_dec {K n : Nat} (hK : 0 < K) (h : n < 10 ^ K) : (decDigits n).length ≤ K ∧ digs K n = (decDigits n).reverse ++ List.replicate (K - (decDigits n).length) 48 := by
  obtain ⟨a, b⟩ := pad_dec K n hK h
  refine ⟨a, ?_⟩
  have := congrArg List.reverse (digs_pad K n)
  rw [List.reverse_reverse, b, List.reverse_append, List.reverse_replicate] at this
  exact this
/-- The byte at i of all digits. -/
def dgAt (K n i : Nat) : UInt8 := (digs K n).getD i 0
theorem dgAt_high {K n i : Nat} (hK : 0 < K) (h : n < 10 ^ K) (h1 : (decDigits n).length ≤ i) (h2 : i < K) : dgAt K n i = 48 := by
  obtain ⟨a, b⟩ := digs_dec hK h
  unfold dgAt
  rw [b, List.getD_eq_getElem?_getD, List.getElem?_append_right (by simpa using h1), List.getElem?_replicate, if_pos (by simp; omega)]
  rfl
theorem dgAt_low {K n i : Nat} (hK : 0 < K) (h : n < 10 ^ K) (h1 : i < (decDigits n).length) : dgAt K n i = (decDigits n).getD ((decDigits n).length - 1 - i) 0 := by
  obtain ⟨a, b⟩ := digs_dec hK h
  unfold dgAt
  rw [b, List.getD_eq_getElem?_getD, List.getElem?_append_left (by simpa using h1), List.getElem?_reverse h1, List.getD_eq_getElem?_getD]
theorem dgAt_first {K n : Nat} (hK : 0 < K) (h : n < 10 ^ K) (h0 : 0 < n) : dgAt K n ((decDigits n).length - 1) ≠ 48 := by
  have p := dec_pos n
  rw [dgAt_low hK h (by omega), show (decDigits n).length - 1 - ((decDigits n).length - 1) = 0 by omega]
  have hd := dec_head n h0
  cases hl : decDigits n with
  | nil => rw [hl] at p; exact absurd p (by decide)
  | cons a t => rw [hl] at hd; simpa using hd
end Go.Proofs.YteplhlmdaabpaaaGreatDoor
namespace Go.Proofs.YteplhlmdaabpaaaGreatDoor
open Go.RowKit

/-- How many limbs are left without noughts on top. -/
def trimLen : List Nat → Nat
  | [] => 0
  | x :: ls => if trimLen ls = 0 then (if x = 0 then 0 else 1) else trimLen ls + 1
theorem trimLen_le : ∀ ls : List Nat, trimLen ls ≤ ls.length
  | [] => Nat.le_refl _
  | x :: ls => by
    have := trimLen_le ls
    simp only [trimLen, List.length_cons]
    split
    · split <;> omega
    · omega
theorem trimLen_is : ∀ (ls : List Nat) (k : Nat), k ≤ ls.length → (∀ i, k ≤ i → ls.getD i 0 = 0) → (k = 0 ∨ ls.getD (k - 1) 0 ≠ 0) → trimLen ls = k
  | [], k, h, _, _ => by simp at h; simp [trimLen, h]
  | x :: ls, 0, _, hz, _ => by
    have ih := trimLen_is ls 0 (Nat.zero_le _) (fun i _ => by have := hz (i + 1) (Nat.zero_le _); simpa using this) (.inl rfl)
    have hx : x = 0 := by have := hz 0 (Nat.le_refl _); simpa using this
    simp [trimLen, ih, hx]
  | x :: ls, 1, _, hz, hn => by
    have ih := trimLen_is ls 0 (Nat.zero_le _) (fun i _ => by have := hz (i + 1) (by omega); simpa using this) (.inl rfl)
    have hx : x ≠ 0 := by rcases hn with h | h
                          · omega
                          · simpa using h
    simp [trimLen, ih, hx]
  | x :: ls, k + 2, h, hz, hn => by
    have ih := trimLen_is ls (k + 1) (by simp at h; omega) (fun i hi => by have := hz (i + 1) (by omega); simpa using this) (.inr (by
      rcases hn with h' | h'
      · omega
      · simpa using h'))
    simp [trimLen, ih]
/-- The value of limbs, the lowest first. -/
def lval (B : Nat) : List Nat → Nat
  | [] => 0
  | x :: ls => x + B * lval B ls
theorem lval_trim (B : Nat) : ∀ ls : List Nat, lval B (ls.take (trimLen ls)) = lval B ls
  | [] => rfl
  | x :: ls => by
    have ih := lval_trim B ls
    simp only [trimLen]
    split
    · rename_i h0
      rw [h0] at ih
      simp only [List.take_zero, lval] at ih
      split
      · rename_i hx; simp [lval, hx, ← ih]
      · simp [lval, ← ih]
    · simp [lval, ih]
theorem trim_last : ∀ ls : List Nat, trimLen ls = 0 ∨ ls.getD (trimLen ls - 1) 0 ≠ 0
  | [] => .inl rfl
  | x :: ls => by
    simp only [trimLen]
    split
    · split
      · exact .inl rfl
      · rename_i h; exact .inr (by simpa using h)
    · rename_i h0
      rcases trim_last ls with h | h
      · exact absurd h h0
      · right
        obtain ⟨m, hm⟩ : ∃ m, trimLen ls = m + 1 := ⟨trimLen ls - 1, by omega⟩
        rw [hm] at h ⊢
        simpa using h

/-- What a slice of whole numbers of kind k reads as. -/
def Rd (k : IntKind) (w : World) (v : Value) (ls : List Nat) : Prop :=
  (v = .slice none 0 0 ∧ ls = []) ∨ ∃ b off cap, v = .slice (some ⟨b, off, none⟩) ls.length cap ∧ ls.length ≤ cap ∧ b < w.heap.size ∧ ∀ i, i < ls.length → w.cell? ⟨b, off + i, none⟩ = some (.int k (ls.getD i 0 : Nat))
theorem Rd.below {k : IntKind} {w w' : World} {v : Value} {ls : List Nat} (h : Rd k w v ls) (hb : Below w.heap.size w w') : Rd k w' v ls := by
  rcases h with h | ⟨b, off, cap, e, hc, hl, h⟩
  · exact .inl h
  · exact .inr ⟨b, off, cap, e, hc, Nat.lt_of_lt_of_le hl hb.size, fun i hi => (hb.cell (p := ⟨b, off + i, none⟩) hl).trans (h i hi)⟩
theorem Rd.take {k : IntKind} {w : World} {b off cap : Nat} {ls : List Nat} (hc : ls.length ≤ cap) (hl : b < w.heap.size) (h : ∀ i, i < ls.length → w.cell? ⟨b, off + i, none⟩ = some (.int k (ls.getD i 0 : Nat))) (n : Nat) (hn : n ≤ ls.length) :
    Rd k w (.slice (some ⟨b, off, none⟩) n cap) (ls.take n) := by
  refine .inr ⟨b, off, cap, by simp [Nat.min_eq_left hn], by simp; omega, hl, fun i hi => ?_⟩
  simp at hi
  have : (ls.take n).getD i 0 = ls.getD i 0 := by simp only [List.getD_eq_getElem?_getD, List.getElem?_take]; rw [if_pos (by omega)]
  rw [this]
  exact h i (by omega)
/-- Where a slice is cut back to n of its elements. -/
def cutv : Value → Nat → Value
  | .slice none _ _, _ => .slice none 0 0
  | .slice (some a) _ c, n => .slice (some a) n c
  | v, _ => v
theorem Rd.cut {k : IntKind} {w : World} {v : Value} {ls : List Nat} (h : Rd k w v ls) (n : Nat) (hn : n ≤ ls.length) : Rd k w (cutv v n) (ls.take n) := by
  rcases h with ⟨rfl, rfl⟩ | ⟨b, off, cap, rfl, hc, hl, h⟩
  · exact .inl ⟨rfl, by simp⟩
  · exact Rd.take hc hl h n hn
end Go.Proofs.YteplhlmdaabpaaaGreatDoor
namespace Go.Proofs.YteplhlmdaabpaaaGreatDoor
open Go.RowKit

set_option maxHeartbeats 2000000 in
/-- ratchet/ratchetref90.NTrim -/
theorem trim_at (b off cap : Nat) (ls : List Nat) (w : World) (_hc : ls.length ≤ cap) (_hm : ls.length ≤ 4611686018427387904) (h : ∀ i, i < ls.length → w.cell? ⟨b, off + i, none⟩ = some (.int .u64 (ls.getD i 0 : Nat))) :
    Calls Tryz.prog 65 #[.slice (some ⟨b, off, none⟩) ls.length cap] w fun e w' => e = .returned (.slice (some ⟨b, off, none⟩) (trimLen ls) cap) ∧ w = w' := by
  have H := Lib.hid h
  clear h
  go_enter Tryz.func65, Tryz.ntmps65
  go_wp2
  go_loop [3] (fun s3 => ∃ j : Nat, j ≤ ls.length ∧ s3 = .int .i64 j ∧ Hid (∀ i, j ≤ i → ls.getD i 0 = 0)) (fun s3 => (intOf s3).toNat)
  case atStart => exact ⟨ls.length, Nat.le_refl _, rfl, fun i hi => by simp [List.getD, List.getElem?_eq_none hi]⟩
  case round =>
    obtain ⟨j, hj, rfl, hz⟩ := hrel
    by_cases h0 : j = 0
    · subst h0
      have E := Lib.hid (trimLen_is ls 0 hj hz.out (.inl rfl))
      go_wp2
      go_ret
      exact ⟨by rw [E.out]; rfl, rfl⟩
    · obtain ⟨m, rfl⟩ : ∃ m, j = m + 1 := ⟨j - 1, by omega⟩
      have hcell : w.cell? ⟨b, off + m, none⟩ = some (.int .u64 (ls.getD m 0 : Nat)) := H.out m (by omega)
      obtain ⟨x, ex⟩ : ∃ x, x = ls.getD m 0 := ⟨_, rfl⟩
      rw [← ex] at hcell
      have EX := Lib.hid ex
      clear ex
      by_cases hx : x = 0
      · subst hx
        simp only [Int.natCast_zero] at hcell
        go_wp2
        refine ⟨⟨m, by omega, rfl, fun i hi => ?_⟩, by simp [intOf]⟩
        rcases Nat.lt_or_eq_of_le hi with h1 | h1
        · exact hz.out i h1
        · subst h1; exact EX.out.symm
      · have hx' : ((x : Int) == 0) = false := by simpa using hx
        have E := Lib.hid (trimLen_is ls (m + 1) hj hz.out (.inr (by rw [Nat.add_sub_cancel, ← EX.out]; exact hx)))
        clear hx h0
        go_wp2
        go_ret
        exact ⟨by rw [E.out]; rfl, rfl⟩
set_option maxHeartbeats 2000000 in
theorem trim_nil (w : World) : Calls Tryz.prog 65 #[.slice none 0 0] w fun e w' => e = .returned (.slice none 0 0) ∧ w = w' := by
  go_enter Tryz.func65, Tryz.ntmps65
  go_wp2
  go_loop [3] (fun s3 => s3 = .int .i64 0) (fun _ => 0)
  case atStart => rfl
  case round =>
    subst hrel
    go_wp2
    go_ret
    exact ⟨rfl, rfl⟩
theorem trim_any (v : Value) (ls : List Nat) (w : World) (hm : ls.length ≤ 4611686018427387904) (h : Rd .u64 w v ls) :
    Calls Tryz.prog 65 #[v] w fun e w' => e = .returned (cutv v (trimLen ls)) ∧ w = w' := by
  rcases h with ⟨rfl, rfl⟩ | ⟨b, off, cap, rfl, hc, _, h⟩
  · exact trim_nil w
  · exact trim_at b off cap ls w hc hm h

set_option maxHeartbeats 2000000 in
/-- ratchet/ratchetref90.cut -/
theorem cutd_at (b off cap : Nat) (ls : List Nat) (w : World) (_hc : ls.length ≤ cap) (_hm : ls.length ≤ 4611686018427387904) (h : ∀ i, i < ls.length → w.cell? ⟨b, off + i, none⟩ = some (.int .u32 (ls.getD i 0 : Nat))) :
    Calls Tryz.prog 69 #[.slice (some ⟨b, off, none⟩) ls.length cap] w fun e w' => e = .returned (.slice (some ⟨b, off, none⟩) (trimLen ls) cap) ∧ w = w' := by
  have H := Lib.hid h
  clear h
  go_enter Tryz.func69, Tryz.ntmps69
  go_wp2
  go_loop [3] (fun s3 => ∃ j : Nat, j ≤ ls.length ∧ s3 = .int .i64 j ∧ Hid (∀ i, j ≤ i → ls.getD i 0 = 0)) (fun s3 => (intOf s3).toNat)
  case atStart => exact ⟨ls.length, Nat.le_refl _, rfl, fun i hi => by simp [List.getD, List.getElem?_eq_none hi]⟩
  case round =>
    obtain ⟨j, hj, rfl, hz⟩ := hrel
    by_cases h0 : j = 0
    · subst h0
      have E := Lib.hid (trimLen_is ls 0 hj hz.out (.inl rfl))
      go_wp2
      go_ret
      exact ⟨by rw [E.out]; rfl, rfl⟩
    · obtain ⟨m, rfl⟩ : ∃ m, j = m + 1 := ⟨j - 1, by omega⟩
      have hcell : w.cell? ⟨b, off + m, none⟩ = some (.int .u32 (ls.getD m 0 : Nat)) := H.out m (by omega)
      obtain ⟨x, ex⟩ : ∃ x, x = ls.getD m 0 := ⟨_, rfl⟩
      rw [← ex] at hcell
      have EX := Lib.hid ex
      clear ex
      by_cases hx : x = 0
      · subst hx
        simp only [Int.natCast_zero] at hcell
        go_wp2
        refine ⟨⟨m, by omega, rfl, fun i hi => ?_⟩, by simp [intOf]⟩
        rcases Nat.lt_or_eq_of_le hi with h1 | h1
        · exact hz.out i h1
        · subst h1; exact EX.out.symm
      · have hx' : ((x : Int) == 0) = false := by simpa using hx
        have E := Lib.hid (trimLen_is ls (m + 1) hj hz.out (.inr (by rw [Nat.add_sub_cancel, ← EX.out]; exact hx)))
        clear hx h0
        go_wp2
        go_ret
        exact ⟨by rw [E.out]; rfl, rfl⟩
set_option maxHeartbeats 2000000 in
theorem cutd_nil (w : World) : Calls Tryz.prog 69 #[.slice none 0 0] w fun e w' => e = .returned (.slice none 0 0) ∧ w = w' := by
  go_enter Tryz.func69, Tryz.ntmps69
  go_wp2
  go_loop [3] (fun s3 => s3 = .int .i64 0) (fun _ => 0)
  case atStart => rfl
  case round =>
    subst hrel
    go_wp2
    go_ret
    exact ⟨rfl, rfl⟩
theorem cutd_any (v : Value) (ls : List Nat) (w : World) (hm : ls.length ≤ 4611686018427387904) (h : Rd .u32 w v ls) :
    Calls Tryz.prog 69 #[v] w fun e w' => e = .returned (cutv v (trimLen ls)) ∧ w = w' := by
  rcases h with ⟨rfl, rfl⟩ | ⟨b, off, cap, rfl, hc, _, h⟩
  · exact cutd_nil w
  · exact cutd_at b off cap ls w hc hm h

theorem Rd.one {k : IntKind} (w : World) (x : Nat) (t : TypeId) : Rd k (w.alloc (.cells #[.int k (x : Nat)] t)) (.slice (some ⟨w.heap.size, 0, none⟩) 1 1) [x] := by
  refine .inr ⟨w.heap.size, 0, 1, rfl, Nat.le_refl _, by simp, fun i hi => ?_⟩
  have : i = 0 := by simp at hi; omega
  subst this
  simp [World.cell?_alloc_new]
set_option maxHeartbeats 2000000 in
/-- NOf -/
theorem nof_any (x : Nat) (w : World) : Calls Tryz.prog 43 #[.int .u64 x] w fun e w' => e = .returned (.slice (some ⟨w.heap.size, 0, none⟩) (trimLen [x]) 1) ∧ w.alloc (.cells #[.int .u64 x] 43) = w' := by
  have C := Lib.hid (fun W v h => trim_any v [x] W (by simp) h)
  go_enter Tryz.func43, Tryz.ntmps43
  go_wp2_with (go_at_call 65; (with_reducible refine (C.out _ _ (Rd.one _ _ _)).mono ?_); rintro e w' ⟨rfl, rfl⟩)
  go_ret
  exact ⟨rfl, rfl⟩
end Go.Proofs.YteplhlmdaabpaaaGreatDoor
namespace Go.Proofs.YteplhlmdaabpaaaGreatDoor
open Go.RowKit

/-- Limbs in digits of 32 bits. -/
def split2 : List Nat → List Nat
  | [] => []
  | x :: ls => x % 4294967296 :: x / 4294967296 :: split2 ls
theorem split2_length : ∀ ls : List Nat, (split2 ls).length = 2 * ls.length
  | [] => rfl
  | x :: ls => by simp [split2, split2_length ls]; omega
theorem split2_snoc : ∀ (ls : List Nat) (x : Nat), split2 (ls ++ [x]) = split2 ls ++ [x % 4294967296, x / 4294967296]
  | [], x => rfl
  | y :: ls, x => by simp [split2, split2_snoc ls x]
theorem take_snoc_getD (ls : List Nat) (i : Nat) (h : i < ls.length) : ls.take (i + 1) = ls.take i ++ [ls.getD i 0] := by
  rw [List.take_succ_eq_append_getElem h]; simp [List.getD, h]
theorem split2_val : ∀ ls : List Nat, (∀ x ∈ ls, x < 18446744073709551616) → lval 4294967296 (split2 ls) = lval 18446744073709551616 ls
  | [], _ => rfl
  | x :: ls, h => by
    have ih := split2_val ls (fun y hy => h y (List.mem_cons_of_mem _ hy))
    simp only [split2, lval, ih]
    omega

theorem own_far {w : World} {base : Nat} {e : TypeId} {size : Nat} {v : Value} {n : Nat} {xs : List Value} (h : w.ownsRow base e size v n xs) {b : Nat} (hb : b < base) : v.ownBlock ≠ some b := by
  rcases h.2 with ⟨rfl, _⟩ | ⟨g, cap, cur, rfl, hg, _⟩
  · simp [Value.ownBlock]
  · simp [Value.ownBlock]; omega
/-- What the call owns reads as its elements. -/
theorem own_rd {w : World} {base : Nat} {e : TypeId} {k : IntKind} {v : Value} {ls : List Nat} (h : w.ownsRow base e 1 v ls.length (ls.map fun x => Value.int k (x : Nat))) : Rd k w v ls := by
  obtain ⟨_, ⟨rfl, h0⟩ | ⟨g, cap, cur, rfl, _, hb, hc, _, _, ht⟩⟩ := h
  · exact .inl ⟨rfl, List.eq_nil_of_length_eq_zero h0⟩
  · have hlt : g < w.heap.size := by
      rcases Nat.lt_or_ge g w.heap.size with h | h
      · exact h
      · rw [Array.getElem?_eq_none h] at hb; cases hb
    refine .inr ⟨g, 0, cap, rfl, hc, hlt, fun i hi => ?_⟩
    rw [cell_of_row w g (0 + i) cur e (0, 0) hb, Nat.zero_add]
    have : (cur.toList.take (ls.length * 1))[i]? = some (Value.int k (ls.getD i 0 : Nat)) := by rw [ht]; simp [List.getD, hi]
    rw [List.getElem?_take] at this
    split at this
    · simpa using this
    · cases this

theorem info32 : (Tryz.prog.info? 104).map (fun i => (i.zero, i.size, i.bytes)) = some (some (.int .u32 0), 1, 4) := by kernel_rfl
theorem info64 : (Tryz.prog.info? 43).map (fun i => (i.zero, i.size, i.bytes)) = some (some (.int .u64 0), 1, 8) := by kernel_rfl
def SomeRd (k : IntKind) (w : World) (ls : List Nat) (e : Ending) (w' : World) : Prop := ∃ v, e = .returned v ∧ Rd k w' v ls ∧ Below w.heap.size w w'

set_option maxHeartbeats 4000000 in
/-- halves -/
theorem halves_at (b off cap : Nat) (ls : List Nat) (w : World) (hb : b < w.heap.size) (hx : ∀ x ∈ ls, x < 18446744073709551616) (hm : ls.length ≤ 1099511627776) (h : ∀ i, i < ls.length → w.cell? ⟨b, off + i, none⟩ = some (.int .u64 (ls.getD i 0 : Nat))) :
    Calls Tryz.prog 67 #[.slice (some ⟨b, off, none⟩) ls.length cap] w (SomeRd .u32 w ((split2 ls).take (trimLen (split2 ls)))) := by
  obtain ⟨i0, hi0, hz0, hz1, hz2⟩ := info_parts info32
  have H := Lib.hid (And.intro h hx)
  clear h hx
  go_enter Tryz.func67, Tryz.ntmps67
  go_wp2
  go_loopw [3, 4] (fun s3 s4 wr => ∃ i : Nat, i ≤ ls.length ∧ s4 = .int .i64 i ∧ Hid (wr.ownsRow w.heap.size 104 1 s3 (split2 (ls.take i)).length ((split2 (ls.take i)).map fun x => Value.int .u32 (x : Nat))) ∧ Below w.heap.size w wr) (fun _ s4 _ => ls.length - (intOf s4).toNat)
  case atStart => exact ⟨0, Nat.zero_le _, rfl, World.ownsRow_nil _ _ _ _, Below.refl _ _⟩
  case round =>
    obtain ⟨i, hi, rfl, hown, hB⟩ := hrel
    by_cases hlt : i < ls.length
    · have hcell : wr.cell? ⟨b, off + i, none⟩ = some (.int .u64 (ls.getD i 0 : Nat)) := (hB.cell (p := ⟨b, off + i, none⟩) hb).trans (H.out.1 i hlt)
      obtain ⟨x, ex⟩ : ∃ x, x = ls.getD i 0 := ⟨_, rfl⟩
      have hx : x < 18446744073709551616 := by rw [ex]; simp only [List.getD, List.getElem?_eq_getElem hlt, Option.getD_some]; exact H.out.2 _ (List.getElem_mem hlt)
      rw [← ex] at hcell
      obtain ⟨p, hp⟩ : ∃ p, p = x % 4294967296 := ⟨_, rfl⟩
      obtain ⟨q, hq⟩ : ∃ q, q = x / 4294967296 := ⟨_, rfl⟩
      have e1 : IntKind.u32.wrap (x : Int) = (p : Int) := by rw [IntKind.wrap_u32]; omega
      have e2 : IntKind.u32.wrap ((x : Int) / 4294967296) = (q : Int) := by rw [IntKind.wrap_u32]; omega
      have E : split2 (ls.take (i + 1)) = split2 (ls.take i) ++ [p, q] := by rw [take_snoc_getD ls i hlt, split2_snoc, ← ex, ← hp, ← hq]
      have hlen : (split2 (ls.take i)).length ≤ 2199023255552 := by rw [split2_length]; simp; omega
      have EH := Lib.hid E
      have hown2 := hown.out
      have far := Lib.hid (own_far hown2 hb)
      have hbr : b < wr.heap.size := Nat.lt_of_lt_of_le hb hB.size
      have hBs := hB.size
      generalize split2 (ls.take i) = ds at *
      clear E ex hp hq hx hown
      have HO := Lib.hid hown2
      clear hown2
      go_wp2
      go_region_held3 (fun w' => w'.cell? ⟨b, off + i, none⟩ = some (.int .u64 (x : Nat)))
        (first
          | (simp [go_sem, *]; done)
          | (rw [hgrow.cell_far _ (by simp; omega) (Ne.symm far.out)]; assumption))
        ((refine step_append_lies _ (by rfl) _ _ _ (by rfl) w.heap.size 104 i0 _ 1 4 Tryz.underlying102 hi0 hz0 hz1 hz2 rfl (by omega) _ ds.length (ds.map fun x => Value.int .u32 (x : Nat)) (by rfl) ((HO.out.alloc _).drew)
            ⟨wr.heap.size, 0, none⟩ 2 2 [.int .u32 (p : Nat), .int .u32 (q : Nat)] (by rfl) (by rfl) (World.news_of_block (cs := #[.int .u32 (p : Nat), .int .u32 (q : Nat)]) (t := 104) (fr := (0, 0)) (heap_alloc_new wr _)) (by simp [Value.oneCell'])
            (by omega) (by unfold maxLen; omega) (by omega) (by simp; omega) (wr.heap.size + 1) (by simp) ?_; intro gg cap' w1 hown1 hgrow hat hlt1))
      go_wp2
      refine ⟨⟨i + 1, by omega, by go_num, ?_, ?_⟩, by simp [intOf]; omega⟩
      · rw [EH.out]
        have h1 := hown1
        simpa [Hid] using h1
      · exact ((hB.alloc hBs _).drew).grown hgrow (by simp; omega) (fun k hk => (HO.out.lt k hk).1)
    · have he : i = ls.length := by omega
      subst he
      rw [List.take_length] at hown
      have hBs := hB.size
      have hlen : (split2 ls).length ≤ 2199023255552 := by rw [split2_length]; omega
      have RD := Lib.hid (own_rd hown.out)
      clear hown
      generalize split2 ls = ds at *
      go_wp2_with (go_at_call 69; (with_reducible refine (cutd_any _ ds _ (by omega) RD.out).mono ?_); rintro e w' ⟨rfl, rfl⟩)
      go_ret
      exact ⟨_, rfl, RD.out.cut _ (trimLen_le _), hB⟩
theorem split2_nil : (split2 []).take (trimLen (split2 [])) = [] := rfl
set_option maxHeartbeats 4000000 in
theorem halves_nil (w : World) : Calls Tryz.prog 67 #[.slice none 0 0] w fun e w' => e = .returned (.slice none 0 0) ∧ w = w' := by
  go_enter Tryz.func67, Tryz.ntmps67
  go_wp2
  go_loop [3, 4] (fun s3 s4 => s3 = .slice none 0 0 ∧ s4 = .int .i64 0) (fun _ _ => 0)
  case atStart => exact ⟨rfl, rfl⟩
  case round =>
    obtain ⟨rfl, rfl⟩ := hrel
    go_wp2_with (go_at_call 69; (with_reducible refine (cutd_nil _).mono ?_); rintro e w' ⟨rfl, rfl⟩)
    go_ret
    exact ⟨rfl, rfl⟩
/-- halves -/
theorem halves_any (v : Value) (ls : List Nat) (w : World) (hx : ∀ x ∈ ls, x < 18446744073709551616) (hm : ls.length ≤ 1099511627776) (h : Rd .u64 w v ls) :
    Calls Tryz.prog 67 #[v] w (SomeRd .u32 w ((split2 ls).take (trimLen (split2 ls)))) := by
  rcases h with ⟨rfl, rfl⟩ | ⟨b, off, cap, rfl, _, hl, h⟩
  · exact (halves_nil w).mono fun _ _ ⟨he, hw⟩ => ⟨_, he, .inl ⟨rfl, rfl⟩, hw ▸ Below.refl _ _⟩
  · exact halves_at b off cap ls w hl hx hm h
end Go.Proofs.YteplhlmdaabpaaaGreatDoor
