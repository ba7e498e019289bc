/-
  The forms of a word's text, by what stands behind its digits.
  The reference's powers of ten.
  The reference's reading of a text.
-/
import Derived.LoopTactic
import Derived.RangeFuncBox
import Derived.Test.YteplhlmdaabpaaaGreatDoorM16
import Derived.Test.YteplhlmdaabpaaaGreatDoorM23
namespace Go.Proofs.YteplhlmdaabpaaaGreatDoor
open Go.RowKit

theorem isD8_46 {x : UInt8} (h : isD8 x = true) : (x != 46) = true := by
  rw [bne_iff_ne]
  rintro rfl
  cases h
theorem tw_split (l : List UInt8) : ∃ D t, l = D ++ t ∧ D.all isD8 = true ∧ l.takeWhile isD8 = D ∧ (t = [] ∨ ∃ x u, t = x :: u ∧ isD8 x = false) := by
  induction l with
  | nil => exact ⟨[], [], rfl, rfl, rfl, .inl rfl⟩
  | cons a r ih =>
    obtain ⟨D, t, h1, h2, h3, h4⟩ := ih
    cases g : isD8 a with
    | true => exact ⟨a :: D, t, by rw [h1]; rfl, by simp [g, h2], by simp [List.takeWhile, g, h3], h4⟩
    | false => exact ⟨[], a :: r, rfl, rfl, by simp [List.takeWhile, g], .inr ⟨a, r, rfl, g⟩⟩
theorem all_46 : ∀ {D : List UInt8}, D.all isD8 = true → (46 : UInt8) ∉ D
  | [], _ => by simp
  | a :: t, h => by
    simp only [List.all_cons, Bool.and_eq_true] at h
    simp only [List.mem_cons, not_or]
    exact ⟨fun e => by rw [← e] at h; exact absurd h.1 (by decide), all_46 h.2⟩
theorem tw_46 : ∀ {D : List UInt8} (t : List UInt8), D.all isD8 = true → (D ++ t).takeWhile (· != 46) = D ++ t.takeWhile (· != 46) ∧ (D ++ t).dropWhile (· != 46) = t.dropWhile (· != 46)
  | [], _, _ => ⟨rfl, rfl⟩
  | a :: D, t, h => by
    simp only [List.all_cons, Bool.and_eq_true] at h
    have ha := isD8_46 h.1
    obtain ⟨h1, h2⟩ := tw_46 (D := D) t h.2
    simp only [List.cons_append, List.takeWhile, List.dropWhile, ha, h1, h2, and_self]
theorem dg_of {D : List UInt8} (h : D.all isD8 = true) : dg D = decide (D ≠ []) := by
  unfold dg
  rw [h, Bool.and_true]
  cases D <;> simp
theorem dg_no {D t : List UInt8} {x : UInt8} (h : isD8 x = false) : dg (D ++ x :: t) = false := by
  unfold dg
  rw [List.all_append, List.all_cons, h]
  simp
/-- Nothing but digits. -/
theorem pform_end {l D : List UInt8} (hl : l.length ≤ 64) (hr : Lib.trimPrefix l [45] = D) (hD : D.all isD8 = true) : pform l = if D = [] then none else some (Lib.hasPrefix l [45], D, []) := by
  unfold pform
  rw [if_neg (by omega), hr, if_neg (all_46 hD), dg_of hD]
  by_cases e : D = [] <;> simp [e]
/-- Something that is neither a digit nor a point. -/
theorem pform_else {l D u : List UInt8} {x : UInt8} (hl : l.length ≤ 64) (hr : Lib.trimPrefix l [45] = D ++ x :: u) (hD : D.all isD8 = true) (hx : isD8 x = false) (h46 : x ≠ 46) : pform l = none := by
  unfold pform
  have hb : (x != 46) = true := by rw [bne_iff_ne]; exact h46
  rw [if_neg (by omega), hr]
  by_cases h : (46 : UInt8) ∈ D ++ x :: u
  · rw [if_pos h]
    obtain ⟨h1, _⟩ := tw_46 (D := D) (x :: u) hD
    have h2 : (x :: u).takeWhile (· != 46) = x :: u.takeWhile (· != 46) := by simp [List.takeWhile, hb]
    rw [h1, h2, dg_no hx]
    simp
  · rw [if_neg h, dg_no hx]
    simp
/-- A point. -/
theorem pform_point {l D c : List UInt8} (hl : l.length ≤ 64) (hr : Lib.trimPrefix l [45] = D ++ 46 :: c) (hD : D.all isD8 = true) : pform l = if (decide (D ≠ []) && dg c) = true then some (Lib.hasPrefix l [45], D, c) else none := by
  unfold pform
  obtain ⟨h1, h2⟩ := tw_46 (D := D) (46 :: c) hD
  rw [if_neg (by omega), hr, if_pos (by simp), h1, h2]
  have h3 : (46 :: c).takeWhile (· != (46 : UInt8)) = [] := by simp [List.takeWhile]
  have h4 : ((46 :: c).dropWhile (· != (46 : UInt8))).tail = c := by simp [List.dropWhile]
  rw [h3, h4, List.append_nil, dg_of hD]
theorem pre_drop (l : List UInt8) : Lib.trimPrefix l [45] = l.drop (if Lib.hasPrefix l [45] = true then 1 else 0) := by
  unfold Lib.trimPrefix
  split <;> rfl
theorem has_45 (l : List UInt8) : Lib.hasPrefix l [45] = true ↔ l[0]? = some 45 := by
  unfold Lib.hasPrefix
  cases l with
  | nil => simp
  | cons a t =>
    by_cases e : a = 45
    · subst e; simp [List.isPrefixOf]
    · have e2 : ¬ (45 : UInt8) = a := fun k => e k.symm
      simp [List.isPrefixOf, e, e2]
/-- The number, digit by digit, the point left out. -/
def nv (r : List UInt8) (j : Nat) : Nat := dv (ds ((r.take j).filter (· != 46)))
theorem nv_zero (r : List UInt8) : nv r 0 = 0 := by simp [nv, ds, dv]
theorem nv_next {r : List UInt8} {j : Nat} {x : UInt8} (h : r[j]? = some x) : nv r (j + 1) = if x = 46 then nv r j else 10 * nv r j + (x.toNat - 48) := by
  have hj : j < r.length := (List.getElem?_eq_some_iff.1 h).1
  have hx : r[j] = x := (List.getElem?_eq_some_iff.1 h).2
  unfold nv
  rw [List.take_succ_eq_append_getElem hj, hx, List.filter_append]
  by_cases e : x = 46
  · subst e; simp
  · have hb : (x != 46) = true := by rw [bne_iff_ne]; exact e
    rw [if_neg e]
    simp only [List.filter_cons, hb, if_true, List.filter_nil]
    unfold ds
    rw [List.map_append]
    exact dv_snoc _ _
theorem nv_lt {r : List UInt8} (h : ∀ x ∈ r, x = 46 ∨ isD8 x = true) (hl : r.length ≤ 64) (j : Nat) : nv r j < 10 ^ 64 := by
  have h1 : ((r.take j).filter (· != 46)).all isD8 = true := by
    rw [List.all_eq_true]
    intro x hx
    rw [List.mem_filter, bne_iff_ne] at hx
    rcases h x (List.mem_of_mem_take hx.1) with e | e
    · exact absurd e hx.2
    · exact e
  have h2 := dv_lt _ (ds_ok h1).1
  have h3 : (ds ((r.take j).filter (· != 46))).length ≤ 64 := by
    unfold ds
    rw [List.length_map]
    have := List.length_filter_le (fun x : UInt8 => x != 46) (r.take j)
    have : (r.take j).length ≤ r.length := by rw [List.length_take]; omega
    omega
  exact Nat.lt_of_lt_of_le h2 (Nat.pow_le_pow_right (by decide) h3)
theorem nv_all {D c : List UInt8} (hD : D.all isD8 = true) (hc : c.all isD8 = true) : nv (D ++ 46 :: c) (D ++ 46 :: c).length = dv (ds D) * 10 ^ (ds c).length + dv (ds c) ∧ nv D D.length = dv (ds D) := by
  have f : ∀ {E : List UInt8}, E.all isD8 = true → E.filter (· != 46) = E := fun {E} h => by
    rw [List.filter_eq_self]
    intro x hx
    exact isD8_46 (List.all_eq_true.1 h x hx)
  unfold nv
  rw [List.take_length, List.take_length, List.filter_append, f hD]
  refine ⟨?_, rfl⟩
  have : (46 :: c).filter (· != (46 : UInt8)) = c := by simp [f hc]
  rw [this]
  unfold ds
  rw [List.map_append]
  exact dv_append _ _
end Go.Proofs.YteplhlmdaabpaaaGreatDoor
namespace Go.Proofs.YteplhlmdaabpaaaGreatDoor
open Go.RowKit

/-- A box of two cells. -/
def Box2 (W : World) (B : Nat) (t : TypeId) (a b : Value) : Prop := W.heap[B]? = some (.cells #[a, b] t (0, 0))
theorem Box2.new (w : World) (a b : Value) (t : TypeId) : Box2 (w.alloc (.cells #[a, b] t)) w.heap.size t a b := World.alloc_heap_new w _
theorem Box2.lt {W : World} {B : Nat} {t : TypeId} {a b : Value} (h : Box2 W B t a b) : B < W.heap.size := (Array.getElem?_eq_some_iff.1 h).1
theorem Box2.below {W W' : World} {B : Nat} {t : TypeId} {a b : Value} (h : Box2 W B t a b) (hb : Below W.heap.size W W') : Box2 W' B t a b := (hb.block B h.lt).trans h
theorem Box2.alloc {W : World} {B : Nat} {t : TypeId} {a b : Value} (h : Box2 W B t a b) (o : Obj) : Box2 (W.alloc o) B t a b := h.below ((Below.refl _ _).alloc (Nat.le_refl _) _)
theorem Box2.all {W : World} {B : Nat} {t : TypeId} {a b : Value} (h : Box2 W B t a b) : W.cell? ⟨B, 0, none⟩ = some a ∧ W.cell? ⟨B, 1, none⟩ = some b ∧ W.frozen? ⟨B, 0, none⟩ = false ∧ W.frozen? ⟨B, 1, none⟩ = false := by
  have h' : W.heap[B]? = some (.cells #[a, b] t (0, 0)) := h
  refine ⟨?_, ?_, ?_, ?_⟩
  · unfold World.cell?; rw [h']; rfl
  · unfold World.cell?; rw [h']; rfl
  · unfold World.frozen?; rw [h']; rfl
  · unfold World.frozen?; rw [h']; rfl
theorem Box2.other {W : World} {B B' i : Nat} {t : TypeId} {a b : Value} (h : Box2 W B t a b) (hne : B ≠ B') (u : Value) : Box2 (W.setCell ⟨B', i, none⟩ u) B t a b := by
  have h' : W.heap[B]? = some (.cells #[a, b] t (0, 0)) := h
  show (W.heap.modify B' _)[B]? = _
  rw [Array.getElem?_modify, if_neg (fun e => hne e.symm)]
  exact h'
theorem Box2.set {W : World} {B : Nat} {t : TypeId} {a b : Value} (h : Box2 W B t a b) (u u' : Value) : Box2 ((W.setCell ⟨B, 0, none⟩ u).setCell ⟨B, 1, none⟩ u') B t u u' := by
  have h' : W.heap[B]? = some (.cells #[a, b] t (0, 0)) := h
  rw [setCell_eq_setRow W B 0 _ t (0, 0) u h']
  have h2 := setRow_heap W B _ (#[a, b].setIfInBounds 0 u) t (0, 0) h'
  rw [setCell_eq_setRow _ B 1 _ t (0, 0) u' h2]
  exact setRow_heap _ B _ _ t (0, 0) h2
theorem ten_big {n : Nat} (h : n ≤ 64) : ((10 : Int) ^ n).natAbs < BIG ∧ ((10 : Int)).natAbs < BIG := by
  refine ⟨big_of (k := 256) ?_ (by decide), big_of (k := 4) (by decide) (by decide)⟩
  rw [Int.natAbs_pow]
  show 10 ^ n < 2 ^ 256
  calc 10 ^ n ≤ 10 ^ 64 := Nat.pow_le_pow_right (by decide) h
    _ < 2 ^ 256 := by decide

set_option maxRecDepth 100000 in
set_option maxHeartbeats 8000000 in
theorem ipow_any (x : Value) (n : Nat) (w : World) (h : IsI w x 10) (hn : n ≤ 64) : Calls Tryz.prog 33 #[x, .int .i64 n] w (SomeI w (10 ^ n)) := by
  obtain ⟨ba, oa, la, ca, rfl, Ha⟩ := h.open
  have FR := Lib.hid (fun W : World => ifrom_any 1 W (by decide) (by decide))
  have TM := Lib.hid (fun (i : Nat) (W : World) (x y : Value) (hx : IsI W x (10 ^ i)) (hy : IsI W y 10) (hi : i ≤ 64) => itimes_any x y (10 ^ i) 10 W hx hy (ten_big hi).1 (ten_big hi).2)
  have HA := Lib.hid h
  clear h Ha
  have xa := Box2.new w (.bool ba) (.slice oa la ca) 57
  have xr := Box2.new (w.alloc (.cells #[.bool ba, .slice oa la ca] 57)) (.bool false) (.slice none 0 0) 57
  have xa := xa.alloc (.cells #[.bool false, .slice none 0 0] 57)
  rw [World.size_alloc] at xr
  go_enter Tryz.func33, Tryz.ntmps33
  go_wp2_with (first | (go_at_call 21; (with_reducible refine (FR.out _).mono ?_); rintro e w1 ⟨v1, rfl, hv, hb1⟩; obtain ⟨b1, o1, l1, c1, rfl, H1⟩ := hv.open) | fail)
  have q1 := hb1.size
  simp only [World.size_alloc] at q1
  have ya := (xa.below hb1).alloc (.cells #[.bool b1, .slice o1 l1 c1] 57)
  have yr := (xr.below hb1).alloc (.cells #[.bool b1, .slice o1 l1 c1] 57)
  have yx := Box2.new w1 (.bool b1) (.slice o1 l1 c1) 57
  have h0 : Below w.heap.size w w1 := (((Below.refl _ _).alloc (Nat.le_refl _) _).alloc (by simp) _).trans (hb1.mono (by simp; omega))
  have hB0 : Below w.heap.size w (w1.alloc (.cells #[.bool b1, .slice o1 l1 c1] 57)) := h0.alloc (by omega) _
  have I1 : Hid (IsI (w1.alloc (.cells #[.bool b1, .slice o1 l1 c1] 57)) (Iv b1 (.slice o1 l1 c1)) (10 ^ 0)) := by
    have := hv.below ((Below.refl _ _).alloc (Nat.le_refl _) (.cells #[.bool b1, .slice o1 l1 c1] 57))
    simpa using Lib.hid this
  have I2 : Hid (IsI (w1.alloc (.cells #[.bool b1, .slice o1 l1 c1] 57)) (Iv ba (.slice oa la ca)) 10) := HA.out.below hB0
  clear xa xr hv H1 hb1 h0 FR HA
  go_loopw [6] (fun s6 wr => ∃ (i : Nat) (bx : Bool) (ox : Option Addr) (lx cx : Nat), i ≤ n ∧ s6 = .int .i64 i ∧ Box2 wr w.heap.size 57 (.bool ba) (.slice oa la ca) ∧ Box2 wr (w.heap.size + 1) 57 (.bool false) (.slice none 0 0) ∧ Box2 wr w1.heap.size 57 (.bool bx) (.slice ox lx cx) ∧ Hid (IsI wr (Iv bx (.slice ox lx cx)) (10 ^ i)) ∧ Hid (IsI wr (Iv ba (.slice oa la ca)) 10) ∧ Below w.heap.size w wr) (fun s6 _ => n - (RowKit.intOf s6).toNat)
  case atStart => exact ⟨0, b1, o1, l1, c1, Nat.zero_le _, rfl, ya, yr, yx, I1, I2, hB0⟩
  case round =>
    obtain ⟨i, bx, ox, lx, cx, hi, rfl, za, zr, zx, J1, J2, hB⟩ := hrel
    clear ya yr yx I1 I2 hB0
    obtain ⟨a0, a1, a2, a3⟩ := za.all
    obtain ⟨x0, x1, x2, x3⟩ := zx.all
    by_cases g : i < n
    · have TM2 := Lib.hid (TM.out i wr _ _ J1.out J2.out (by omega))
      go_wp2_with (first | (go_at_call 27; (with_reducible refine (TM2.out).mono ?_); rintro e w5 ⟨v5, rfl, hv5, hb5⟩; obtain ⟨b5, o5, l5, c5, rfl, H5⟩ := hv5.open; obtain ⟨p0, p1, p2, p3⟩ := (zx.below hb5).all) | fail)
      have s5 := zx.lt
      have e10 : (10 : Int) ^ (i + 1) = 10 ^ i * 10 := Int.pow_succ _ _
      refine ⟨⟨i + 1, b5, o5, l5, c5, by omega, by go_num, ((za.below hb5).other (by omega) _).other (by omega) _, ((zr.below hb5).other (by omega) _).other (by omega) _, (zx.below hb5).set _ _, ?_, ?_, ?_⟩, by simp [RowKit.intOf]; omega⟩
      · rw [e10]
        exact hv5.put p0 (by simp) p1 (by simp)
      · exact (J2.out.below hb5).put p0 (by simp) p1 (by simp)
      · exact ((hB.trans (hb5.mono hB.size)).setCell (p := ⟨w1.heap.size, 0, none⟩) (by show w.heap.size ≤ w1.heap.size; omega) _).setCell (p := ⟨w1.heap.size, 1, none⟩) (by show w.heap.size ≤ w1.heap.size; omega) _
    · have e : i = n := by omega
      subst e
      obtain ⟨r0, r1, r2, r3⟩ := zr.all
      go_wp2
      refine bodyPost_ret (v := Iv bx (.slice ox lx cx)) (by simp [results, Tryz.results33, go_sem, *]) rfl ⟨_, rfl, J1.out.put r0 (by simp) r1 (by simp), ?_⟩
      exact (hB.setCell (p := ⟨w.heap.size + 1, 0, none⟩) (by show w.heap.size ≤ w.heap.size + 1; omega) _).setCell (p := ⟨w.heap.size + 1, 1, none⟩) (by show w.heap.size ≤ w.heap.size + 1; omega) _
end Go.Proofs.YteplhlmdaabpaaaGreatDoor
namespace Go.Proofs.YteplhlmdaabpaaaGreatDoor
open Go.RowKit

set_option maxRecDepth 100000 in
set_option maxHeartbeats 8000000 in
theorem rp_else_m (s : ByteArray) (f k : Nat) (w : World) (hs : s.size ≤ 64) (z0 : 0 < s.size) (hb0 : s[0] = 45) (hk : k ≤ 64) (RD : Hid (∀ W : World, Calls Tryz.prog 28 #[.string s, .int .i64 1] W fun e w' => e = .returned (.int .i64 k) ∧ W = w')) (x : UInt8) (hx1 : 1 + k < s.size) (hx2 : s[1 + k] = x) (n46 : ((x.toNat : Int) == 46) = false) :
    Calls Tryz.prog 10 #[.string s, .int .i64 f] w fun e w' => e = .returned (.tuple #[.int .i64 0, .int .i64 1]) ∧ Below w.heap.size w w' := by
  have eb : (1 + (k : Int) != (s.size : Int)) = true := by rw [bne_iff_ne]; omega
  go_enter Tryz.func10, Tryz.ntmps10
  rcases Nat.eq_zero_or_pos k with k0 | k0
  · have kb : ((k : Int) == 0) = true := by rw [beq_iff_eq]; omega
    clear k0
    go_wp2_with (first | (go_at_call 28; (with_reducible refine (RD.out _).mono ?_); rintro e w' ⟨rfl, rfl⟩) | fail)
    go_ret2
    exact ⟨rfl, Below.refl _ _⟩
  · have kb : ((k : Int) == 0) = false := by rw [beq_eq_false_iff_ne]; omega
    go_wp2_with (first | (go_at_call 28; (with_reducible refine (RD.out _).mono ?_); rintro e w' ⟨rfl, rfl⟩) | fail)
    go_ret2
    exact ⟨rfl, Below.refl _ _⟩
set_option maxRecDepth 100000 in
set_option maxHeartbeats 8000000 in
theorem rp_none_m (s : ByteArray) (f k : Nat) (w : World) (hs : s.size ≤ 64) (z0 : 0 < s.size) (hb0 : s[0] = 45) (_hk : k ≤ 64) (RD : Hid (∀ W : World, Calls Tryz.prog 28 #[.string s, .int .i64 1] W fun e w' => e = .returned (.int .i64 k) ∧ W = w')) (k0 : k = 0) (he : s.size = 1 + k) :
    Calls Tryz.prog 10 #[.string s, .int .i64 f] w fun e w' => e = .returned (.tuple #[.int .i64 0, .int .i64 1]) ∧ Below w.heap.size w w' := by
  have kb : ((k : Int) == 0) = true := by rw [beq_iff_eq]; omega
  clear k0
  go_enter Tryz.func10, Tryz.ntmps10
  go_wp2_with (first | (go_at_call 28; (with_reducible refine (RD.out _).mono ?_); rintro e w' ⟨rfl, rfl⟩) | fail)
  go_ret2
  exact ⟨rfl, Below.refl _ _⟩
set_option maxRecDepth 100000 in
set_option maxHeartbeats 8000000 in
theorem rp_pt0_m (s : ByteArray) (f k : Nat) (w : World) (hs : s.size ≤ 64) (z0 : 0 < s.size) (hb0 : s[0] = 45) (hk : k ≤ 64) (RD : Hid (∀ W : World, Calls Tryz.prog 28 #[.string s, .int .i64 1] W fun e w' => e = .returned (.int .i64 k) ∧ W = w')) (hx1 : 1 + k < s.size) (hx2 : s[1 + k] = 46) (RE : Hid (∀ W : World, Calls Tryz.prog 28 #[.string s, .int .i64 (1 + (k : Int) + 1)] W fun e w' => e = .returned (.int .i64 0) ∧ W = w')) :
    Calls Tryz.prog 10 #[.string s, .int .i64 f] w fun e w' => e = .returned (.tuple #[.int .i64 0, .int .i64 1]) ∧ Below w.heap.size w w' := by
  go_enter Tryz.func10, Tryz.ntmps10
  go_wp2_with (first | (go_at_call 28; (with_reducible refine (RD.out _).mono ?_); rintro e w' ⟨rfl, rfl⟩) | (go_at_call 28; (with_reducible refine (RE.out _).mono ?_); rintro e w' ⟨rfl, rfl⟩) | fail)
  go_ret2
  exact ⟨rfl, Below.refl _ _⟩
set_option maxRecDepth 100000 in
set_option maxHeartbeats 8000000 in
theorem rp_ptn_m (s : ByteArray) (f k : Nat) (w : World) (hs : s.size ≤ 64) (z0 : 0 < s.size) (hb0 : s[0] = 45) (hk : k ≤ 64) (RD : Hid (∀ W : World, Calls Tryz.prog 28 #[.string s, .int .i64 1] W fun e w' => e = .returned (.int .i64 k) ∧ W = w')) (hx1 : 1 + k < s.size) (hx2 : s[1 + k] = 46) (b : Nat) (hb : b ≤ 64) (RE : Hid (∀ W : World, Calls Tryz.prog 28 #[.string s, .int .i64 (1 + (k : Int) + 1)] W fun e w' => e = .returned (.int .i64 b) ∧ W = w')) (b0 : 0 < b) (k0 : k = 0) :
    Calls Tryz.prog 10 #[.string s, .int .i64 f] w fun e w' => e = .returned (.tuple #[.int .i64 0, .int .i64 1]) ∧ Below w.heap.size w w' := by
  have kb : ((k : Int) == 0) = true := by rw [beq_iff_eq]; omega
  clear k0
  go_enter Tryz.func10, Tryz.ntmps10
  go_wp2_with (first | (go_at_call 28; (with_reducible refine (RD.out _).mono ?_); rintro e w' ⟨rfl, rfl⟩) | (go_at_call 28; (with_reducible refine (RE.out _).mono ?_); rintro e w' ⟨rfl, rfl⟩) | fail)
  go_ret2
  exact ⟨rfl, Below.refl _ _⟩
set_option maxRecDepth 100000 in
set_option maxHeartbeats 8000000 in
theorem rp_ptm_m (s : ByteArray) (f k : Nat) (w : World) (hs : s.size ≤ 64) (z0 : 0 < s.size) (hb0 : s[0] = 45) (hk : k ≤ 64) (RD : Hid (∀ W : World, Calls Tryz.prog 28 #[.string s, .int .i64 1] W fun e w' => e = .returned (.int .i64 k) ∧ W = w')) (hx1 : 1 + k < s.size) (hx2 : s[1 + k] = 46) (b : Nat) (hb : b ≤ 64) (RE : Hid (∀ W : World, Calls Tryz.prog 28 #[.string s, .int .i64 (1 + (k : Int) + 1)] W fun e w' => e = .returned (.int .i64 b) ∧ W = w')) (b0 : 0 < b) (k0 : 0 < k) (hne : 1 + k + 1 + b < s.size) :
    Calls Tryz.prog 10 #[.string s, .int .i64 f] w fun e w' => e = .returned (.tuple #[.int .i64 0, .int .i64 1]) ∧ Below w.heap.size w w' := by
  have kb : ((k : Int) == 0) = false := by rw [beq_eq_false_iff_ne]; omega
  have eb : (1 + (k : Int) + 1 + (b : Int) != (s.size : Int)) = true := by rw [bne_iff_ne]; omega
  go_enter Tryz.func10, Tryz.ntmps10
  go_wp2_with (first | (go_at_call 28; (with_reducible refine (RD.out _).mono ?_); rintro e w' ⟨rfl, rfl⟩) | (go_at_call 28; (with_reducible refine (RE.out _).mono ?_); rintro e w' ⟨rfl, rfl⟩) | fail)
  go_ret2
  exact ⟨rfl, Below.refl _ _⟩
set_option maxRecDepth 100000 in
set_option maxHeartbeats 8000000 in
theorem rp_else_p (s : ByteArray) (f k : Nat) (w : World) (hs : s.size ≤ 64) (z0 : 0 < s.size) (x0 : UInt8) (hb0 : s[0] = x0) (n45 : ((x0.toNat : Int) == 45) = false) (hk : k ≤ 64) (RD : Hid (∀ W : World, Calls Tryz.prog 28 #[.string s, .int .i64 0] W fun e w' => e = .returned (.int .i64 k) ∧ W = w')) (x : UInt8) (hx1 : k < s.size) (hx2 : s[k] = x) (n46 : ((x.toNat : Int) == 46) = false) :
    Calls Tryz.prog 10 #[.string s, .int .i64 f] w fun e w' => e = .returned (.tuple #[.int .i64 0, .int .i64 1]) ∧ Below w.heap.size w w' := by
  have eb : ((k : Int) != (s.size : Int)) = true := by rw [bne_iff_ne]; omega
  go_enter Tryz.func10, Tryz.ntmps10
  rcases Nat.eq_zero_or_pos k with k0 | k0
  · have kb : ((k : Int) == 0) = true := by rw [beq_iff_eq]; omega
    clear k0
    go_wp2_with (first | (go_at_call 28; (with_reducible refine (RD.out _).mono ?_); rintro e w' ⟨rfl, rfl⟩) | fail)
    go_ret2
    exact ⟨rfl, Below.refl _ _⟩
  · have kb : ((k : Int) == 0) = false := by rw [beq_eq_false_iff_ne]; omega
    go_wp2_with (first | (go_at_call 28; (with_reducible refine (RD.out _).mono ?_); rintro e w' ⟨rfl, rfl⟩) | fail)
    go_ret2
    exact ⟨rfl, Below.refl _ _⟩
set_option maxRecDepth 100000 in
set_option maxHeartbeats 8000000 in
theorem rp_none_p (s : ByteArray) (f k : Nat) (w : World) (hs : s.size ≤ 64) (z0 : 0 < s.size) (x0 : UInt8) (hb0 : s[0] = x0) (n45 : ((x0.toNat : Int) == 45) = false) (_hk : k ≤ 64) (RD : Hid (∀ W : World, Calls Tryz.prog 28 #[.string s, .int .i64 0] W fun e w' => e = .returned (.int .i64 k) ∧ W = w')) (k0 : k = 0) (he : s.size = k) :
    Calls Tryz.prog 10 #[.string s, .int .i64 f] w fun e w' => e = .returned (.tuple #[.int .i64 0, .int .i64 1]) ∧ Below w.heap.size w w' := by
  have kb : ((k : Int) == 0) = true := by rw [beq_iff_eq]; omega
  clear k0
  go_enter Tryz.func10, Tryz.ntmps10
  go_wp2_with (first | (go_at_call 28; (with_reducible refine (RD.out _).mono ?_); rintro e w' ⟨rfl, rfl⟩) | fail)
  go_ret2
  exact ⟨rfl, Below.refl _ _⟩
set_option maxRecDepth 100000 in
set_option maxHeartbeats 8000000 in
theorem rp_pt0_p (s : ByteArray) (f k : Nat) (w : World) (hs : s.size ≤ 64) (z0 : 0 < s.size) (x0 : UInt8) (hb0 : s[0] = x0) (n45 : ((x0.toNat : Int) == 45) = false) (hk : k ≤ 64) (RD : Hid (∀ W : World, Calls Tryz.prog 28 #[.string s, .int .i64 0] W fun e w' => e = .returned (.int .i64 k) ∧ W = w')) (hx1 : k < s.size) (hx2 : s[k] = 46) (RE : Hid (∀ W : World, Calls Tryz.prog 28 #[.string s, .int .i64 ((k : Int) + 1)] W fun e w' => e = .returned (.int .i64 0) ∧ W = w')) :
    Calls Tryz.prog 10 #[.string s, .int .i64 f] w fun e w' => e = .returned (.tuple #[.int .i64 0, .int .i64 1]) ∧ Below w.heap.size w w' := by
  go_enter Tryz.func10, Tryz.ntmps10
  go_wp2_with (first | (go_at_call 28; (with_reducible refine (RD.out _).mono ?_); rintro e w' ⟨rfl, rfl⟩) | (go_at_call 28; (with_reducible refine (RE.out _).mono ?_); rintro e w' ⟨rfl, rfl⟩) | fail)
  go_ret2
  exact ⟨rfl, Below.refl _ _⟩
set_option maxRecDepth 100000 in
set_option maxHeartbeats 8000000 in
theorem rp_ptn_p (s : ByteArray) (f k : Nat) (w : World) (hs : s.size ≤ 64) (z0 : 0 < s.size) (x0 : UInt8) (hb0 : s[0] = x0) (n45 : ((x0.toNat : Int) == 45) = false) (hk : k ≤ 64) (RD : Hid (∀ W : World, Calls Tryz.prog 28 #[.string s, .int .i64 0] W fun e w' => e = .returned (.int .i64 k) ∧ W = w')) (hx1 : k < s.size) (hx2 : s[k] = 46) (b : Nat) (hb : b ≤ 64) (RE : Hid (∀ W : World, Calls Tryz.prog 28 #[.string s, .int .i64 ((k : Int) + 1)] W fun e w' => e = .returned (.int .i64 b) ∧ W = w')) (b0 : 0 < b) (k0 : k = 0) :
    Calls Tryz.prog 10 #[.string s, .int .i64 f] w fun e w' => e = .returned (.tuple #[.int .i64 0, .int .i64 1]) ∧ Below w.heap.size w w' := by
  have kb : ((k : Int) == 0) = true := by rw [beq_iff_eq]; omega
  clear k0
  go_enter Tryz.func10, Tryz.ntmps10
  go_wp2_with (first | (go_at_call 28; (with_reducible refine (RD.out _).mono ?_); rintro e w' ⟨rfl, rfl⟩) | (go_at_call 28; (with_reducible refine (RE.out _).mono ?_); rintro e w' ⟨rfl, rfl⟩) | fail)
  go_ret2
  exact ⟨rfl, Below.refl _ _⟩
set_option maxRecDepth 100000 in
set_option maxHeartbeats 8000000 in
theorem rp_ptm_p (s : ByteArray) (f k : Nat) (w : World) (hs : s.size ≤ 64) (z0 : 0 < s.size) (x0 : UInt8) (hb0 : s[0] = x0) (n45 : ((x0.toNat : Int) == 45) = false) (hk : k ≤ 64) (RD : Hid (∀ W : World, Calls Tryz.prog 28 #[.string s, .int .i64 0] W fun e w' => e = .returned (.int .i64 k) ∧ W = w')) (hx1 : k < s.size) (hx2 : s[k] = 46) (b : Nat) (hb : b ≤ 64) (RE : Hid (∀ W : World, Calls Tryz.prog 28 #[.string s, .int .i64 ((k : Int) + 1)] W fun e w' => e = .returned (.int .i64 b) ∧ W = w')) (b0 : 0 < b) (k0 : 0 < k) (hne : k + 1 + b < s.size) :
    Calls Tryz.prog 10 #[.string s, .int .i64 f] w fun e w' => e = .returned (.tuple #[.int .i64 0, .int .i64 1]) ∧ Below w.heap.size w w' := by
  have kb : ((k : Int) == 0) = false := by rw [beq_eq_false_iff_ne]; omega
  have eb : ((k : Int) + 1 + (b : Int) != (s.size : Int)) = true := by rw [bne_iff_ne]; omega
  go_enter Tryz.func10, Tryz.ntmps10
  go_wp2_with (first | (go_at_call 28; (with_reducible refine (RD.out _).mono ?_); rintro e w' ⟨rfl, rfl⟩) | (go_at_call 28; (with_reducible refine (RE.out _).mono ?_); rintro e w' ⟨rfl, rfl⟩) | fail)
  go_ret2
  exact ⟨rfl, Below.refl _ _⟩
end Go.Proofs.YteplhlmdaabpaaaGreatDoor
