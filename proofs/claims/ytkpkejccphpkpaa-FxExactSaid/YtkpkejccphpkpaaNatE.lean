/-
  The references' whole numbers: which is the lower one.
-/
import Derived.Test.YtkpkejccphpkpaaNatL
namespace Go.Proofs.Ytkpkejccphpkpaa
open Go.RowKit

theorem len_less {B : Nat} (hB : 0 < B) {xs ys : List Nat} (hx : ∀ x ∈ xs, x < B) (ty : trimLen ys = ys.length) (h : xs.length < ys.length) : lval B xs < lval B ys := by
  rcases Nat.lt_or_ge (lval B xs) (lval B ys) with h1 | h1
  · exact h1
  · have := len_mono hB hx ty h1; omega
theorem top_less {B : Nat} (hB : 0 < B) {xs ys : List Nat} {m : Nat} (hx : ∀ x ∈ xs, x < B) (hl : xs.length = ys.length) (hm : m < xs.length) (hd : xs.drop (m + 1) = ys.drop (m + 1)) (h : xs.getD m 0 < ys.getD m 0) : lval B xs < lval B ys := by
  have e1 := lval_split B xs m (by omega)
  have e2 := lval_split B ys m (by omega)
  have hmy : m < ys.length := by omega
  have d1 : xs.drop m = xs.getD m 0 :: xs.drop (m + 1) := by rw [List.drop_eq_getElem_cons hm]; simp [List.getD, hm]
  have d2 : ys.drop m = ys.getD m 0 :: ys.drop (m + 1) := by rw [List.drop_eq_getElem_cons hmy]; simp [List.getD, hmy]
  rw [d1, hd] at e1
  rw [d2] at e2
  simp only [lval] at e1 e2
  have l1 := lval_lt B hB (xs.take m) (fun x hxm => hx x (List.mem_of_mem_take hxm))
  rw [List.length_take, Nat.min_eq_left (by omega)] at l1
  have m1 := Nat.mul_le_mul_left (B ^ m) (show xs.getD m 0 + B * lval B (ys.drop (m + 1)) + 1 ≤ ys.getD m 0 + B * lval B (ys.drop (m + 1)) by omega)
  rw [Nat.mul_add, Nat.mul_one] at m1
  omega

set_option maxRecDepth 100000 in
set_option maxHeartbeats 8000000 in
/-- NCmp -/
theorem ncmp_any (va vb : Value) (a b : Nat) (w : World) (ha : IsN w va a) (hb : IsN w vb b) (la : a < BIG) (lb : b < BIG) : Calls Try.prog 100 #[va, vb] w fun e w' => e = .returned (.int .i64 (sg a b)) ∧ Below w.heap.size w w' := by
  obtain ⟨xs, rx, x1, x2, x3⟩ := ha
  obtain ⟨ys, ry, y1, y2, y3⟩ := hb
  have lx := len_n x3 (by rw [x2]; exact la)
  have ly := len_n y3 (by rw [y2]; exact lb)
  obtain ⟨ox, cx, rfl, hcx⟩ := rx.form
  obtain ⟨oy, cy, rfl, hcy⟩ := ry.form
  have HX := Lib.hid (And.intro hcx (And.intro hcy (And.intro x1 (And.intro y1 (And.intro x2 y2)))))
  clear la lb
  rcases Nat.lt_trichotomy xs.length ys.length with hl | hl | hl
  · have E := Lib.hid (sg_lt (show (a : Int) < b by have := len_less (by decide) x1 y3 hl; omega))
    have hl' : (xs.length : Int) < ys.length := by omega
    have hn : ((xs.length : Int) == ys.length) = false := by simp; omega
    clear rx ry hcx hcy x1 y1 x2 y2 x3 y3 hl
    go_enter Try.func100, Try.ntmps100
    go_wp2
    go_ret
    exact ⟨by rw [E.out]; rfl, Below.refl _ _⟩
  · obtain ⟨n, hn⟩ : ∃ n, n = ys.length := ⟨_, rfl⟩
    have EQ := Lib.hid hl
    have L : Hid (xs.length = n ∧ ys.length = n) := ⟨by rw [hn]; exact hl, hn.symm⟩
    rw [hl, ← hn] 
    rw [← hn] at ly
    clear rx ry hcx hcy x1 y1 x2 y2 x3 y3 hl lx hn
    go_enter Try.func100, Try.ntmps100
    go_wp2
    go_loopw [5] (fun s5 wr => ∃ z : Int, s5 = .int .i64 z ∧ -1 ≤ z ∧ z < n ∧ Hid (xs.drop (z + 1).toNat = ys.drop (z + 1).toNat) ∧ Below w.heap.size w wr) (fun s5 _ => (intOf s5 + 1).toNat)
    case atStart => exact ⟨_, rfl, by omega, by omega, by unfold Hid; rw [List.drop_eq_nil_of_le (by have := L.out.1; omega), List.drop_eq_nil_of_le (by have := L.out.2; omega)], Below.refl _ _⟩
    case round =>
      obtain ⟨z, rfl, z0, z1, hd, hB⟩ := hrel
      have hBs := hB.size
      by_cases hz : z < 0
      · have E : Hid (sg (a : Int) b = 0) := by
          have e : xs = ys := by have := hd.out; rw [show (z + 1).toNat = 0 by omega] at this; simpa using this
          have : a = b := by rw [← HX.out.2.2.2.2.1, ← HX.out.2.2.2.2.2, e]
          rw [this]; exact sg_eq _
        go_wp2
        go_ret
        exact ⟨by rw [E.out]; rfl, hB⟩
      · obtain ⟨m, rfl⟩ := Int.eq_ofNat_of_zero_le (show 0 ≤ z by omega)
        have hm : m < n := by omega
        obtain ⟨bx, fx, rfl, hbx, hcellx⟩ := HX.out.1 m (by rw [L.out.1]; exact hm)
        obtain ⟨by', fy, rfl, hby, hcelly⟩ := HX.out.2.1 m (by rw [L.out.2]; exact hm)
        have hcx : wr.cell? ⟨bx, fx + m, none⟩ = some (.int .u64 (xs.getD m 0 : Nat)) := (hB.cell (p := ⟨bx, fx + m, none⟩) hbx).trans hcellx
        have hcy : wr.cell? ⟨by', fy + m, none⟩ = some (.int .u64 (ys.getD m 0 : Nat)) := (hB.cell (p := ⟨by', fy + m, none⟩) hby).trans hcelly
        obtain ⟨x, ex⟩ : ∃ x, x = xs.getD m 0 := ⟨_, rfl⟩
        obtain ⟨y, ey⟩ : ∃ y, y = ys.getD m 0 := ⟨_, rfl⟩
        rw [← ex] at hcx
        rw [← ey] at hcy
        clear hcellx hcelly
        have hdm : Hid (xs.drop (m + 1) = ys.drop (m + 1)) := by have := hd.out; rwa [show ((m : Int) + 1).toNat = m + 1 by omega] at this
        have EX := Lib.hid (And.intro ex ey)
        clear ex ey hd
        have hlen : Hid (xs.length = ys.length ∧ m < xs.length) := ⟨by rw [L.out.1, L.out.2], by rw [L.out.1]; exact hm⟩
        rcases Nat.lt_trichotomy x y with h | h | h
        · have E : Hid (sg (a : Int) b = -1) := sg_lt (by have := top_less (by decide) HX.out.2.2.1 hlen.out.1 hlen.out.2 hdm.out (by rw [← EX.out.1, ← EX.out.2]; exact h); rw [HX.out.2.2.2.2.1, HX.out.2.2.2.2.2] at this; omega)
          have h' : (x : Int) < y := by omega
          go_wp2
          go_region_held3 (fun w' => w'.cell? ⟨bx, fx + m, none⟩ = some (.int .u64 (x : Nat)) ∧ w'.cell? ⟨by', fy + m, none⟩ = some (.int .u64 (y : Nat))) (simp [go_sem, *]) (fail)
          go_wp2
          go_ret
          exact ⟨by rw [E.out]; rfl, by repeat (first | assumption | apply Below.drew)⟩
        · subst h
          have hN : Hid (xs.drop m = ys.drop m) := by
            unfold Hid
            have hmx : m < xs.length := hlen.out.2
            have hmy : m < ys.length := by rw [← hlen.out.1]; exact hmx
            rw [List.drop_eq_getElem_cons hmx, List.drop_eq_getElem_cons hmy, hdm.out]
            congr 1
            have e1 := EX.out.1
            have e2 := EX.out.2
            simp only [List.getD, List.getElem?_eq_getElem hlen.out.2, Option.getD_some] at e1
            simp only [List.getD, List.getElem?_eq_getElem (show m < ys.length by rw [← hlen.out.1]; exact hlen.out.2), Option.getD_some] at e2
            rw [← e1, ← e2]
          go_wp2
          go_region_held3 (fun w' => w'.cell? ⟨bx, fx + m, none⟩ = some (.int .u64 (x : Nat)) ∧ w'.cell? ⟨by', fy + m, none⟩ = some (.int .u64 (x : Nat))) (simp [go_sem, *]) (fail)
          go_wp2
          go_region_held3 (fun w' => w'.cell? ⟨bx, fx + m, none⟩ = some (.int .u64 (x : Nat)) ∧ w'.cell? ⟨by', fy + m, none⟩ = some (.int .u64 (x : Nat))) (simp [go_sem, *]) (fail)
          go_wp2
          refine ⟨⟨(m : Int) - 1, rfl, by omega, by omega, ?_, ?_⟩, by simp [intOf]⟩
          · rw [show ((m : Int) - 1 + 1).toNat = m by omega]; exact hN
          · repeat (first | assumption | apply Below.drew)
        · have E : Hid (sg (a : Int) b = 1) := sg_gt (by have := top_less (by decide) HX.out.2.2.2.1 hlen.out.1.symm (by rw [← hlen.out.1]; exact hlen.out.2) hdm.out.symm (by rw [← EX.out.1, ← EX.out.2]; exact h); rw [HX.out.2.2.2.2.1, HX.out.2.2.2.2.2] at this; omega)
          have h' : (y : Int) < x := by omega
          go_wp2
          go_region_held3 (fun w' => w'.cell? ⟨bx, fx + m, none⟩ = some (.int .u64 (x : Nat)) ∧ w'.cell? ⟨by', fy + m, none⟩ = some (.int .u64 (y : Nat))) (simp [go_sem, *]) (fail)
          go_wp2
          go_region_held3 (fun w' => w'.cell? ⟨bx, fx + m, none⟩ = some (.int .u64 (x : Nat)) ∧ w'.cell? ⟨by', fy + m, none⟩ = some (.int .u64 (y : Nat))) (simp [go_sem, *]) (fail)
          go_wp2
          go_ret
          exact ⟨by rw [E.out]; rfl, by repeat (first | assumption | apply Below.drew)⟩
  · have E := Lib.hid (sg_gt (show (b : Int) < a by have := len_less (by decide) y1 x3 hl; omega))
    have hl' : (ys.length : Int) < xs.length := by omega
    have hn : ((xs.length : Int) == ys.length) = false := by simp; omega
    clear rx ry hcx hcy x1 y1 x2 y2 x3 y3 hl
    go_enter Try.func100, Try.ntmps100
    go_wp2
    go_ret
    exact ⟨by rw [E.out]; rfl, Below.refl _ _⟩
end Go.Proofs.Ytkpkejccphpkpaa
