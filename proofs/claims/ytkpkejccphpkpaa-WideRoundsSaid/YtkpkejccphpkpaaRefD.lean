/-
  The document's own answer for package wide: the nearest quotient.
-/
import Derived.Test.YtkpkejccphpkpaaRefC
import Derived.Test.YtkpkejccphpkpaaNumN
namespace Go.Proofs.Ytkpkejccphpkpaa
open Go.RowKit

theorem near_is (a : Int) {b : Int} (h0 : b ≠ 0) : nr ((if b < 0 then -a else a).tdiv (Nat.gcd (if b < 0 then -a else a).natAbs b.natAbs : Nat)) (b.natAbs / Nat.gcd (if b < 0 then -a else a).natAbs b.natAbs) = rd a b ∧ b.natAbs / Nat.gcd (if b < 0 then -a else a).natAbs b.natAbs ≠ 0 := by
  obtain ⟨h1, h2⟩ := lowest (if b < 0 then -a else a) (D := b.natAbs) (by omega)
  refine ⟨h1.trans ?_, h2⟩
  by_cases h : b < 0
  · rw [if_pos h]
    have e : ((b.natAbs : Nat) : Int) = -b := by omega
    rw [e]
    exact rd_flip a h
  · rw [if_neg h]
    have e : ((b.natAbs : Nat) : Int) = b := by omega
    rw [e]
theorem near_low {a b : Int} (ga : a.natAbs < LOW) (gb : b.natAbs < LOW) : ((if b < 0 then -a else a).tdiv (Nat.gcd (if b < 0 then -a else a).natAbs b.natAbs : Nat)).natAbs < LOW ∧ b.natAbs / Nat.gcd (if b < 0 then -a else a).natAbs b.natAbs < LOW := by
  refine ⟨?_, Nat.lt_of_le_of_lt (Nat.div_le_self _ _) gb⟩
  have e : (if b < 0 then -a else a).natAbs = a.natAbs := by split <;> simp
  refine Nat.lt_of_le_of_lt ?_ ga
  rw [Int.natAbs_tdiv, e]
  exact Nat.div_le_self _ _
set_option maxRecDepth 100000 in
set_option maxHeartbeats 8000000 in
/-- Round -/
theorem refround_any (x y : Value) (a b : Int) (w : World) (ha : IsI w x a) (hb : IsI w y b) (ga : a.natAbs < LOW) (gb : b.natAbs < LOW) (h0 : b ≠ 0) : Calls Try.prog 12 #[x, y] w (SomeI w (rd a b)) := by
  obtain ⟨ba, oa, la, ca, rfl, Ha⟩ := ha.open
  obtain ⟨bb, ob, lb, cb, rfl, Hb⟩ := hb.open
  have NI := Lib.hid (near_is a h0)
  have NL := Lib.hid (near_low ga gb)
  have RC := Lib.hid (fun W x y h k => refrat_any x y a b W h k (low_big ga).2.2.2.1 (low_big gb).2.2.2.1 h0)
  clear ga gb h0 ha hb
  generalize (if b < 0 then -a else a).tdiv (Nat.gcd (if b < 0 then -a else a).natAbs b.natAbs : Nat) = p at *
  generalize b.natAbs / Nat.gcd (if b < 0 then -a else a).natAbs b.natAbs = q at *
  go_enter Try.func12, Try.ntmps12
  go_wp2_with (first | (go_at_call 62; (with_reducible refine (RC.out _ _ _ ((IsI.mk Ha.out.1 Ha.out.2.1).below (by repeat (first | exact Below.refl _ _ | assumption | apply Below.drew | refine Below.setCell ?_ (by first | omega | (simp; done) | (simp; omega)) _ | refine Below.alloc ?_ (by first | omega | (simp; done) | (simp; omega)) _))) ((IsI.mk Hb.out.1 Hb.out.2.1).below (by repeat (first | exact Below.refl _ _ | assumption | apply Below.drew | refine Below.setCell ?_ (by first | omega | (simp; done) | (simp; omega)) _ | refine Below.alloc ?_ (by first | omega | (simp; done) | (simp; omega)) _)))).mono ?_); rintro e w1 ⟨bv, o1, l1, c1, o2, l2, c2, rfl, hv, hb1⟩; have e10 : w1.cell? ⟨w.heap.size, 0, none⟩ = some (.bool ba) := cell_on hb1 (by first | (simp [go_sem, *]; done) | (simp [go_sem, World.cell?_alloc_some, *]; done) | fail); have e11 : w1.cell? ⟨w.heap.size, 1, none⟩ = some (Value.slice oa la ca) := cell_on hb1 (by first | (simp [go_sem, *]; done) | (simp [go_sem, World.cell?_alloc_some, *]; done) | fail); have e12 : w1.cell? ⟨w.heap.size + 1, 0, none⟩ = some (.bool bb) := cell_on hb1 (by first | (simp [go_sem, *]; done) | (simp [go_sem, World.cell?_alloc_some, *]; done) | fail); have e13 : w1.cell? ⟨w.heap.size + 1, 1, none⟩ = some (Value.slice ob lb cb) := cell_on hb1 (by first | (simp [go_sem, *]; done) | (simp [go_sem, World.cell?_alloc_some, *]; done) | fail); have e14 : w1.cell? ⟨w.heap.size + 2, 0, none⟩ = some (.bool false) := cell_on hb1 (by first | (simp [go_sem, *]; done) | (simp [go_sem, World.cell?_alloc_some, *]; done) | fail); have e15 : w1.cell? ⟨w.heap.size + 2, 1, none⟩ = some (.slice none 0 0) := cell_on hb1 (by first | (simp [go_sem, *]; done) | (simp [go_sem, World.cell?_alloc_some, *]; done) | fail); have s10 : w.heap.size < w1.heap.size := World.block_lt_of_cell? _ _ e10; have t10 : w.heap.size < w1.heap.size + 1 := Nat.lt_succ_of_lt s10; have s12 : w.heap.size + 1 < w1.heap.size := World.block_lt_of_cell? _ _ e12; have t12 : w.heap.size + 1 < w1.heap.size + 1 := Nat.lt_succ_of_lt s12; have s14 : w.heap.size + 2 < w1.heap.size := World.block_lt_of_cell? _ _ e14; have t14 : w.heap.size + 2 < w1.heap.size + 1 := Nat.lt_succ_of_lt s14; have y14 : w1.frozen? ⟨w.heap.size + 2, 0, none⟩ = false := frozen_on hb1 (v := .bool false) (by first | (simp [go_sem, *]; done) | (simp [go_sem, World.cell?_alloc_some, *]; done) | fail) (by first | (simp [go_sem, *]; done) | (simp [go_sem, frozen?_alloc_cells, *]; done) | fail); have y15 : w1.frozen? ⟨w.heap.size + 2, 1, none⟩ = false := frozen_on hb1 (v := .slice none 0 0) (by first | (simp [go_sem, *]; done) | (simp [go_sem, World.cell?_alloc_some, *]; done) | fail) (by first | (simp [go_sem, *]; done) | (simp [go_sem, frozen?_alloc_cells, *]; done) | fail); have q1 := hb1.size; (try simp at q1)) | (go_at_call 61; (with_reducible refine (near_rat bv o1 o2 l1 c1 l2 c2 p q _ hv.out.1 (hv.out.2.1.below (by repeat (first | exact Below.refl _ _ | assumption | apply Below.drew | refine Below.setCell ?_ (by first | omega | (simp; done) | (simp; omega)) _ | refine Below.alloc ?_ (by first | omega | (simp; done) | (simp; omega)) _))) (hv.out.2.2.below (by repeat (first | exact Below.refl _ _ | assumption | apply Below.drew | refine Below.setCell ?_ (by first | omega | (simp; done) | (simp; omega)) _ | refine Below.alloc ?_ (by first | omega | (simp; done) | (simp; omega)) _))) NL.out.1 NL.out.2 NI.out.2).mono ?_); rintro e w2 ⟨vn, rfl, hn, hb2⟩; have e20 : w2.cell? ⟨w.heap.size, 0, none⟩ = some (.bool ba) := cell_on hb2 (by first | (simp [go_sem, *]; done) | (simp [go_sem, World.cell?_alloc_some, *]; done) | fail); have e21 : w2.cell? ⟨w.heap.size, 1, none⟩ = some (Value.slice oa la ca) := cell_on hb2 (by first | (simp [go_sem, *]; done) | (simp [go_sem, World.cell?_alloc_some, *]; done) | fail); have e22 : w2.cell? ⟨w.heap.size + 1, 0, none⟩ = some (.bool bb) := cell_on hb2 (by first | (simp [go_sem, *]; done) | (simp [go_sem, World.cell?_alloc_some, *]; done) | fail); have e23 : w2.cell? ⟨w.heap.size + 1, 1, none⟩ = some (Value.slice ob lb cb) := cell_on hb2 (by first | (simp [go_sem, *]; done) | (simp [go_sem, World.cell?_alloc_some, *]; done) | fail); have e24 : w2.cell? ⟨w.heap.size + 2, 0, none⟩ = some (.bool false) := cell_on hb2 (by first | (simp [go_sem, *]; done) | (simp [go_sem, World.cell?_alloc_some, *]; done) | fail); have e25 : w2.cell? ⟨w.heap.size + 2, 1, none⟩ = some (.slice none 0 0) := cell_on hb2 (by first | (simp [go_sem, *]; done) | (simp [go_sem, World.cell?_alloc_some, *]; done) | fail); have s20 : w.heap.size < w2.heap.size := World.block_lt_of_cell? _ _ e20; have t20 : w.heap.size < w2.heap.size + 1 := Nat.lt_succ_of_lt s20; have s22 : w.heap.size + 1 < w2.heap.size := World.block_lt_of_cell? _ _ e22; have t22 : w.heap.size + 1 < w2.heap.size + 1 := Nat.lt_succ_of_lt s22; have s24 : w.heap.size + 2 < w2.heap.size := World.block_lt_of_cell? _ _ e24; have t24 : w.heap.size + 2 < w2.heap.size + 1 := Nat.lt_succ_of_lt s24; have y24 : w2.frozen? ⟨w.heap.size + 2, 0, none⟩ = false := frozen_on hb2 (v := .bool false) (by first | (simp [go_sem, *]; done) | (simp [go_sem, World.cell?_alloc_some, *]; done) | fail) (by first | (simp [go_sem, *]; done) | (simp [go_sem, frozen?_alloc_cells, *]; done) | fail); have y25 : w2.frozen? ⟨w.heap.size + 2, 1, none⟩ = false := frozen_on hb2 (v := .slice none 0 0) (by first | (simp [go_sem, *]; done) | (simp [go_sem, World.cell?_alloc_some, *]; done) | fail) (by first | (simp [go_sem, *]; done) | (simp [go_sem, frozen?_alloc_cells, *]; done) | fail); have q2 := hb2.size; (try simp at q2); obtain ⟨bn, on, ln, cn, rfl, Hn⟩ := hn.open; clear hn) | fail)
  all_goals
    refine bodyPost_ret (v := Iv bn (.slice on ln cn)) (by simp [results, Try.results12, go_sem, *]) rfl ⟨_, rfl, ?_, ?_⟩
    · rw [← NI.out.1]; exact IsI.put (v0 := .bool false) (v1 := .slice none 0 0) (IsI.mk Hn.out.1 Hn.out.2.1) e24 (by simp) e25 (by simp)
    · repeat (first | exact Below.refl _ _ | assumption | apply Below.drew | refine Below.setCell ?_ (by first | omega | (simp; done) | (simp; omega)) _ | refine Below.alloc ?_ (by first | omega | (simp; done) | (simp; omega)) _ | refine Below.trans ?_ (hb2.mono (by first | omega | (simp; done) | (simp; omega))) | refine Below.trans ?_ (hb1.mono (by first | omega | (simp; done) | (simp; omega))))
end Go.Proofs.Ytkpkejccphpkpaa
