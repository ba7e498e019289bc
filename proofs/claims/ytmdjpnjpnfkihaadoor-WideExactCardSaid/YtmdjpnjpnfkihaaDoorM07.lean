/-
  The document's own answer for package wide: a whole number as a wide one.
  Is an answer of package wide the document's own?
  WideExact: the answers of package wide against those of whole numbers, in one piece each.
  A list of pairs that came in, opened to the cells of its elements.
-/
import Derived.Deep.Slices
import Derived.Deep.Fields
import Derived.ProofKit
import Derived.Carry
import Derived.Test.YtmdjpnjpnfkihaaDoorM02
import Derived.Test.YtmdjpnjpnfkihaaDoorM05
import Derived.Test.YtmdjpnjpnfkihaaDoorM06
namespace Go.Proofs.YtmdjpnjpnfkihaaDoor
open Go.RowKit

theorem IsI.al2 {w : World} {x : Value} {z : Int} (h : IsI w x z) (o : Obj) : IsI (w.alloc o) x z := h.below ((Below.refl _ _).alloc (Nat.le_refl _) _)
theorem IsI.mag {w : World} {b : Bool} {m : Value} {z : Int} (h : IsI w (Iv b m) z) : IsN w m z.natAbs := by
  obtain ⟨m', e, hn⟩ := h
  simp only [Value.agg.injEq, Array.mk.injEq, List.cons.injEq, and_true] at e
  rw [e.2]; exact hn
theorem fits_hi (n : Int) : (R n → isS (n / 2 ^ 64) = true ∧ n / 2 ^ 64 = hi n ∧ n - n / 2 ^ 64 * 2 ^ 64 = lo n) ∧ (¬ R n → isS (n / 2 ^ 64) = false) := by
  have p : (2 : Int) ^ 64 = 18446744073709551616 := by decide
  rw [p, R_iff]
  refine ⟨fun h => ⟨isS_mk (by omega), rfl, by unfold lo; omega⟩, fun h => ?_⟩
  unfold isS
  simp only [decide_eq_false_iff_not]
  omega

set_option maxRecDepth 100000 in
set_option maxHeartbeats 8000000 in
/-- Wide, of a number that is none -/
theorem refwide_no (x : Value) (n : Int) (w : World) (h : IsI w x n) (gn : n.natAbs < BIG) (hr : ¬ R n) : Calls Tryd.prog 41 #[x] w fun e w' => e = .returned (.tuple #[Wv 0, .bool false]) ∧ Below w.heap.size w w' := by
  obtain ⟨ba, oa, la, ca, rfl, Ha⟩ := h.open
  have hs := (fits_hi n).2 hr
  have SC : Hid (∀ (W : World) (v : Value), IsI W v (n / 2 ^ 64) → Calls Tryd.prog 27 #[v] W fun e w' => e = .returned (.tuple #[.int .i64 0, .bool false]) ∧ Below W.heap.size W w') := fun W v hv => by
    have := ismall_any v _ W hv
    rw [hs, show Go.Proofs.YtmdjpnjpnfkihaaDoor.sm (n / 2 ^ 64) = 0 from if_neg (by rw [hs]; decide)] at this
    exact this
  have G : Hid (n.natAbs < BIG ∧ True) := ⟨gn, trivial⟩
  clear hs hr gn h
  go_enter Tryd.func41, Tryd.ntmps41
  go_wp2_with (first | (go_at_call 67; (with_reducible refine (iright_64 _ n _ ((IsI.mk Ha.out.1 Ha.out.2.1).below (by repeat (first | exact Below.refl _ _ | assumption | apply Below.drew | refine Below.setCell ?_ (by first | omega | (simp; done) | (simp; omega)) _ | refine Below.alloc ?_ (by first | omega | (simp; done) | (simp; omega)) _))) G.out.1).mono ?_); rintro e w1 ⟨vh, rfl, hv, hb1⟩; have e10 : w1.cell? ⟨w.heap.size, 0, none⟩ = some (.bool ba) := cell_on hb1 (by first | (simp [go_sem, *]; done) | (simp [go_sem, World.cell?_alloc_some, *]; done) | fail); have e11 : w1.cell? ⟨w.heap.size, 1, none⟩ = some (Value.slice oa la ca) := cell_on hb1 (by first | (simp [go_sem, *]; done) | (simp [go_sem, World.cell?_alloc_some, *]; done) | fail); have e12 : w1.cell? ⟨w.heap.size + 1, 0, none⟩ = some (.int .i64 0) := cell_on hb1 (by first | (simp [go_sem, *]; done) | (simp [go_sem, World.cell?_alloc_some, *]; done) | fail); have e13 : w1.cell? ⟨w.heap.size + 1, 1, none⟩ = some (.int .u64 0) := cell_on hb1 (by first | (simp [go_sem, *]; done) | (simp [go_sem, World.cell?_alloc_some, *]; done) | fail); have s10 : w.heap.size < w1.heap.size := World.block_lt_of_cell? _ _ e10; have t10 : w.heap.size < w1.heap.size + 1 := Nat.lt_succ_of_lt s10; have s12 : w.heap.size + 1 < w1.heap.size := World.block_lt_of_cell? _ _ e12; have t12 : w.heap.size + 1 < w1.heap.size + 1 := Nat.lt_succ_of_lt s12; have y12 : w1.frozen? ⟨w.heap.size + 1, 0, none⟩ = false := frozen_on hb1 (v := .int .i64 0) (by first | (simp [go_sem, *]; done) | (simp [go_sem, World.cell?_alloc_some, *]; done) | fail) (by first | (simp [go_sem, *]; done) | (simp [go_sem, frozen?_alloc_cells, *]; done) | fail); have y13 : w1.frozen? ⟨w.heap.size + 1, 1, none⟩ = false := frozen_on hb1 (v := .int .u64 0) (by first | (simp [go_sem, *]; done) | (simp [go_sem, World.cell?_alloc_some, *]; done) | fail) (by first | (simp [go_sem, *]; done) | (simp [go_sem, frozen?_alloc_cells, *]; done) | fail); have q1 := hb1.size; (try simp at q1); obtain ⟨bh, oh, lh, ch, rfl, Hh⟩ := hv.open; clear hv) | (go_at_call 27; (with_reducible refine (SC.out _ _ ((IsI.mk Hh.out.1 Hh.out.2.1).below (by repeat (first | exact Below.refl _ _ | assumption | apply Below.drew | refine Below.setCell ?_ (by first | omega | (simp; done) | (simp; omega)) _ | refine Below.alloc ?_ (by first | omega | (simp; done) | (simp; omega)) _)))).mono ?_); rintro e w2 ⟨rfl, hb2⟩; have e20 : w2.cell? ⟨w.heap.size, 0, none⟩ = some (.bool ba) := cell_on hb2 (by first | (simp [go_sem, *]; done) | (simp [go_sem, World.cell?_alloc_some, *]; done) | fail); have e21 : w2.cell? ⟨w.heap.size, 1, none⟩ = some (Value.slice oa la ca) := cell_on hb2 (by first | (simp [go_sem, *]; done) | (simp [go_sem, World.cell?_alloc_some, *]; done) | fail); have e22 : w2.cell? ⟨w.heap.size + 1, 0, none⟩ = some (.int .i64 0) := cell_on hb2 (by first | (simp [go_sem, *]; done) | (simp [go_sem, World.cell?_alloc_some, *]; done) | fail); have e23 : w2.cell? ⟨w.heap.size + 1, 1, none⟩ = some (.int .u64 0) := cell_on hb2 (by first | (simp [go_sem, *]; done) | (simp [go_sem, World.cell?_alloc_some, *]; done) | fail); have e24 : w2.cell? ⟨w1.heap.size, 0, none⟩ = some (.bool bh) := cell_on hb2 (by first | (simp [go_sem, *]; done) | (simp [go_sem, World.cell?_alloc_some, *]; done) | fail); have e25 : w2.cell? ⟨w1.heap.size, 1, none⟩ = some (Value.slice oh lh ch) := cell_on hb2 (by first | (simp [go_sem, *]; done) | (simp [go_sem, World.cell?_alloc_some, *]; done) | fail); have s20 : w.heap.size < w2.heap.size := World.block_lt_of_cell? _ _ e20; have t20 : w.heap.size < w2.heap.size + 1 := Nat.lt_succ_of_lt s20; have s22 : w.heap.size + 1 < w2.heap.size := World.block_lt_of_cell? _ _ e22; have t22 : w.heap.size + 1 < w2.heap.size + 1 := Nat.lt_succ_of_lt s22; have s24 : w1.heap.size < w2.heap.size := World.block_lt_of_cell? _ _ e24; have t24 : w1.heap.size < w2.heap.size + 1 := Nat.lt_succ_of_lt s24; have y22 : w2.frozen? ⟨w.heap.size + 1, 0, none⟩ = false := frozen_on hb2 (v := .int .i64 0) (by first | (simp [go_sem, *]; done) | (simp [go_sem, World.cell?_alloc_some, *]; done) | fail) (by first | (simp [go_sem, *]; done) | (simp [go_sem, frozen?_alloc_cells, *]; done) | fail); have y23 : w2.frozen? ⟨w.heap.size + 1, 1, none⟩ = false := frozen_on hb2 (v := .int .u64 0) (by first | (simp [go_sem, *]; done) | (simp [go_sem, World.cell?_alloc_some, *]; done) | fail) (by first | (simp [go_sem, *]; done) | (simp [go_sem, frozen?_alloc_cells, *]; done) | fail); have q2 := hb2.size; (try simp at q2)) | fail)
  refine bodyPost_ret (v := .tuple #[.agg #[.int .i64 0, .int .u64 0], .bool false]) (by simp [results, Tryd.results41, go_sem, *]) rfl ⟨rfl, ?_⟩
  repeat (first | exact Below.refl _ _ | assumption | apply Below.drew | refine Below.setCell ?_ (by first | omega | (simp; done) | (simp; omega)) _ | refine Below.alloc ?_ (by first | omega | (simp; done) | (simp; omega)) _ | refine Below.trans ?_ (hb2.mono (by first | omega | (simp; done) | (simp; omega))) | refine Below.trans ?_ (hb1.mono (by first | omega | (simp; done) | (simp; omega))))
set_option maxRecDepth 100000 in
set_option maxHeartbeats 8000000 in
/-- Wide -/
theorem refwide_any (x : Value) (n : Int) (w : World) (h : IsI w x n) (hr : R n) : Calls Tryd.prog 41 #[x] w fun e w' => e = .returned (.tuple #[Wv n, .bool true]) ∧ Below w.heap.size w w' := by
  obtain ⟨ba, oa, la, ca, rfl, Ha⟩ := h.open
  obtain ⟨hs, hh, hl⟩ := (fits_hi n).1 hr
  have SC : Hid (∀ (W : World) (v : Value), IsI W v (n / 2 ^ 64) → Calls Tryd.prog 27 #[v] W fun e w' => e = .returned (.tuple #[.int .i64 (hi n), .bool true]) ∧ Below W.heap.size W w') := fun W v hv => by
    have := ismall_any v _ W hv
    rw [hs, show Go.Proofs.YtmdjpnjpnfkihaaDoor.sm (n / 2 ^ 64) = n / 2 ^ 64 from if_pos hs, hh] at this
    exact this
  have nb : n.natAbs < BIG ∧ (n / 2 ^ 64).natAbs < BIG ∧ (n / 2 ^ 64 * 2 ^ 64).natAbs < BIG := by
    have p : (2 : Int) ^ 64 = 18446744073709551616 := by decide
    rw [R_iff] at hr
    exact ⟨big_of (k := 128) (by omega) (by decide), big_of (k := 128) (by omega) (by decide), big_of (k := 130) (by omega) (by decide)⟩
  have G := Lib.hid nb
  have HL := Lib.hid hl
  have lb := lo_bd n
  have LB := Lib.hid lb
  clear hs hr h hh hl nb lb
  go_enter Tryd.func41, Tryd.ntmps41
  go_wp2_with (first | (go_at_call 67; (with_reducible refine (iright_64 _ n _ ((IsI.mk Ha.out.1 Ha.out.2.1).below (by repeat (first | exact Below.refl _ _ | assumption | apply Below.drew | refine Below.setCell ?_ (by first | omega | (simp; done) | (simp; omega)) _ | refine Below.alloc ?_ (by first | omega | (simp; done) | (simp; omega)) _))) G.out.1).mono ?_); rintro e w1 ⟨vh, rfl, hv, hb1⟩; have e10 : w1.cell? ⟨w.heap.size, 0, none⟩ = some (.bool ba) := cell_on hb1 (by first | (simp [go_sem, *]; done) | (simp [go_sem, World.cell?_alloc_some, *]; done) | fail); have e11 : w1.cell? ⟨w.heap.size, 1, none⟩ = some (Value.slice oa la ca) := cell_on hb1 (by first | (simp [go_sem, *]; done) | (simp [go_sem, World.cell?_alloc_some, *]; done) | fail); have e12 : w1.cell? ⟨w.heap.size + 1, 0, none⟩ = some (.int .i64 0) := cell_on hb1 (by first | (simp [go_sem, *]; done) | (simp [go_sem, World.cell?_alloc_some, *]; done) | fail); have e13 : w1.cell? ⟨w.heap.size + 1, 1, none⟩ = some (.int .u64 0) := cell_on hb1 (by first | (simp [go_sem, *]; done) | (simp [go_sem, World.cell?_alloc_some, *]; done) | fail); have s10 : w.heap.size < w1.heap.size := World.block_lt_of_cell? _ _ e10; have t10 : w.heap.size < w1.heap.size + 1 := Nat.lt_succ_of_lt s10; have s12 : w.heap.size + 1 < w1.heap.size := World.block_lt_of_cell? _ _ e12; have t12 : w.heap.size + 1 < w1.heap.size + 1 := Nat.lt_succ_of_lt s12; have y12 : w1.frozen? ⟨w.heap.size + 1, 0, none⟩ = false := frozen_on hb1 (v := .int .i64 0) (by first | (simp [go_sem, *]; done) | (simp [go_sem, World.cell?_alloc_some, *]; done) | fail) (by first | (simp [go_sem, *]; done) | (simp [go_sem, frozen?_alloc_cells, *]; done) | fail); have y13 : w1.frozen? ⟨w.heap.size + 1, 1, none⟩ = false := frozen_on hb1 (v := .int .u64 0) (by first | (simp [go_sem, *]; done) | (simp [go_sem, World.cell?_alloc_some, *]; done) | fail) (by first | (simp [go_sem, *]; done) | (simp [go_sem, frozen?_alloc_cells, *]; done) | fail); have q1 := hb1.size; (try simp at q1); obtain ⟨bh, oh, lh, ch, rfl, Hh⟩ := hv.open; clear hv) | (go_at_call 27; (with_reducible refine (SC.out _ _ ((IsI.mk Hh.out.1 Hh.out.2.1).below (by repeat (first | exact Below.refl _ _ | assumption | apply Below.drew | refine Below.setCell ?_ (by first | omega | (simp; done) | (simp; omega)) _ | refine Below.alloc ?_ (by first | omega | (simp; done) | (simp; omega)) _)))).mono ?_); rintro e w2 ⟨rfl, hb2⟩; have e20 : w2.cell? ⟨w.heap.size, 0, none⟩ = some (.bool ba) := cell_on hb2 (by first | (simp [go_sem, *]; done) | (simp [go_sem, World.cell?_alloc_some, *]; done) | fail); have e21 : w2.cell? ⟨w.heap.size, 1, none⟩ = some (Value.slice oa la ca) := cell_on hb2 (by first | (simp [go_sem, *]; done) | (simp [go_sem, World.cell?_alloc_some, *]; done) | fail); have e22 : w2.cell? ⟨w.heap.size + 1, 0, none⟩ = some (.int .i64 0) := cell_on hb2 (by first | (simp [go_sem, *]; done) | (simp [go_sem, World.cell?_alloc_some, *]; done) | fail); have e23 : w2.cell? ⟨w.heap.size + 1, 1, none⟩ = some (.int .u64 0) := cell_on hb2 (by first | (simp [go_sem, *]; done) | (simp [go_sem, World.cell?_alloc_some, *]; done) | fail); have e24 : w2.cell? ⟨w1.heap.size, 0, none⟩ = some (.bool bh) := cell_on hb2 (by first | (simp [go_sem, *]; done) | (simp [go_sem, World.cell?_alloc_some, *]; done) | fail); have e25 : w2.cell? ⟨w1.heap.size, 1, none⟩ = some (Value.slice oh lh ch) := cell_on hb2 (by first | (simp [go_sem, *]; done) | (simp [go_sem, World.cell?_alloc_some, *]; done) | fail); have s20 : w.heap.size < w2.heap.size := World.block_lt_of_cell? _ _ e20; have t20 : w.heap.size < w2.heap.size + 1 := Nat.lt_succ_of_lt s20; have s22 : w.heap.size + 1 < w2.heap.size := World.block_lt_of_cell? _ _ e22; have t22 : w.heap.size + 1 < w2.heap.size + 1 := Nat.lt_succ_of_lt s22; have s24 : w1.heap.size < w2.heap.size := World.block_lt_of_cell? _ _ e24; have t24 : w1.heap.size < w2.heap.size + 1 := Nat.lt_succ_of_lt s24; have y22 : w2.frozen? ⟨w.heap.size + 1, 0, none⟩ = false := frozen_on hb2 (v := .int .i64 0) (by first | (simp [go_sem, *]; done) | (simp [go_sem, World.cell?_alloc_some, *]; done) | fail) (by first | (simp [go_sem, *]; done) | (simp [go_sem, frozen?_alloc_cells, *]; done) | fail); have y23 : w2.frozen? ⟨w.heap.size + 1, 1, none⟩ = false := frozen_on hb2 (v := .int .u64 0) (by first | (simp [go_sem, *]; done) | (simp [go_sem, World.cell?_alloc_some, *]; done) | fail) (by first | (simp [go_sem, *]; done) | (simp [go_sem, frozen?_alloc_cells, *]; done) | fail); have q2 := hb2.size; (try simp at q2)) | fail)
  go_cut [7] (fun s7 wx => ∃ (B7 : Nat) (bv : Bool) (ov : Option Addr) (lv cv : Nat), s7 = .pointer (some ⟨B7, 0, none⟩) ∧ wx.cell? ⟨w.heap.size + 1, 0, none⟩ = some (.int .i64 0) ∧ wx.cell? ⟨w.heap.size + 1, 1, none⟩ = some (.int .u64 0) ∧ wx.cell? ⟨B7, 0, none⟩ = some (.bool bv) ∧ wx.cell? ⟨B7, 1, none⟩ = some (.slice ov lv cv) ∧ wx.frozen? ⟨w.heap.size + 1, 0, none⟩ = false ∧ wx.frozen? ⟨w.heap.size + 1, 1, none⟩ = false ∧ IsI wx (Iv bv (.slice ov lv cv)) (lo n) ∧ Below w.heap.size w wx)
  case first =>
    go_region_held3 (fun w' => w'.cell? ⟨w.heap.size, 0, none⟩ = some (.bool ba) ∧ w'.cell? ⟨w.heap.size, 1, none⟩ = some (Value.slice oa la ca) ∧ w'.cell? ⟨w1.heap.size, 0, none⟩ = some (.bool bh) ∧ w'.cell? ⟨w1.heap.size, 1, none⟩ = some (Value.slice oh lh ch)) (first | (simp [go_sem, *]; done) | (simp [go_sem, World.cell?_alloc_some, *]; done)) (first | (go_at_call 15; (with_reducible refine (ileft_64 _ (n / 2 ^ 64) _ ((IsI.mk Hh.out.1 Hh.out.2.1).below (by repeat (first | exact Below.refl _ _ | assumption | apply Below.drew | refine Below.setCell ?_ (by first | omega | (simp; done) | (simp; omega)) _ | refine Below.alloc ?_ (by first | omega | (simp; done) | (simp; omega)) _ | refine Below.trans ?_ (hb2.mono (by first | omega | (simp; done) | (simp; omega)))))) G.out.2.1).mono ?_); rintro e w3 ⟨vm, rfl, hv, hb3⟩; have e30 : w3.cell? ⟨w.heap.size, 0, none⟩ = some (.bool ba) := cell_on hb3 (by first | (simp [go_sem, *]; done) | (simp [go_sem, World.cell?_alloc_some, *]; done) | fail); have e31 : w3.cell? ⟨w.heap.size, 1, none⟩ = some (Value.slice oa la ca) := cell_on hb3 (by first | (simp [go_sem, *]; done) | (simp [go_sem, World.cell?_alloc_some, *]; done) | fail); have e32 : w3.cell? ⟨w.heap.size + 1, 0, none⟩ = some (.int .i64 0) := cell_on hb3 (by first | (simp [go_sem, *]; done) | (simp [go_sem, World.cell?_alloc_some, *]; done) | fail); have e33 : w3.cell? ⟨w.heap.size + 1, 1, none⟩ = some (.int .u64 0) := cell_on hb3 (by first | (simp [go_sem, *]; done) | (simp [go_sem, World.cell?_alloc_some, *]; done) | fail); have e34 : w3.cell? ⟨w1.heap.size, 0, none⟩ = some (.bool bh) := cell_on hb3 (by first | (simp [go_sem, *]; done) | (simp [go_sem, World.cell?_alloc_some, *]; done) | fail); have e35 : w3.cell? ⟨w1.heap.size, 1, none⟩ = some (Value.slice oh lh ch) := cell_on hb3 (by first | (simp [go_sem, *]; done) | (simp [go_sem, World.cell?_alloc_some, *]; done) | fail); have s30 : w.heap.size < w3.heap.size := World.block_lt_of_cell? _ _ e30; have t30 : w.heap.size < w3.heap.size + 1 := Nat.lt_succ_of_lt s30; have s32 : w.heap.size + 1 < w3.heap.size := World.block_lt_of_cell? _ _ e32; have t32 : w.heap.size + 1 < w3.heap.size + 1 := Nat.lt_succ_of_lt s32; have s34 : w1.heap.size < w3.heap.size := World.block_lt_of_cell? _ _ e34; have t34 : w1.heap.size < w3.heap.size + 1 := Nat.lt_succ_of_lt s34; have y32 : w3.frozen? ⟨w.heap.size + 1, 0, none⟩ = false := frozen_on hb3 (v := .int .i64 0) (by first | (simp [go_sem, *]; done) | (simp [go_sem, World.cell?_alloc_some, *]; done) | fail) (by first | (simp [go_sem, *]; done) | (simp [go_sem, frozen?_alloc_cells, *]; done) | fail); have y33 : w3.frozen? ⟨w.heap.size + 1, 1, none⟩ = false := frozen_on hb3 (v := .int .u64 0) (by first | (simp [go_sem, *]; done) | (simp [go_sem, World.cell?_alloc_some, *]; done) | fail) (by first | (simp [go_sem, *]; done) | (simp [go_sem, frozen?_alloc_cells, *]; done) | fail); have q3 := hb3.size; (try simp at q3); obtain ⟨bm, om, lm, cm, rfl, Hm⟩ := hv.open; clear hv; (first | (have oa3w2 : w3.cell? ⟨w2.heap.size, 0, none⟩ = some (.bool false) := cell_on hb3 (by first | (simp [go_sem, *]; done) | (simp [go_sem, *]; done) | fail); have ob3w2 : w3.cell? ⟨w2.heap.size, 1, none⟩ = some (.slice none 0 0) := cell_on hb3 (by first | (simp [go_sem, *]; done) | (simp [go_sem, World.cell?_alloc_some, *]; done) | fail); have oc3w2 : w3.frozen? ⟨w2.heap.size, 0, none⟩ = false := frozen_on hb3 (v := .bool false) (by first | (simp [go_sem, *]; done) | (simp [go_sem, World.cell?_alloc_some, *]; done) | fail) (by first | (simp [go_sem, *]; done) | (simp [go_sem, frozen?_alloc_cells, *]; done) | fail); have od3w2 : w3.frozen? ⟨w2.heap.size, 1, none⟩ = false := frozen_on hb3 (v := .slice none 0 0) (by first | (simp [go_sem, *]; done) | (simp [go_sem, World.cell?_alloc_some, *]; done) | fail) (by first | (simp [go_sem, *]; done) | (simp [go_sem, frozen?_alloc_cells, *]; done) | fail); have oe3w2 : w2.heap.size < w3.heap.size := World.block_lt_of_cell? _ _ oa3w2) | skip)) | (go_at_call 11; (with_reducible refine (iless_any _ _ n (n / 2 ^ 64 * 2 ^ 64) _ ((IsI.mk Ha.out.1 Ha.out.2.1).below (by repeat (first | exact Below.refl _ _ | assumption | apply Below.drew | refine Below.setCell ?_ (by first | omega | (simp; done) | (simp; omega)) _ | refine Below.alloc ?_ (by first | omega | (simp; done) | (simp; omega)) _ | refine Below.trans ?_ (hb3.mono (by first | omega | (simp; done) | (simp; omega))) | refine Below.trans ?_ (hb2.mono (by first | omega | (simp; done) | (simp; omega))) | refine Below.trans ?_ (hb1.mono (by first | omega | (simp; done) | (simp; omega)))))) ((IsI.mk Hm.out.1 Hm.out.2.1).below (by repeat (first | exact Below.refl _ _ | assumption | apply Below.drew | refine Below.setCell ?_ (by first | omega | (simp; done) | (simp; omega)) _ | refine Below.alloc ?_ (by first | omega | (simp; done) | (simp; omega)) _))) G.out.1 G.out.2.2).mono ?_); rintro e w4 ⟨vv, rfl, hv, hb4⟩; have e40 : w4.cell? ⟨w.heap.size, 0, none⟩ = some (.bool ba) := cell_on hb4 (by first | (simp [go_sem, *]; done) | (simp [go_sem, World.cell?_alloc_some, *]; done) | fail); have e41 : w4.cell? ⟨w.heap.size, 1, none⟩ = some (Value.slice oa la ca) := cell_on hb4 (by first | (simp [go_sem, *]; done) | (simp [go_sem, World.cell?_alloc_some, *]; done) | fail); have e42 : w4.cell? ⟨w.heap.size + 1, 0, none⟩ = some (.int .i64 0) := cell_on hb4 (by first | (simp [go_sem, *]; done) | (simp [go_sem, World.cell?_alloc_some, *]; done) | fail); have e43 : w4.cell? ⟨w.heap.size + 1, 1, none⟩ = some (.int .u64 0) := cell_on hb4 (by first | (simp [go_sem, *]; done) | (simp [go_sem, World.cell?_alloc_some, *]; done) | fail); have e44 : w4.cell? ⟨w1.heap.size, 0, none⟩ = some (.bool bh) := cell_on hb4 (by first | (simp [go_sem, *]; done) | (simp [go_sem, World.cell?_alloc_some, *]; done) | fail); have e45 : w4.cell? ⟨w1.heap.size, 1, none⟩ = some (Value.slice oh lh ch) := cell_on hb4 (by first | (simp [go_sem, *]; done) | (simp [go_sem, World.cell?_alloc_some, *]; done) | fail); have s40 : w.heap.size < w4.heap.size := World.block_lt_of_cell? _ _ e40; have t40 : w.heap.size < w4.heap.size + 1 := Nat.lt_succ_of_lt s40; have s42 : w.heap.size + 1 < w4.heap.size := World.block_lt_of_cell? _ _ e42; have t42 : w.heap.size + 1 < w4.heap.size + 1 := Nat.lt_succ_of_lt s42; have s44 : w1.heap.size < w4.heap.size := World.block_lt_of_cell? _ _ e44; have t44 : w1.heap.size < w4.heap.size + 1 := Nat.lt_succ_of_lt s44; have y42 : w4.frozen? ⟨w.heap.size + 1, 0, none⟩ = false := frozen_on hb4 (v := .int .i64 0) (by first | (simp [go_sem, *]; done) | (simp [go_sem, World.cell?_alloc_some, *]; done) | fail) (by first | (simp [go_sem, *]; done) | (simp [go_sem, frozen?_alloc_cells, *]; done) | fail); have y43 : w4.frozen? ⟨w.heap.size + 1, 1, none⟩ = false := frozen_on hb4 (v := .int .u64 0) (by first | (simp [go_sem, *]; done) | (simp [go_sem, World.cell?_alloc_some, *]; done) | fail) (by first | (simp [go_sem, *]; done) | (simp [go_sem, frozen?_alloc_cells, *]; done) | fail); have q4 := hb4.size; (try simp at q4); obtain ⟨bv, ov, lv, cv, rfl, Hv⟩ := hv.open; clear hv; (first | (have oa4w2 : w4.cell? ⟨w2.heap.size, 0, none⟩ = some (.bool false) := cell_on hb4 (by first | (simp [go_sem, *]; done) | (simp [go_sem, World.cell?_alloc_some, *]; done) | fail); have ob4w2 : w4.cell? ⟨w2.heap.size, 1, none⟩ = some (.slice none 0 0) := cell_on hb4 (by first | (simp [go_sem, *]; done) | (simp [go_sem, World.cell?_alloc_some, *]; done) | fail); have oc4w2 : w4.frozen? ⟨w2.heap.size, 0, none⟩ = false := frozen_on hb4 (v := .bool false) (by first | (simp [go_sem, *]; done) | (simp [go_sem, World.cell?_alloc_some, *]; done) | fail) (by first | (simp [go_sem, *]; done) | (simp [go_sem, frozen?_alloc_cells, *]; done) | fail); have od4w2 : w4.frozen? ⟨w2.heap.size, 1, none⟩ = false := frozen_on hb4 (v := .slice none 0 0) (by first | (simp [go_sem, *]; done) | (simp [go_sem, World.cell?_alloc_some, *]; done) | fail) (by first | (simp [go_sem, *]; done) | (simp [go_sem, frozen?_alloc_cells, *]; done) | fail); have oe4w2 : w2.heap.size < w4.heap.size := World.block_lt_of_cell? _ _ oa4w2) | skip); (first | (have oa4w3 : w4.cell? ⟨w3.heap.size, 0, none⟩ = some (.bool false) := cell_on hb4 (by first | (simp [go_sem, *]; done) | (simp [go_sem, World.cell?_alloc_some, *]; done) | fail); have ob4w3 : w4.cell? ⟨w3.heap.size, 1, none⟩ = some (.slice none 0 0) := cell_on hb4 (by first | (simp [go_sem, *]; done) | (simp [go_sem, World.cell?_alloc_some, *]; done) | fail); have oc4w3 : w4.frozen? ⟨w3.heap.size, 0, none⟩ = false := frozen_on hb4 (v := .bool false) (by first | (simp [go_sem, *]; done) | (simp [go_sem, World.cell?_alloc_some, *]; done) | fail) (by first | (simp [go_sem, *]; done) | (simp [go_sem, frozen?_alloc_cells, *]; done) | fail); have od4w3 : w4.frozen? ⟨w3.heap.size, 1, none⟩ = false := frozen_on hb4 (v := .slice none 0 0) (by first | (simp [go_sem, *]; done) | (simp [go_sem, World.cell?_alloc_some, *]; done) | fail) (by first | (simp [go_sem, *]; done) | (simp [go_sem, frozen?_alloc_cells, *]; done) | fail); have oe4w3 : w3.heap.size < w4.heap.size := World.block_lt_of_cell? _ _ oa4w3) | skip)))
    all_goals
      go_wp2_with fail
      go_meet
      refine ⟨_, bv, ov, lv, cv, rfl, (by first | assumption | (simp [go_sem, *]; done) | (simp [go_sem, World.cell?_alloc_some, *]; done) | fail), (by first | assumption | (simp [go_sem, *]; done) | (simp [go_sem, World.cell?_alloc_some, *]; done) | fail), (by first | assumption | (simp [go_sem, *]; done) | (simp [go_sem, World.cell?_alloc_some, *]; done) | fail), (by first | assumption | (simp [go_sem, *]; done) | (simp [go_sem, World.cell?_alloc_some, *]; done) | fail), (by first | (simp [go_sem, *]; done) | (simp [go_sem, frozen?_alloc_cells, *]; done) | fail), (by first | (simp [go_sem, *]; done) | (simp [go_sem, frozen?_alloc_cells, *]; done) | fail), ?_, ?_⟩
      · rw [← HL.out]
        repeat (first | exact IsI.mk Hv.out.1 Hv.out.2.1 | refine IsI.al2 ?_ _ | refine IsI.put (v0 := .bool false) (v1 := .slice none 0 0) ?_ (by first | assumption | (simp [go_sem, *]; done) | (simp [go_sem, World.cell?_alloc_some, *]; done) | fail) (by simp) (by first | assumption | (simp [go_sem, *]; done) | (simp [go_sem, World.cell?_alloc_some, *]; done) | fail) (by simp))
      · repeat (first | exact Below.refl _ _ | assumption | apply Below.drew | refine Below.setCell ?_ (by first | omega | (simp; done) | (simp; omega)) _ | refine Below.alloc ?_ (by first | omega | (simp; done) | (simp; omega)) _ | refine Below.trans ?_ (hb4.mono (by first | omega | (simp; done) | (simp; omega))) | refine Below.trans ?_ (hb3.mono (by first | omega | (simp; done) | (simp; omega))) | refine Below.trans ?_ (hb2.mono (by first | omega | (simp; done) | (simp; omega))) | refine Below.trans ?_ (hb1.mono (by first | omega | (simp; done) | (simp; omega))))
  case rest =>
    obtain ⟨B7, bv, ov, lv, cv, rfl, r0, r1, v0, v1, f0, f1, HI5, hB⟩ := hcut
    have hBs := hB.size
    have s7 : B7 < _ := World.block_lt_of_cell? _ _ v0
    have s8 : w.heap.size + 1 < _ := World.block_lt_of_cell? _ _ r0
    have HM := Lib.hid HI5.mag
    clear HI5 e10 e11 e12 e13 e20 e21 e22 e23 e24 e25 hb1 hb2 q1 q2 SC Hh
    by_cases hz : lo n = 0
    · obtain ⟨_, _, _, e, hl⟩ := HM.out.form
      simp only [Value.slice.injEq] at e
      obtain ⟨rfl, rfl, rfl⟩ := e
      have l0 := hl.2 (by rw [hz]; rfl)
      subst l0
      have HZ := Lib.hid hz
      clear hz hl
      go_wp2
      refine bodyPost_ret (v := .tuple #[.agg #[.int .i64 (hi n), .int .u64 0], .bool true]) (by simp [results, Tryd.results41, go_sem, *]) rfl ⟨by show _ = Ending.returned (.tuple #[.agg #[.int .i64 (hi n), .int .u64 (lo n)], .bool true]); rw [HZ.out], ?_⟩
      repeat (first | exact Below.refl _ _ | assumption | apply Below.drew | refine Below.setCell ?_ (by first | omega | (simp; done) | (simp; omega)) _ | refine Below.alloc ?_ (by first | omega | (simp; done) | (simp; omega)) _ | refine Below.trans ?_ (hB.mono (by first | omega | (simp; done) | (simp; omega))))
    · obtain ⟨bb, off, m, rfl, hc, _, me, _, _⟩ := HM.out.low (fun e => hz (by
        obtain ⟨_, _, _, e2, hl⟩ := HM.out.form
        simp only [Value.slice.injEq] at e2
        have := hl.1 (e2.2.1 ▸ e)
        omega))
      have em : (m : Int) = lo n := by have := LB.out; omega
      rw [em] at hc
      have hbl : bb < _ := World.block_lt_of_cell? _ _ hc
      have lp : (0 : Int) < (lv : Int) := by
        obtain ⟨_, _, _, e2, hl⟩ := HM.out.form
        simp only [Value.slice.injEq] at e2
        have : lv ≠ 0 := fun e => hz (by have := hl.1 (e2.2.1 ▸ e); omega)
        omega
      clear me em hz
      go_wp2
      refine bodyPost_ret (v := .tuple #[.agg #[.int .i64 (hi n), .int .u64 (lo n)], .bool true]) (by simp [results, Tryd.results41, go_sem, *]) rfl ⟨rfl, ?_⟩
      repeat (first | exact Below.refl _ _ | assumption | apply Below.drew | refine Below.setCell ?_ (by first | omega | (simp; done) | (simp; omega)) _ | refine Below.alloc ?_ (by first | omega | (simp; done) | (simp; omega)) _ | refine Below.trans ?_ (hB.mono (by first | omega | (simp; done) | (simp; omega))))
end Go.Proofs.YtmdjpnjpnfkihaaDoor
namespace Go.Proofs.YtmdjpnjpnfkihaaDoor
open Go.RowKit

set_option maxRecDepth 100000 in
set_option maxHeartbeats 8000000 in
theorem is_in (a : Int) (x : Value) (w : World) (h : IsI w x a) (hr : R a) : Calls Tryd.prog 9 #[Wv a, .int .i64 0, .int .i64 0, x] w fun e w' => e = .returned (.bool true) ∧ Below w.heap.size w w' := by
  obtain ⟨ba, oa, la, ca, rfl, Ha⟩ := h.open
  have WC := Lib.hid (fun W x h => refwide_any x a W h hr)
  clear h hr
  go_enter Tryd.func9, Tryd.ntmps9
  go_wp2_with (first | (go_at_call 42; (with_reducible refine (num_any _ _).mono ?_); rintro e w' ⟨rfl, rfl⟩) | (go_at_call 41; (with_reducible refine (WC.out _ _ ((IsI.mk Ha.out.1 Ha.out.2.1).below (by repeat (first | exact Below.refl _ _ | assumption | apply Below.drew | refine Below.setCell ?_ (by first | omega | (simp; done) | (simp; omega)) _ | refine Below.alloc ?_ (by first | omega | (simp; done) | (simp; omega)) _)))).mono ?_); rintro e w1 ⟨rfl, hb1⟩; have e10 : w1.cell? ⟨w.heap.size, 0, none⟩ = some (.int .i64 (hi a)) := cell_on hb1 (by first | (simp [go_sem, *]; done) | (simp [go_sem, World.cell?_alloc_some, *]; done) | fail); have e11 : w1.cell? ⟨w.heap.size, 1, none⟩ = some (.int .u64 (lo a)) := cell_on hb1 (by first | (simp [go_sem, *]; done) | (simp [go_sem, World.cell?_alloc_some, *]; done) | fail); have s10 : w.heap.size < w1.heap.size := World.block_lt_of_cell? _ _ e10; have t10 : w.heap.size < w1.heap.size + 1 := Nat.lt_succ_of_lt s10; have q1 := hb1.size; (try simp at q1)) | fail)
  go_ret
  exact ⟨rfl, by repeat (first | exact Below.refl _ _ | assumption | apply Below.drew | refine Below.setCell ?_ (by first | omega | (simp; done) | (simp; omega)) _ | refine Below.alloc ?_ (by first | omega | (simp; done) | (simp; omega)) _ | refine Below.trans ?_ (hb1.mono (by first | omega | (simp; done) | (simp; omega))))⟩
set_option maxRecDepth 100000 in
set_option maxHeartbeats 8000000 in
theorem is_out (a : Int) (x : Value) (w : World) (h : IsI w x a) (ga : a.natAbs < BIG) (hr : ¬ R a) : Calls Tryd.prog 9 #[Wv 0, .int .i64 3, .int .i64 0, x] w fun e w' => e = .returned (.bool true) ∧ Below w.heap.size w w' := by
  obtain ⟨ba, oa, la, ca, rfl, Ha⟩ := h.open
  have WC := Lib.hid (fun W x h => refwide_no x a W h ga hr)
  clear h hr ga
  go_enter Tryd.func9, Tryd.ntmps9
  go_wp2_with (first | (go_at_call 42; (with_reducible refine (num_any _ _).mono ?_); rintro e w' ⟨rfl, rfl⟩) | (go_at_call 41; (with_reducible refine (WC.out _ _ ((IsI.mk Ha.out.1 Ha.out.2.1).below (by repeat (first | exact Below.refl _ _ | assumption | apply Below.drew | refine Below.setCell ?_ (by first | omega | (simp; done) | (simp; omega)) _ | refine Below.alloc ?_ (by first | omega | (simp; done) | (simp; omega)) _)))).mono ?_); rintro e w1 ⟨rfl, hb1⟩; have e10 : w1.cell? ⟨w.heap.size, 0, none⟩ = some (.int .i64 (hi 0)) := cell_on hb1 (by first | (simp [go_sem, *]; done) | (simp [go_sem, World.cell?_alloc_some, *]; done) | fail); have e11 : w1.cell? ⟨w.heap.size, 1, none⟩ = some (.int .u64 (lo 0)) := cell_on hb1 (by first | (simp [go_sem, *]; done) | (simp [go_sem, World.cell?_alloc_some, *]; done) | fail); have s10 : w.heap.size < w1.heap.size := World.block_lt_of_cell? _ _ e10; have t10 : w.heap.size < w1.heap.size + 1 := Nat.lt_succ_of_lt s10; have q1 := hb1.size; (try simp at q1)) | fail)
  go_ret
  exact ⟨rfl, by repeat (first | exact Below.refl _ _ | assumption | apply Below.drew | refine Below.setCell ?_ (by first | omega | (simp; done) | (simp; omega)) _ | refine Below.alloc ?_ (by first | omega | (simp; done) | (simp; omega)) _ | refine Below.trans ?_ (hb1.mono (by first | omega | (simp; done) | (simp; omega))))⟩
set_option maxRecDepth 100000 in
set_option maxHeartbeats 8000000 in
theorem is_zero (ba : Bool) (oa : Option Addr) (la ca : Nat) (w : World) : Calls Tryd.prog 9 #[Wv 0, .int .i64 4, .int .i64 4, Iv ba (.slice oa la ca)] w fun e w' => e = .returned (.bool true) ∧ Below w.heap.size w w' := by
  go_enter Tryd.func9, Tryd.ntmps9
  go_wp2_with (first | (go_at_call 42; (with_reducible refine (num_any _ _).mono ?_); rintro e w' ⟨rfl, rfl⟩) | fail)
  go_ret
  exact ⟨rfl, by repeat (first | exact Below.refl _ _ | assumption | apply Below.drew | refine Below.setCell ?_ (by first | omega | (simp; done) | (simp; omega)) _ | refine Below.alloc ?_ (by first | omega | (simp; done) | (simp; omega)) _)⟩
end Go.Proofs.YtmdjpnjpnfkihaaDoor
namespace Go.Proofs.YtmdjpnjpnfkihaaDoor
open Go.RowKit Go.Lib

/-- An answer with its error, of any whole number -/
theorem is_all (v : Int) (x : Value) (w : World) (h : IsI w x v) (gv : v.natAbs < BIG) : Calls Tryd.prog 9 #[Wv (told v), .int .i64 (over v), .int .i64 0, x] w fun e w' => e = .returned (.bool true) ∧ Below w.heap.size w w' := by
  by_cases r : R v
  · rw [told_in r, over_in r]; exact is_in v x w h r
  · rw [told_out r, over_out r]; exact is_out v x w h gv r
set_option maxRecDepth 100000 in
set_option maxHeartbeats 8000000 in
/-- A shift that is none: whatever the whole number -/
theorem is_form (ba : Bool) (oa : Option Addr) (la ca : Nat) (w : World) : Calls Tryd.prog 9 #[Wv 0, .int .i64 1, .int .i64 1, Iv ba (.slice oa la ca)] w fun e w' => e = .returned (.bool true) ∧ Below w.heap.size w w' := by
  go_enter Tryd.func9, Tryd.ntmps9
  go_wp2_with (first | (go_at_call 42; (with_reducible refine (num_any _ _).mono ?_); rintro e w' ⟨rfl, rfl⟩) | fail)
  go_ret
  exact ⟨rfl, by repeat (first | exact Below.refl _ _ | assumption | apply Below.drew | refine Below.setCell ?_ (by first | omega | (simp; done) | (simp; omega)) _ | refine Below.alloc ?_ (by first | omega | (simp; done) | (simp; omega)) _)⟩
/-- The text, where the table is laid in a world before -/
theorem wtext_on (a : Int) (w0 w : World) (ha : R a) (htab : Lib.TabIs Tryd.prog w0 "internal/strconv.uint64pow10" .u64 Lib.pow10Tab) (hb : Below w0.heap.size w0 w) : Calls Tryd.prog 13 #[Wv a] w fun e w' => e = .returned (.string ⟨(itoa a).toArray⟩) ∧ Below w.heap.size w w' :=
  wtext_any a w ha fun _ h => (Lib.tabBelow_of_tabIs htab) _ (hb.trans (h.mono hb.size))
/-- Sums, differences, negatives and shifts of wide numbers are whole numbers that the reference bears -/
theorem big_sum {a b : Int} (ha : R a) (hb : R b) : (a + b).natAbs < BIG ∧ (a - b).natAbs < BIG ∧ (-a).natAbs < BIG ∧ a.natAbs < BIG ∧ b.natAbs < BIG ∧ a.natAbs < 2 ^ 128 := by
  rw [R_iff] at ha hb
  exact ⟨big_of (k := 129) (by omega) (by decide), big_of (k := 129) (by omega) (by decide), big_of (k := 129) (by omega) (by decide), big_of (k := 128) (by omega) (by decide), big_of (k := 128) (by omega) (by decide), by omega⟩
theorem big_left {a : Int} {n : Nat} (ha : R a) (hn : n ≤ 126) : (a * 2 ^ n).natAbs < BIG := by
  rw [R_iff] at ha
  refine big_of (k := 254) ?_ (by decide)
  rw [Int.natAbs_mul]
  have h1 : (2 ^ n : Int).natAbs = 2 ^ n := by rw [Int.natAbs_pow]; rfl
  rw [h1]
  have h2 : 2 ^ n ≤ 2 ^ 126 := Nat.pow_le_pow_right (by decide) hn
  calc a.natAbs * 2 ^ n ≤ (2 ^ 127) * 2 ^ 126 := Nat.mul_le_mul (by omega) h2
    _ < 2 ^ 254 := by decide
/-- A product of words is a wide number -/
theorem R_words {x y : Int} (x0 : -9223372036854775808 ≤ x) (x1 : x ≤ 9223372036854775807) (y0 : -9223372036854775808 ≤ y) (y1 : y ≤ 9223372036854775807) : R (x * y) := by
  rw [R_iff]
  have h : (x * y).natAbs ≤ 9223372036854775808 * 9223372036854775808 := by
    rw [Int.natAbs_mul]
    exact Nat.mul_le_mul (by omega) (by omega)
  omega
-- MARK wx
/-- Made keeps the slice. -/
theorem made_keep (b : Bool) (o : Option Addr) (l c n : Nat) (z : Int) (w : World) (h : IsN w (.slice o l c) n) (hz : z = if b then -(n : Int) else n) : Calls Tryd.prog 36 #[.bool b, .slice o l c] w fun e w' => e = .returned (Iv (decide (z < 0)) (.slice o l c)) ∧ IsI w' (Iv (decide (z < 0)) (.slice o l c)) z ∧ Below w.heap.size w w' := by
  obtain ⟨o1, l1, c1, e1, hl⟩ := h.form
  obtain ⟨rfl, rfl, rfl⟩ := Value.slice.inj e1
  clear e1
  have H := Lib.hid h
  clear h
  cases b
  · obtain rfl : z = (n : Int) := by simpa using hz
    clear hz
    have e0 : decide ((n : Int) < 0) = false := decide_eq_false (by omega)
    rw [e0]
    go_enter Tryd.func36, Tryd.ntmps36
    go_wp2
    have hB : Below w.heap.size w (w.alloc (Obj.cells #[Value.bool false, Value.slice o l c] 31)) := (Below.refl _ _).alloc (Nat.le_refl _) _
    refine bodyPost_ret (v := Iv false (Value.slice o l c)) (by simp [results, Tryd.results36, go_sem]) rfl ?_
    exact ⟨rfl, ⟨_, by rw [e0], by simpa using H.out.below hB⟩, hB⟩
  · obtain rfl : z = -(n : Int) := by simpa using hz
    clear hz
    go_enter Tryd.func36, Tryd.ntmps36
    go_wp2
    have e : decide (0 < l) = decide (-(n : Int) < 0) := by rw [decide_eq_decide]; omega
    have hB : Below w.heap.size w (w.alloc (Obj.cells #[Value.bool (decide (0 < l)), Value.slice o l c] 31)) := (Below.refl _ _).alloc (Nat.le_refl _) _
    refine bodyPost_ret (v := Iv (decide (0 < l)) (Value.slice o l c)) (by simp [results, Tryd.results36, go_sem]) rfl ?_
    exact ⟨by rw [e], ⟨_, rfl, by simpa using H.out.below hB⟩, hB⟩
set_option maxRecDepth 100000 in
set_option maxHeartbeats 4000000 in
/-- Left -/
theorem ileft_far (x : Value) (z : Int) (n : Nat) (w : World) (h : IsI w x z) (gz : z.natAbs < BIG) (hn : n ≤ 1048576) : Calls Tryd.prog 15 #[x, .int .i64 n] w fun e w' => ∃ b o l c, e = .returned (Iv b (.slice o l c)) ∧ IsI w' (Iv b (.slice o l c)) (z * 2 ^ n) ∧ Below w.heap.size w w' ∧ ∀ k, k < w.heap.size → (Value.slice o l c).ownBlock ≠ some k := by
  obtain ⟨ba, oa, la, ca, rfl, Ha⟩ := h.open
  have G := Lib.hid gz
  clear gz h
  go_enter Tryd.func15, Tryd.ntmps15
  go_wp2
  go_region_held3 (fun w' => w'.cell? ⟨w.heap.size, 0, none⟩ = some (.bool ba) ∧ w'.cell? ⟨w.heap.size, 1, none⟩ = some (Value.slice oa la ca)) (first | (simp [go_sem, *]; done) | (simp [go_sem, World.cell?_alloc_some, *]; done)) (first | (go_at_call 51; (with_reducible refine (up2_far _ z.natAbs n _ (Ha.out.2.1.below (by repeat (first | exact Below.refl _ _ | assumption | apply Below.drew | refine Below.setCell ?_ (by first | omega | (simp; done) | (simp; omega)) _ | refine Below.alloc ?_ (by first | omega | (simp; done) | (simp; omega)) _))) G.out hn).mono ?_); rintro e w1 ⟨vn, rfl, hnn, hb1, fn0⟩; have e10 : w1.cell? ⟨w.heap.size, 0, none⟩ = some (.bool ba) := cell_on hb1 (by first | (simp [go_sem, *]; done) | (simp [go_sem, World.cell?_alloc_some, *]; done) | fail); have e11 : w1.cell? ⟨w.heap.size, 1, none⟩ = some (Value.slice oa la ca) := cell_on hb1 (by first | (simp [go_sem, *]; done) | (simp [go_sem, World.cell?_alloc_some, *]; done) | fail); have e12 : w1.cell? ⟨w.heap.size + 1, 0, none⟩ = some (.bool false) := cell_on hb1 (by first | (simp [go_sem, *]; done) | (simp [go_sem, World.cell?_alloc_some, *]; done) | fail); have e13 : w1.cell? ⟨w.heap.size + 1, 1, none⟩ = some (.slice none 0 0) := cell_on hb1 (by first | (simp [go_sem, *]; done) | (simp [go_sem, World.cell?_alloc_some, *]; done) | fail); have s10 : w.heap.size < w1.heap.size := World.block_lt_of_cell? _ _ e10; have t10 : w.heap.size < w1.heap.size + 1 := Nat.lt_succ_of_lt s10; have s12 : w.heap.size + 1 < w1.heap.size := World.block_lt_of_cell? _ _ e12; have t12 : w.heap.size + 1 < w1.heap.size + 1 := Nat.lt_succ_of_lt s12; have y12 : w1.frozen? ⟨w.heap.size + 1, 0, none⟩ = false := frozen_on hb1 (v := .bool false) (by first | (simp [go_sem, *]; done) | (simp [go_sem, World.cell?_alloc_some, *]; done) | fail) (by first | (simp [go_sem, *]; done) | (simp [go_sem, frozen?_alloc_cells, *]; done) | fail); have y13 : w1.frozen? ⟨w.heap.size + 1, 1, none⟩ = false := frozen_on hb1 (v := .slice none 0 0) (by first | (simp [go_sem, *]; done) | (simp [go_sem, World.cell?_alloc_some, *]; done) | fail) (by first | (simp [go_sem, *]; done) | (simp [go_sem, frozen?_alloc_cells, *]; done) | fail); obtain ⟨on, ln, cn, rfl, _⟩ := hnn.form; have Nn := Lib.hid hnn; have Fn := Lib.hid fn0; clear hnn fn0) | (go_at_call 36; (with_reducible refine (made_keep _ on ln cn (z.natAbs * 2 ^ n) (z * 2 ^ n) _ (Nn.out.below (by repeat (first | exact Below.refl _ _ | assumption | apply Below.drew | refine Below.setCell ?_ (by first | omega | (simp; done) | (simp; omega)) _ | refine Below.alloc ?_ (by first | omega | (simp; done) | (simp; omega)) _))) (by rw [Ha.out.1]; exact left_sign z n)).mono ?_); rintro e w2 ⟨rfl, hv, hb2⟩; have e20 : w2.cell? ⟨w.heap.size, 0, none⟩ = some (.bool ba) := cell_on hb2 (by first | (simp [go_sem, *]; done) | (simp [go_sem, World.cell?_alloc_some, *]; done) | fail); have e21 : w2.cell? ⟨w.heap.size, 1, none⟩ = some (Value.slice oa la ca) := cell_on hb2 (by first | (simp [go_sem, *]; done) | (simp [go_sem, World.cell?_alloc_some, *]; done) | fail); have e22 : w2.cell? ⟨w.heap.size + 1, 0, none⟩ = some (.bool false) := cell_on hb2 (by first | (simp [go_sem, *]; done) | (simp [go_sem, World.cell?_alloc_some, *]; done) | fail); have e23 : w2.cell? ⟨w.heap.size + 1, 1, none⟩ = some (.slice none 0 0) := cell_on hb2 (by first | (simp [go_sem, *]; done) | (simp [go_sem, World.cell?_alloc_some, *]; done) | fail); have s20 : w.heap.size < w2.heap.size := World.block_lt_of_cell? _ _ e20; have t20 : w.heap.size < w2.heap.size + 1 := Nat.lt_succ_of_lt s20; have s22 : w.heap.size + 1 < w2.heap.size := World.block_lt_of_cell? _ _ e22; have t22 : w.heap.size + 1 < w2.heap.size + 1 := Nat.lt_succ_of_lt s22; have y22 : w2.frozen? ⟨w.heap.size + 1, 0, none⟩ = false := frozen_on hb2 (v := .bool false) (by first | (simp [go_sem, *]; done) | (simp [go_sem, World.cell?_alloc_some, *]; done) | fail) (by first | (simp [go_sem, *]; done) | (simp [go_sem, frozen?_alloc_cells, *]; done) | fail); have y23 : w2.frozen? ⟨w.heap.size + 1, 1, none⟩ = false := frozen_on hb2 (v := .slice none 0 0) (by first | (simp [go_sem, *]; done) | (simp [go_sem, World.cell?_alloc_some, *]; done) | fail) (by first | (simp [go_sem, *]; done) | (simp [go_sem, frozen?_alloc_cells, *]; done) | fail); have Hv := Lib.hid hv; clear hv))
  all_goals
    go_wp2_with fail
    refine bodyPost_ret (v := Iv (decide (z * 2 ^ n < 0)) (.slice on ln cn)) (by simp [results, Tryd.results15, go_sem, *]) rfl ⟨_, _, _, _, rfl, Hv.out.put e22 (by simp) e23 (by simp), ?_, fun k hk => Fn.out k (by first | omega | (simp; omega))⟩
    repeat (first | exact Below.refl _ _ | assumption | apply Below.drew | refine Below.setCell ?_ (by first | omega | (simp; done) | (simp; omega)) _ | refine Below.alloc ?_ (by first | omega | (simp; done) | (simp; omega)) _ | refine Below.trans ?_ (hb2.mono (by first | omega | (simp; done) | (simp; omega))) | refine Below.trans ?_ (hb1.mono (by first | omega | (simp; done) | (simp; omega))))
/-- A whole number through a write of a wide number's two cells, in a block that is not its own -/
theorem IsI.put_far {w : World} {u u' : Value} {z : Int} {b : Bool} {o : Option Addr} {l c B : Nat} (h : IsI w (Iv b (.slice o l c)) z) (hB : (Value.slice o l c).ownBlock ≠ some B) : IsI ((w.setCell ⟨B, 0, none⟩ u).setCell ⟨B, 1, none⟩ u') (Iv b (.slice o l c)) z := by
  obtain ⟨m, h1, h2⟩ := h
  have e : m = .slice o l c := by
    have := h1
    unfold Iv at this
    simp at this
    exact this.2.symm
  subst e
  exact ⟨_, h1, (h2.set_far hB).set_far hB⟩
end Go.Proofs.YtmdjpnjpnfkihaaDoor
namespace Go.Proofs.YtmdjpnjpnfkihaaDoor
open Go.ChangeShapes Go.WideShapes Go.ChangeAt Go.RowKit Go.Deep

theorem Tryd.own : ownKnob Tryd.prog.godebug = none := by kernel_rfl
theorem Tryd.laidOut : laidOutB Tryd.prog = true := by kernel_rfl
theorem wf_u64 {x : Int} (h : (Lit.int .u64 x).wf = true) : 0 ≤ x ∧ x ≤ 18446744073709551615 := by
  simp [Lit.wf, IntKind.min, IntKind.max, IntKind.signed, IntKind.bits] at h
  exact ⟨by omega, by omega⟩
theorem wf_i64 {x : Int} (h : (Lit.int .i64 x).wf = true) : -9223372036854775808 ≤ x ∧ x ≤ 9223372036854775807 := by
  simp [Lit.wf, IntKind.min, IntKind.max, IntKind.signed, IntKind.bits] at h
  exact ⟨by omega, by omega⟩
theorem c1 : Tryd.prog.cellsOf 2 = 1 := by kernel_rfl
theorem c2 : Tryd.prog.cellsOf 23 = 1 := by kernel_rfl
theorem c3 : Tryd.prog.cellsOf 3 = 1 := by kernel_rfl
theorem cW : Tryd.prog.cellsOf 25 = 2 := by kernel_rfl
theorem cT : Tryd.prog.cellsOf 27 = 7 := by kernel_rfl

section
variable {H : Type} {enc : TypeId × Value → H} {w : World} {base : Nat} {spare : Nat → Bool} {held : Bool}
set_option maxRecDepth 100000 in
theorem open_wide {fuel : Nat} {cs : List Value} {x : DataW H × List MemPlace} (h : DataW.trod enc Tryd.prog w base spare held fuel 25 cs = some x) : ∃ a, R a ∧ cs = [.int .i64 (hi a), .int .u64 (lo a)] := by
  obtain ⟨xs, n, _, _, hl, hxl, hf⟩ := DataW.trod_struct Tryd.underlying25 h
  rw [cW] at hl
  match cs, hl with
  | [u, v], _ =>
    have hxl2 : xs.length = 2 := hxl
    match xs, hxl2 with
    | [x0, x1], _ =>
      have h0 : DataW.trod enc Tryd.prog w base spare held n 2 ((([u, v] : List Value).drop 0).take (Tryd.prog.cellsOf 2)) = some x0 := hf 0 _ rfl
      have h1 : DataW.trod enc Tryd.prog w base spare held n 23 ((([u, v] : List Value).drop 1).take (Tryd.prog.cellsOf 23)) = some x1 := hf 1 _ rfl
      simp only [c1, c2, List.drop_zero, List.drop_succ_cons, List.take_succ_cons, List.take_zero] at h0 h1
      obtain ⟨hh, e0, _, w0⟩ := DataW.trod_int Tryd.underlying2 h0
      obtain ⟨ll, e1, _, w1⟩ := DataW.trod_int Tryd.underlying23 h1
      simp only [List.cons.injEq, and_true] at e0 e1
      subst e0 e1
      obtain ⟨l0, l1⟩ := wf_u64 w1
      obtain ⟨h2, h3⟩ := wf_i64 w0
      refine ⟨hh * 18446744073709551616 + ll, ⟨?_, ?_⟩, ?_⟩
      · rw [hi_mk _ _ l0 l1]; exact h2
      · rw [hi_mk _ _ l0 l1]; exact h3
      · rw [hi_mk _ _ l0 l1, lo_mk _ _ l0 l1]

set_option maxRecDepth 100000 in
theorem open_two {fuel : Nat} {cs : List Value} {x : DataW H × List MemPlace} (h : DataW.trod enc Tryd.prog w base spare held fuel 27 cs = some x) :
    ∃ e : El, e.ok ∧ cs = [.int .i64 (hi e.a), .int .u64 (lo e.a), .int .i64 (hi e.b), .int .u64 (lo e.b), .int .i64 e.x, .int .i64 e.y, .int .i64 e.n] := by
  obtain ⟨xs, n, _, _, hl, hxl, hf⟩ := DataW.trod_struct Tryd.underlying27 h
  rw [cT] at hl
  match cs, hl with
  | [v0, v1, v2, v3, v4, v5, v6], _ =>
    have hxl2 : xs.length = 5 := hxl
    match xs, hxl2 with
    | [x0, x1, x2, x3, x4], _ =>
      have h0 : DataW.trod enc Tryd.prog w base spare held n 25 ((([v0, v1, v2, v3, v4, v5, v6] : List Value).drop 0).take (Tryd.prog.cellsOf 25)) = some x0 := hf 0 _ rfl
      have h1 : DataW.trod enc Tryd.prog w base spare held n 25 ((([v0, v1, v2, v3, v4, v5, v6] : List Value).drop 2).take (Tryd.prog.cellsOf 25)) = some x1 := hf 1 _ rfl
      have h2 : DataW.trod enc Tryd.prog w base spare held n 2 ((([v0, v1, v2, v3, v4, v5, v6] : List Value).drop 4).take (Tryd.prog.cellsOf 2)) = some x2 := hf 2 _ rfl
      have h3 : DataW.trod enc Tryd.prog w base spare held n 2 ((([v0, v1, v2, v3, v4, v5, v6] : List Value).drop 5).take (Tryd.prog.cellsOf 2)) = some x3 := hf 3 _ rfl
      have h4 : DataW.trod enc Tryd.prog w base spare held n 3 ((([v0, v1, v2, v3, v4, v5, v6] : List Value).drop 6).take (Tryd.prog.cellsOf 3)) = some x4 := hf 4 _ rfl
      simp only [cW, c1, c3, List.drop_zero, List.drop_succ_cons, List.take_succ_cons, List.take_zero] at h0 h1 h2 h3 h4
      obtain ⟨a, ra, e0⟩ := open_wide h0
      obtain ⟨b, rb, e1⟩ := open_wide h1
      obtain ⟨x, e2, _, wx⟩ := DataW.trod_int Tryd.underlying2 h2
      obtain ⟨y, e3, _, wy⟩ := DataW.trod_int Tryd.underlying2 h3
      obtain ⟨m, e4, _, wm⟩ := DataW.trod_int Tryd.underlying3 h4
      simp only [List.cons.injEq, and_true] at e0 e1 e2 e3 e4
      obtain ⟨rfl, rfl⟩ := e0
      obtain ⟨rfl, rfl⟩ := e1
      subst e2 e3 e4
      exact ⟨⟨a, b, x, y, m⟩, ⟨ra, rb, wf_i64 wx, wf_i64 wy, wf_i64 wm⟩, rfl⟩

/-- The list: nil or empty, or its elements' cells. -/
theorem open_list {fuel : Nat} {v : Value} {x : DataW H × List MemPlace} (h : DataW.trod enc Tryd.prog w base spare held fuel 22 [v] = some x) :
    (∃ o cap, v = .slice o 0 cap) ∨ ∃ (b off len cap : Nat) (es : Nat → El), v = .slice (some ⟨b, off, none⟩) len cap ∧ len ≤ 9223372036854775807 ∧ b < w.heap.size ∧
      (∀ i, i < len → TwoAt w b (off + i * 7) (es i)) ∧ (∀ i, i < len → (es i).ok) := by
  rcases open_slice Tryd.underlying22 h with ⟨hcs, _⟩ | ⟨a, len, cap, m, n, D, Pl, hcs, _, hl, hm, hmm, _, hi⟩
  · left
    simp only [List.cons.injEq, and_true] at hcs
    exact ⟨_, _, hcs⟩
  · simp only [List.cons.injEq, and_true] at hcs
    subst hcs
    by_cases h0 : len = 0
    · subst h0; exact .inl ⟨_, _, rfl⟩
    right
    have hle : len ≤ m := by rw [hmm]; split <;> omega
    rw [cT] at hi
    have hall : ∀ i, i < len → ∃ e : El, e.ok ∧ ∀ j, j < 7 → w.cell? ((a.add (i * 7)).add j) = [Value.int .i64 (Go.Proofs.YtmdjpnjpnfkihaaDoor.hi e.a), .int .u64 (lo e.a), .int .i64 (Go.Proofs.YtmdjpnjpnfkihaaDoor.hi e.b), .int .u64 (lo e.b), .int .i64 e.x, .int .i64 e.y, .int .i64 e.n][j]? := by
      intro i hik
      obtain ⟨cs', hc, ht⟩ := hi i (by omega)
      obtain ⟨e, he, rfl⟩ := open_two ht
      exact ⟨e, he, (World.cells?_some hc).2.2⟩
    let es : Nat → El := fun i => if h : i < len then (hall i h).choose else ⟨0, 0, 0, 0, 0⟩
    have hes : ∀ i, i < len → (es i).ok ∧ ∀ j, j < 7 → w.cell? ((a.add (i * 7)).add j) = [Value.int .i64 (Go.Proofs.YtmdjpnjpnfkihaaDoor.hi (es i).a), .int .u64 (lo (es i).a), .int .i64 (Go.Proofs.YtmdjpnjpnfkihaaDoor.hi (es i).b), .int .u64 (lo (es i).b), .int .i64 (es i).x, .int .i64 (es i).y, .int .i64 (es i).n][j]? := by
      intro i hik
      have := (hall i hik).choose_spec
      simp only [es, dif_pos hik]
      exact this
    obtain ⟨b, off, spot⟩ := a
    have hspot : spot = none := by
      have := (hes 0 (by omega)).2 0 (by decide)
      simpa [Addr.add] using World.cell?_spot this
    subst hspot
    have cell : ∀ i, i < len → ∀ j, j < 7 → w.cell? ⟨b, off + i * 7 + j, none⟩ = [Value.int .i64 (Go.Proofs.YtmdjpnjpnfkihaaDoor.hi (es i).a), .int .u64 (lo (es i).a), .int .i64 (Go.Proofs.YtmdjpnjpnfkihaaDoor.hi (es i).b), .int .u64 (lo (es i).b), .int .i64 (es i).x, .int .i64 (es i).y, .int .i64 (es i).n][j]? := by
      intro i hik j hj
      rw [← (hes i hik).2 j hj, Go.WideShapes.add_plain, Go.WideShapes.add_plain]
    refine ⟨b, off, len, cap, es, rfl, by unfold maxLen at hm; omega, ?_, fun i hik => ⟨?_, ?_, ?_, ?_, ?_, ?_, ?_⟩, fun i hik => (hes i hik).1⟩
    · exact World.block_lt_of_cell? w _ (by have := cell 0 (by omega) 0 (by decide); simpa using this)
    · exact cell i hik 0 (by decide)
    · exact cell i hik 1 (by decide)
    · exact cell i hik 2 (by decide)
    · exact cell i hik 3 (by decide)
    · exact cell i hik 4 (by decide)
    · exact cell i hik 5 (by decide)
    · exact cell i hik 6 (by decide)
end
end Go.Proofs.YtmdjpnjpnfkihaaDoor
