/-
  The references' rational numbers: rounded down; the document's own half between two roots.
  The references' whole numbers: lengths, and powers by 2.
  Roots of whole numbers: Newton's steps, and the nearest word to a root.
  Rounded quotients of wide numbers.
  Quotients of wide numbers, rounded down.
  Shifts and products of wide numbers; a rounding that every statement asks for.
  Newton's steps: the root of a wide number, rounded down.
  Quotients told as words.
  Sums and differences of words.
  The statements' lists of package fx: what an element's cells hold.
  The small functions of package fx's statements.
  Closing, ratios, and the operations of words.
  Package root: roots and reciprocal roots, said of whole numbers.
  The statements' lists of package root: what an element's cells hold; the small functions beside.
  The statements' counts of fraction bits.
  The roots' example.
  The signs and sizes behind the roots' statements.
-/
import Derived.LoopTactic
import Derived.Test.YtldchepfcgbpiaaGreatM03
import Derived.Test.YtldchepfcgbpiaaGreatM07
import Derived.Test.YtldchepfcgbpiaaGreatM10
import Derived.Test.YtldchepfcgbpiaaGreatM12
namespace Go.Proofs.YtldchepfcgbpiaaGreat
open Go.RowKit

set_option maxRecDepth 100000 in
set_option maxHeartbeats 8000000 in
theorem rfloor_any (x : Value) (p : Int) (q : Nat) (w : World) (h : IsR w x p q) (gp : p.natAbs < MID) (gq : q < MID) (q0 : q ≠ 0) : Calls Tryz.prog 83 #[x] w (SomeI w (dn p q)) := by
  obtain ⟨ba, oa1, la1, ca1, oa2, la2, ca2, rfl, Ha⟩ := h
  have G : Hid (p.natAbs < MID ∧ ((q : Nat) : Int).natAbs < MID ∧ ((q : Nat) : Int) ≠ 0) := ⟨gp, gq, by omega⟩
  clear gp gq q0
  go_enter Tryz.func83, Tryz.ntmps83
  go_wp2
  go_cut [3, 4] (fun s3 s4 wx => ∃ (B3 B4 : Nat) (bq : Bool) (oq : Option Addr) (lq cq : Nat) (br : Bool) (or' : Option Addr) (lr cr : Nat), s3 = .pointer (some ⟨B3, 0, none⟩) ∧ s4 = .pointer (some ⟨B4, 0, none⟩) ∧ wx.cell? ⟨w.heap.size + 1, 0, none⟩ = some (.bool false) ∧ wx.cell? ⟨w.heap.size + 1, 1, none⟩ = some (.slice none 0 0) ∧ wx.cell? ⟨B3, 0, none⟩ = some (.bool bq) ∧ wx.cell? ⟨B3, 1, none⟩ = some (Value.slice oq lq cq) ∧ wx.cell? ⟨B4, 0, none⟩ = some (.bool br) ∧ wx.cell? ⟨B4, 1, none⟩ = some (Value.slice or' lr cr) ∧ wx.frozen? ⟨w.heap.size + 1, 0, none⟩ = false ∧ wx.frozen? ⟨w.heap.size + 1, 1, none⟩ = false ∧ IsI wx (Iv bq (.slice oq lq cq)) (dn p q) ∧ IsI wx (Iv br (.slice or' lr cr)) (p - dn p q * q) ∧ Below w.heap.size w wx)
  case first =>
    go_region_held3 (fun w' => w'.cell? ⟨w.heap.size, 0, none⟩ = some (.bool ba) ∧ w'.cell? ⟨w.heap.size, 1, none⟩ = some (Value.slice oa1 la1 ca1) ∧ w'.cell? ⟨w.heap.size, 2, none⟩ = some (Value.slice oa2 la2 ca2)) (first | (simp [go_sem, *]; done) | (simp [go_sem, World.cell?_alloc_some, *]; done)) (first | (go_at_call 81; (with_reducible refine (den_any _ p q _ (IsR.below (IsR.mk Ha) (by repeat (first | exact Below.refl _ _ | assumption | apply Below.drew | refine Below.setCell ?_ (by first | omega | (simp; done) | (simp; omega)) _ | refine Below.alloc ?_ (by first | omega | (simp; done) | (simp; omega)) _)))).mono ?_); rintro e w1 ⟨vd, rfl, hv, hb1⟩; have e10 : w1.cell? ⟨w.heap.size, 0, none⟩ = some (.bool ba) := cell_on hb1 (by first | (simp [go_sem, *]; done) | (simp [go_sem, World.cell?_alloc_some, *]; done) | fail); have e11 : w1.cell? ⟨w.heap.size, 1, none⟩ = some (Value.slice oa1 la1 ca1) := cell_on hb1 (by first | (simp [go_sem, *]; done) | (simp [go_sem, World.cell?_alloc_some, *]; done) | fail); have e12 : w1.cell? ⟨w.heap.size, 2, none⟩ = some (Value.slice oa2 la2 ca2) := cell_on hb1 (by first | (simp [go_sem, *]; done) | (simp [go_sem, World.cell?_alloc_some, *]; done) | fail); have e13 : w1.cell? ⟨w.heap.size + 1, 0, none⟩ = some (.bool false) := cell_on hb1 (by first | (simp [go_sem, *]; done) | (simp [go_sem, World.cell?_alloc_some, *]; done) | fail); have e14 : w1.cell? ⟨w.heap.size + 1, 1, none⟩ = some (.slice none 0 0) := cell_on hb1 (by first | (simp [go_sem, *]; done) | (simp [go_sem, World.cell?_alloc_some, *]; done) | fail); have s10 : w.heap.size < w1.heap.size := World.block_lt_of_cell? _ _ e10; have t10 : w.heap.size < w1.heap.size + 1 := Nat.lt_succ_of_lt s10; have s13 : w.heap.size + 1 < w1.heap.size := World.block_lt_of_cell? _ _ e13; have t13 : w.heap.size + 1 < w1.heap.size + 1 := Nat.lt_succ_of_lt s13; have y13 : w1.frozen? ⟨w.heap.size + 1, 0, none⟩ = false := frozen_on hb1 (v := .bool false) (by first | (simp [go_sem, *]; done) | (simp [go_sem, World.cell?_alloc_some, *]; done) | fail) (by first | (simp [go_sem, *]; done) | (simp [go_sem, frozen?_alloc_cells, *]; done) | fail); have y14 : w1.frozen? ⟨w.heap.size + 1, 1, none⟩ = false := frozen_on hb1 (v := .slice none 0 0) (by first | (simp [go_sem, *]; done) | (simp [go_sem, World.cell?_alloc_some, *]; done) | fail) (by first | (simp [go_sem, *]; done) | (simp [go_sem, frozen?_alloc_cells, *]; done) | fail); have q1 := hb1.size; (try simp at q1); obtain ⟨bd, od, ld, cd, rfl, Hd⟩ := hv.open; clear hv; (first | (have oa10 : w1.cell? ⟨w.heap.size + 1 + 1, 0, none⟩ = some (.bool false) := cell_on hb1 (by first | (simp [go_sem, *]; done) | (simp [go_sem, *]; done) | fail); have ob10 : w1.cell? ⟨w.heap.size + 1 + 1, 1, none⟩ = some (.slice none 0 0) := cell_on hb1 (by first | (simp [go_sem, *]; done) | (simp [go_sem, World.cell?_alloc_some, *]; done) | fail); have oc10 : w1.frozen? ⟨w.heap.size + 1 + 1, 0, none⟩ = false := frozen_on hb1 (v := .bool false) (by first | (simp [go_sem, *]; done) | (simp [go_sem, World.cell?_alloc_some, *]; done) | fail) (by first | (simp [go_sem, *]; done) | (simp [go_sem, frozen?_alloc_cells, *]; done) | fail); have od10 : w1.frozen? ⟨w.heap.size + 1 + 1, 1, none⟩ = false := frozen_on hb1 (v := .slice none 0 0) (by first | (simp [go_sem, *]; done) | (simp [go_sem, World.cell?_alloc_some, *]; done) | fail) (by first | (simp [go_sem, *]; done) | (simp [go_sem, frozen?_alloc_cells, *]; done) | fail); have oe10 : w.heap.size + 1 + 1 < w1.heap.size := World.block_lt_of_cell? _ _ oa10) | skip); (first | (have oa11 : w1.cell? ⟨w.heap.size + 1 + 1 + 1, 0, none⟩ = some (.bool false) := cell_on hb1 (by first | (simp [go_sem, *]; done) | (simp [go_sem, *]; done) | fail); have ob11 : w1.cell? ⟨w.heap.size + 1 + 1 + 1, 1, none⟩ = some (.slice none 0 0) := cell_on hb1 (by first | (simp [go_sem, *]; done) | (simp [go_sem, World.cell?_alloc_some, *]; done) | fail); have oc11 : w1.frozen? ⟨w.heap.size + 1 + 1 + 1, 0, none⟩ = false := frozen_on hb1 (v := .bool false) (by first | (simp [go_sem, *]; done) | (simp [go_sem, World.cell?_alloc_some, *]; done) | fail) (by first | (simp [go_sem, *]; done) | (simp [go_sem, frozen?_alloc_cells, *]; done) | fail); have od11 : w1.frozen? ⟨w.heap.size + 1 + 1 + 1, 1, none⟩ = false := frozen_on hb1 (v := .slice none 0 0) (by first | (simp [go_sem, *]; done) | (simp [go_sem, World.cell?_alloc_some, *]; done) | fail) (by first | (simp [go_sem, *]; done) | (simp [go_sem, frozen?_alloc_cells, *]; done) | fail); have oe11 : w.heap.size + 1 + 1 + 1 < w1.heap.size := World.block_lt_of_cell? _ _ oa11) | skip)) | (go_at_call 101; (with_reducible refine (idivide_any _ _ p (q : Int) _ (IsI.below (IsI.mk Ha.out.1 Ha.out.2.1) (by repeat (first | exact Below.refl _ _ | assumption | apply Below.drew | refine Below.setCell ?_ (by first | omega | (simp; done) | (simp; omega)) _ | refine Below.alloc ?_ (by first | omega | (simp; done) | (simp; omega)) _ | refine Below.trans ?_ (hb1.mono (by first | omega | (simp; done) | (simp; omega)))))) ((IsI.mk Hd.out.1 Hd.out.2.1).below (by repeat (first | exact Below.refl _ _ | assumption | apply Below.drew | refine Below.setCell ?_ (by first | omega | (simp; done) | (simp; omega)) _ | refine Below.alloc ?_ (by first | omega | (simp; done) | (simp; omega)) _))) G.out.1 G.out.2.1 G.out.2.2).mono ?_); rintro e w2 ⟨vq, vr, rfl, hvq, hvr, hb2⟩; have e20 : w2.cell? ⟨w.heap.size, 0, none⟩ = some (.bool ba) := cell_on hb2 (by first | (simp [go_sem, *]; done) | (simp [go_sem, World.cell?_alloc_some, *]; done) | fail); have e21 : w2.cell? ⟨w.heap.size, 1, none⟩ = some (Value.slice oa1 la1 ca1) := cell_on hb2 (by first | (simp [go_sem, *]; done) | (simp [go_sem, World.cell?_alloc_some, *]; done) | fail); have e22 : w2.cell? ⟨w.heap.size, 2, none⟩ = some (Value.slice oa2 la2 ca2) := cell_on hb2 (by first | (simp [go_sem, *]; done) | (simp [go_sem, World.cell?_alloc_some, *]; done) | fail); have e23 : w2.cell? ⟨w.heap.size + 1, 0, none⟩ = some (.bool false) := cell_on hb2 (by first | (simp [go_sem, *]; done) | (simp [go_sem, World.cell?_alloc_some, *]; done) | fail); have e24 : w2.cell? ⟨w.heap.size + 1, 1, none⟩ = some (.slice none 0 0) := cell_on hb2 (by first | (simp [go_sem, *]; done) | (simp [go_sem, World.cell?_alloc_some, *]; done) | fail); have s20 : w.heap.size < w2.heap.size := World.block_lt_of_cell? _ _ e20; have t20 : w.heap.size < w2.heap.size + 1 := Nat.lt_succ_of_lt s20; have s23 : w.heap.size + 1 < w2.heap.size := World.block_lt_of_cell? _ _ e23; have t23 : w.heap.size + 1 < w2.heap.size + 1 := Nat.lt_succ_of_lt s23; have y23 : w2.frozen? ⟨w.heap.size + 1, 0, none⟩ = false := frozen_on hb2 (v := .bool false) (by first | (simp [go_sem, *]; done) | (simp [go_sem, World.cell?_alloc_some, *]; done) | fail) (by first | (simp [go_sem, *]; done) | (simp [go_sem, frozen?_alloc_cells, *]; done) | fail); have y24 : w2.frozen? ⟨w.heap.size + 1, 1, none⟩ = false := frozen_on hb2 (v := .slice none 0 0) (by first | (simp [go_sem, *]; done) | (simp [go_sem, World.cell?_alloc_some, *]; done) | fail) (by first | (simp [go_sem, *]; done) | (simp [go_sem, frozen?_alloc_cells, *]; done) | fail); have q2 := hb2.size; (try simp at q2); obtain ⟨bq, oq, lq, cq, rfl, Hq⟩ := hvq.open; obtain ⟨br, or', lr, cr, rfl, Hr⟩ := hvr.open; clear hvq hvr; (first | (have oa20 : w2.cell? ⟨w.heap.size + 1 + 1, 0, none⟩ = some (.bool false) := cell_on hb2 (by first | (simp [go_sem, *]; done) | (simp [go_sem, *]; done) | fail); have ob20 : w2.cell? ⟨w.heap.size + 1 + 1, 1, none⟩ = some (.slice none 0 0) := cell_on hb2 (by first | (simp [go_sem, *]; done) | (simp [go_sem, World.cell?_alloc_some, *]; done) | fail); have oc20 : w2.frozen? ⟨w.heap.size + 1 + 1, 0, none⟩ = false := frozen_on hb2 (v := .bool false) (by first | (simp [go_sem, *]; done) | (simp [go_sem, World.cell?_alloc_some, *]; done) | fail) (by first | (simp [go_sem, *]; done) | (simp [go_sem, frozen?_alloc_cells, *]; done) | fail); have od20 : w2.frozen? ⟨w.heap.size + 1 + 1, 1, none⟩ = false := frozen_on hb2 (v := .slice none 0 0) (by first | (simp [go_sem, *]; done) | (simp [go_sem, World.cell?_alloc_some, *]; done) | fail) (by first | (simp [go_sem, *]; done) | (simp [go_sem, frozen?_alloc_cells, *]; done) | fail); have oe20 : w.heap.size + 1 + 1 < w2.heap.size := World.block_lt_of_cell? _ _ oa20) | skip); (first | (have oa21 : w2.cell? ⟨w.heap.size + 1 + 1 + 1, 0, none⟩ = some (.bool false) := cell_on hb2 (by first | (simp [go_sem, *]; done) | (simp [go_sem, World.cell?_alloc_some, *]; done) | fail); have ob21 : w2.cell? ⟨w.heap.size + 1 + 1 + 1, 1, none⟩ = some (.slice none 0 0) := cell_on hb2 (by first | (simp [go_sem, *]; done) | (simp [go_sem, World.cell?_alloc_some, *]; done) | fail); have oc21 : w2.frozen? ⟨w.heap.size + 1 + 1 + 1, 0, none⟩ = false := frozen_on hb2 (v := .bool false) (by first | (simp [go_sem, *]; done) | (simp [go_sem, World.cell?_alloc_some, *]; done) | fail) (by first | (simp [go_sem, *]; done) | (simp [go_sem, frozen?_alloc_cells, *]; done) | fail); have od21 : w2.frozen? ⟨w.heap.size + 1 + 1 + 1, 1, none⟩ = false := frozen_on hb2 (v := .slice none 0 0) (by first | (simp [go_sem, *]; done) | (simp [go_sem, World.cell?_alloc_some, *]; done) | fail) (by first | (simp [go_sem, *]; done) | (simp [go_sem, frozen?_alloc_cells, *]; done) | fail); have oe21 : w.heap.size + 1 + 1 + 1 < w2.heap.size := World.block_lt_of_cell? _ _ oa21) | skip); (first | (have oa22 : w2.cell? ⟨w1.heap.size, 0, none⟩ = some (.bool false) := cell_on hb2 (by first | (simp [go_sem, *]; done) | (simp [go_sem, World.cell?_alloc_some, *]; done) | fail); have ob22 : w2.cell? ⟨w1.heap.size, 1, none⟩ = some (.slice none 0 0) := cell_on hb2 (by first | (simp [go_sem, *]; done) | (simp [go_sem, World.cell?_alloc_some, *]; done) | fail); have oc22 : w2.frozen? ⟨w1.heap.size, 0, none⟩ = false := frozen_on hb2 (v := .bool false) (by first | (simp [go_sem, *]; done) | (simp [go_sem, World.cell?_alloc_some, *]; done) | fail) (by first | (simp [go_sem, *]; done) | (simp [go_sem, frozen?_alloc_cells, *]; done) | fail); have od22 : w2.frozen? ⟨w1.heap.size, 1, none⟩ = false := frozen_on hb2 (v := .slice none 0 0) (by first | (simp [go_sem, *]; done) | (simp [go_sem, World.cell?_alloc_some, *]; done) | fail) (by first | (simp [go_sem, *]; done) | (simp [go_sem, frozen?_alloc_cells, *]; done) | fail); have oe22 : w1.heap.size < w2.heap.size := World.block_lt_of_cell? _ _ oa22) | skip); (first | (have oa23 : w2.cell? ⟨w1.heap.size + 1, 0, none⟩ = some (.bool false) := cell_on hb2 (by first | (simp [go_sem, *]; done) | (simp [go_sem, World.cell?_alloc_some, *]; done) | fail); have ob23 : w2.cell? ⟨w1.heap.size + 1, 1, none⟩ = some (.slice none 0 0) := cell_on hb2 (by first | (simp [go_sem, *]; done) | (simp [go_sem, World.cell?_alloc_some, *]; done) | fail); have oc23 : w2.frozen? ⟨w1.heap.size + 1, 0, none⟩ = false := frozen_on hb2 (v := .bool false) (by first | (simp [go_sem, *]; done) | (simp [go_sem, World.cell?_alloc_some, *]; done) | fail) (by first | (simp [go_sem, *]; done) | (simp [go_sem, frozen?_alloc_cells, *]; done) | fail); have od23 : w2.frozen? ⟨w1.heap.size + 1, 1, none⟩ = false := frozen_on hb2 (v := .slice none 0 0) (by first | (simp [go_sem, *]; done) | (simp [go_sem, World.cell?_alloc_some, *]; done) | fail) (by first | (simp [go_sem, *]; done) | (simp [go_sem, frozen?_alloc_cells, *]; done) | fail); have oe23 : w1.heap.size + 1 < w2.heap.size := World.block_lt_of_cell? _ _ oa23) | skip)))
    all_goals
      go_wp2_with fail
      go_meet
      refine ⟨_, _, bq, oq, lq, cq, br, or', lr, cr, rfl, rfl, ?_⟩
      first
      | with_reducible apply fin_iiia
      | with_reducible apply fin_iiib
      | with_reducible apply fin_iia
      | with_reducible apply fin_iib
      | with_reducible apply fin_i
      all_goals first
        | assumption
        | omega
        | exact IsI.mk Hq.out.1 Hq.out.2.1
        | exact IsI.mk Hr.out.1 Hr.out.2.1
        | repeat (first | exact Below.refl _ _ | assumption | apply Below.drew | refine Below.setCell ?_ (by first | omega | (simp; done) | (simp; omega)) _ | refine Below.alloc ?_ (by first | omega | (simp; done) | (simp; omega)) _ | refine Below.trans ?_ (hb2.mono (by first | omega | (simp; done) | (simp; omega))) | refine Below.trans ?_ (hb1.mono (by first | omega | (simp; done) | (simp; omega))))
  case rest =>
    obtain ⟨B3, B4, bq, oq, lq, cq, br, or', lr, cr, rfl, rfl, r0, r1, v0, v1, v2, v3, f0, f1, HQ, HRm, hB⟩ := hcut
    go_wp2
    refine bodyPost_ret (v := Iv bq (.slice oq lq cq)) (by simp [results, Tryz.results83, go_sem, *]) rfl ⟨_, rfl, ?_, ?_⟩
    · exact IsI.put (v0 := .bool false) (v1 := .slice none 0 0) (HQ.below (by repeat (first | exact Below.refl _ _ | assumption | apply Below.drew | refine Below.setCell ?_ (by first | omega | (simp; done) | (simp; omega)) _ | refine Below.alloc ?_ (by first | omega | (simp; done) | (simp; omega)) _))) r0 (by simp) r1 (by simp)
    · repeat (first | exact Below.refl _ _ | assumption | apply Below.drew | refine Below.setCell ?_ (by first | omega | (simp; done) | (simp; omega)) _ | refine Below.alloc ?_ (by first | omega | (simp; done) | (simp; omega)) _ | refine Below.trans ?_ (hB.mono (by first | omega | (simp; done) | (simp; omega))))
end Go.Proofs.YtldchepfcgbpiaaGreat
namespace Go.Proofs.YtldchepfcgbpiaaGreat
open Go.RowKit

set_option maxRecDepth 100000 in
set_option maxHeartbeats 8000000 in
theorem ilen_any (x : Value) (z : Int) (w : World) (h : IsI w x z) (gz : z.natAbs < BIG) : Calls Tryz.prog 99 #[x] w fun e w' => e = .returned (.int .i64 (bn z.natAbs)) ∧ Below w.heap.size w w' := by
  obtain ⟨bn', on, ln, cn, rfl, Hn⟩ := h.open
  have NC := Lib.hid (fun W h => nlen_any (.slice on ln cn) z.natAbs W h gz)
  clear h gz
  go_enter Tryz.func99, Tryz.ntmps99
  go_wp2_with (go_at_call 91; (with_reducible refine (NC.out _ (Hn.out.2.1.below (by repeat (first | exact Below.refl _ _ | assumption | apply Below.drew | refine Below.setCell ?_ (by first | omega | (simp; done) | (simp; omega)) _ | refine Below.alloc ?_ (by first | omega | (simp; done) | (simp; omega)) _)))).mono ?_); rintro e w' ⟨rfl, rfl⟩)
  go_ret
  refine ⟨rfl, ?_⟩
  repeat (first | exact Below.refl _ _ | assumption | apply Below.drew | refine Below.setCell ?_ (by first | omega | (simp; done) | (simp; omega)) _ | refine Below.alloc ?_ (by first | omega | (simp; done) | (simp; omega)) _)
set_option maxRecDepth 100000 in
set_option maxHeartbeats 8000000 in
theorem ipow2_any (x : Value) (z : Int) (w : World) (h : IsI w x z) (gz : z.natAbs < BIG) : Calls Tryz.prog 100 #[x, .int .i64 2] w (SomeI w (z * z)) := by
  obtain ⟨bn', on, ln, cn, rfl, Hn⟩ := h.open
  have gz' : Hid (z.natAbs < BIG ∧ True) := ⟨gz, trivial⟩
  clear h gz
  go_enter Tryz.func100, Tryz.ntmps100
  go_wp2_with (go_at_call 48; (with_reducible refine (ifrom_any 1 _ (by decide) (by decide)).mono ?_); rintro e w1 ⟨vf, rfl, hv, hb1⟩; have e10 : w1.cell? ⟨w.heap.size, 0, none⟩ = some (.bool bn') := cell_on hb1 (by first | (simp [go_sem, *]; done) | (simp [go_sem, World.cell?_alloc_some, *]; done) | fail); have e11 : w1.cell? ⟨w.heap.size, 1, none⟩ = some (Value.slice on ln cn) := cell_on hb1 (by first | (simp [go_sem, *]; done) | (simp [go_sem, World.cell?_alloc_some, *]; done) | fail); have e12 : w1.cell? ⟨w.heap.size + 1, 0, none⟩ = some (.bool false) := cell_on hb1 (by first | (simp [go_sem, *]; done) | (simp [go_sem, World.cell?_alloc_some, *]; done) | fail); have e13 : w1.cell? ⟨w.heap.size + 1, 1, none⟩ = some (.slice none 0 0) := cell_on hb1 (by first | (simp [go_sem, *]; done) | (simp [go_sem, World.cell?_alloc_some, *]; done) | fail); have s10 : w.heap.size < w1.heap.size := World.block_lt_of_cell? _ _ e10; have t10 : w.heap.size < w1.heap.size + 1 := Nat.lt_succ_of_lt s10; have s12 : w.heap.size + 1 < w1.heap.size := World.block_lt_of_cell? _ _ e12; have t12 : w.heap.size + 1 < w1.heap.size + 1 := Nat.lt_succ_of_lt s12; have y12 : w1.frozen? ⟨w.heap.size + 1, 0, none⟩ = false := frozen_on hb1 (v := .bool false) (by first | (simp [go_sem, *]; done) | (simp [go_sem, World.cell?_alloc_some, *]; done) | fail) (by first | (simp [go_sem, *]; done) | (simp [go_sem, frozen?_alloc_cells, *]; done) | fail); have y13 : w1.frozen? ⟨w.heap.size + 1, 1, none⟩ = false := frozen_on hb1 (v := .slice none 0 0) (by first | (simp [go_sem, *]; done) | (simp [go_sem, World.cell?_alloc_some, *]; done) | fail) (by first | (simp [go_sem, *]; done) | (simp [go_sem, frozen?_alloc_cells, *]; done) | fail); have q1 := hb1.size; (try simp at q1); obtain ⟨bf, of, lf, cf, rfl, Hf⟩ := hv.open; clear hv)
  have z1 : w.heap.size + 1 < w1.heap.size := s12
  go_loopw [6] (fun s6 wr => ∃ (i : Nat) (bx : Bool) (ox : Option Addr) (lx cx : Nat), i ≤ 2 ∧ s6 = .int .i64 i ∧ wr.cell? ⟨w.heap.size, 0, none⟩ = some (.bool bn') ∧ wr.cell? ⟨w.heap.size, 1, none⟩ = some (Value.slice on ln cn) ∧ wr.cell? ⟨w.heap.size + 1, 0, none⟩ = some (.bool false) ∧ wr.cell? ⟨w.heap.size + 1, 1, none⟩ = some (.slice none 0 0) ∧ wr.cell? ⟨w1.heap.size, 0, none⟩ = some (.bool bx) ∧ wr.cell? ⟨w1.heap.size, 1, none⟩ = some (Value.slice ox lx cx) ∧ wr.frozen? ⟨w.heap.size + 1, 0, none⟩ = false ∧ wr.frozen? ⟨w.heap.size + 1, 1, none⟩ = false ∧ wr.frozen? ⟨w1.heap.size, 0, none⟩ = false ∧ wr.frozen? ⟨w1.heap.size, 1, none⟩ = false ∧ Hid (IsI wr (Iv bx (.slice ox lx cx)) (z ^ i)) ∧ Below w.heap.size w wr) (fun s6 _ => 2 - (intOf s6).toNat)
  case atStart =>
    refine ⟨0, bf, of, lf, cf, by decide, rfl, (by first | assumption | (simp [go_sem, *]; done) | (simp [go_sem, World.cell?_alloc_some, *]; done) | fail), (by first | assumption | (simp [go_sem, *]; done) | (simp [go_sem, World.cell?_alloc_some, *]; done) | fail), (by first | assumption | (simp [go_sem, *]; done) | (simp [go_sem, World.cell?_alloc_some, *]; done) | fail), (by first | assumption | (simp [go_sem, *]; done) | (simp [go_sem, World.cell?_alloc_some, *]; done) | fail), (by first | assumption | (simp [go_sem, *]; done) | (simp [go_sem, World.cell?_alloc_some, *]; done) | fail), (by first | assumption | (simp [go_sem, *]; done) | (simp [go_sem, World.cell?_alloc_some, *]; done) | fail), (by first | assumption | (simp [go_sem, *]; done) | (simp [go_sem, frozen?_alloc_cells, *]; done) | fail), (by first | assumption | (simp [go_sem, *]; done) | (simp [go_sem, frozen?_alloc_cells, *]; done) | fail), (by first | assumption | (simp [go_sem, *]; done) | (simp [go_sem, frozen?_alloc_cells, *]; done) | fail), (by first | assumption | (simp [go_sem, *]; done) | (simp [go_sem, frozen?_alloc_cells, *]; done) | fail), (by unfold Hid; rw [Int.pow_zero]; exact (IsI.mk Hf.out.1 Hf.out.2.1).below (by repeat (first | exact Below.refl _ _ | assumption | apply Below.drew | refine Below.setCell ?_ (by first | omega | (simp; done) | (simp; omega)) _ | refine Below.alloc ?_ (by first | omega | (simp; done) | (simp; omega)) _))), ?_⟩
    repeat (first | exact Below.refl _ _ | assumption | apply Below.drew | refine Below.setCell ?_ (by first | omega | (simp; done) | (simp; omega)) _ | refine Below.alloc ?_ (by first | omega | (simp; done) | (simp; omega)) _ | refine Below.trans ?_ (hb1.mono (by first | omega | (simp; done) | (simp; omega))))
  case round =>
    obtain ⟨i, bx, ox, lx, cx, hi2, rfl, c0, c1, c2, c3, c4, c5, f0, f1, f2, f3, HX, hB⟩ := hrel
    have hBs := hB.size
    have t0 : w.heap.size < wr.heap.size := World.block_lt_of_cell? _ _ c0
    have t2 : w.heap.size + 1 < wr.heap.size := World.block_lt_of_cell? _ _ c2
    have t4 : w1.heap.size < wr.heap.size := World.block_lt_of_cell? _ _ c4
    by_cases g : i < 2
    · have G : Hid ((z ^ i).natAbs < BIG ∧ z.natAbs < BIG) := by
        refine ⟨?_, gz'.out.1⟩
        rcases (show i = 0 ∨ i = 1 by omega) with rfl | rfl
        · rw [Int.pow_zero]; exact one_big
        · rw [Int.pow_succ, Int.pow_zero, Int.one_mul]; exact gz'.out.1
      go_wp2_with (go_at_call 51; (with_reducible refine (itimes_any _ _ (z ^ i) z _ (HX.out.below (by repeat (first | exact Below.refl _ _ | assumption | apply Below.drew | refine Below.setCell ?_ (by first | omega | (simp; done) | (simp; omega)) _ | refine Below.alloc ?_ (by first | omega | (simp; done) | (simp; omega)) _))) ((IsI.mk Hn.out.1 Hn.out.2.1).below (by repeat (first | exact Below.refl _ _ | assumption | apply Below.drew | refine Below.setCell ?_ (by first | omega | (simp; done) | (simp; omega)) _ | refine Below.alloc ?_ (by first | omega | (simp; done) | (simp; omega)) _ | refine Below.trans ?_ (hB.mono (by first | omega | (simp; done) | (simp; omega)))))) G.out.1 G.out.2).mono ?_); rintro e w2 ⟨vt, rfl, hv, hb2⟩; have e20 : w2.cell? ⟨w.heap.size, 0, none⟩ = some (.bool bn') := cell_on hb2 (by first | (simp [go_sem, *]; done) | (simp [go_sem, World.cell?_alloc_some, *]; done) | fail); have e21 : w2.cell? ⟨w.heap.size, 1, none⟩ = some (Value.slice on ln cn) := cell_on hb2 (by first | (simp [go_sem, *]; done) | (simp [go_sem, World.cell?_alloc_some, *]; done) | fail); have e22 : w2.cell? ⟨w.heap.size + 1, 0, none⟩ = some (.bool false) := cell_on hb2 (by first | (simp [go_sem, *]; done) | (simp [go_sem, World.cell?_alloc_some, *]; done) | fail); have e23 : w2.cell? ⟨w.heap.size + 1, 1, none⟩ = some (.slice none 0 0) := cell_on hb2 (by first | (simp [go_sem, *]; done) | (simp [go_sem, World.cell?_alloc_some, *]; done) | fail); have e24 : w2.cell? ⟨w1.heap.size, 0, none⟩ = some (.bool bx) := cell_on hb2 (by first | (simp [go_sem, *]; done) | (simp [go_sem, World.cell?_alloc_some, *]; done) | fail); have e25 : w2.cell? ⟨w1.heap.size, 1, none⟩ = some (Value.slice ox lx cx) := cell_on hb2 (by first | (simp [go_sem, *]; done) | (simp [go_sem, World.cell?_alloc_some, *]; done) | fail); have s20 : w.heap.size < w2.heap.size := World.block_lt_of_cell? _ _ e20; have t20 : w.heap.size < w2.heap.size + 1 := Nat.lt_succ_of_lt s20; have s22 : w.heap.size + 1 < w2.heap.size := World.block_lt_of_cell? _ _ e22; have t22 : w.heap.size + 1 < w2.heap.size + 1 := Nat.lt_succ_of_lt s22; have s24 : w1.heap.size < w2.heap.size := World.block_lt_of_cell? _ _ e24; have t24 : w1.heap.size < w2.heap.size + 1 := Nat.lt_succ_of_lt s24; have y22 : w2.frozen? ⟨w.heap.size + 1, 0, none⟩ = false := frozen_on hb2 (v := .bool false) (by first | (simp [go_sem, *]; done) | (simp [go_sem, World.cell?_alloc_some, *]; done) | fail) (by first | (simp [go_sem, *]; done) | (simp [go_sem, frozen?_alloc_cells, *]; done) | fail); have y23 : w2.frozen? ⟨w.heap.size + 1, 1, none⟩ = false := frozen_on hb2 (v := .slice none 0 0) (by first | (simp [go_sem, *]; done) | (simp [go_sem, World.cell?_alloc_some, *]; done) | fail) (by first | (simp [go_sem, *]; done) | (simp [go_sem, frozen?_alloc_cells, *]; done) | fail); have y24 : w2.frozen? ⟨w1.heap.size, 0, none⟩ = false := frozen_on hb2 (v := .bool bx) (by first | (simp [go_sem, *]; done) | (simp [go_sem, World.cell?_alloc_some, *]; done) | fail) (by first | (simp [go_sem, *]; done) | (simp [go_sem, frozen?_alloc_cells, *]; done) | fail); have y25 : w2.frozen? ⟨w1.heap.size, 1, none⟩ = false := frozen_on hb2 (v := Value.slice ox lx cx) (by first | (simp [go_sem, *]; done) | (simp [go_sem, World.cell?_alloc_some, *]; done) | fail) (by first | (simp [go_sem, *]; done) | (simp [go_sem, frozen?_alloc_cells, *]; done) | fail); have q2 := hb2.size; (try simp at q2); obtain ⟨bt, ot, lt, ct, rfl, Ht⟩ := hv.open; clear hv)
      refine ⟨⟨i + 1, bt, ot, lt, ct, by omega, by go_num, (by first | assumption | (simp [go_sem, *]; done) | (simp [go_sem, World.cell?_alloc_some, *]; done) | fail), (by first | assumption | (simp [go_sem, *]; done) | (simp [go_sem, World.cell?_alloc_some, *]; done) | fail), (by first | assumption | (simp [go_sem, *]; done) | (simp [go_sem, World.cell?_alloc_some, *]; done) | fail), (by first | assumption | (simp [go_sem, *]; done) | (simp [go_sem, World.cell?_alloc_some, *]; done) | fail), (by first | assumption | (simp [go_sem, *]; done) | (simp [go_sem, World.cell?_alloc_some, *]; done) | fail), (by first | assumption | (simp [go_sem, *]; done) | (simp [go_sem, World.cell?_alloc_some, *]; done) | fail), (by first | assumption | (simp [go_sem, *]; done) | (simp [go_sem, frozen?_alloc_cells, *]; done) | fail), (by first | assumption | (simp [go_sem, *]; done) | (simp [go_sem, frozen?_alloc_cells, *]; done) | fail), (by first | assumption | (simp [go_sem, *]; done) | (simp [go_sem, frozen?_alloc_cells, *]; done) | fail), (by first | assumption | (simp [go_sem, *]; done) | (simp [go_sem, frozen?_alloc_cells, *]; done) | fail), ?_, ?_⟩, by simp [intOf]; omega⟩
      · unfold Hid
        rw [Int.pow_succ]
        exact IsI.put (v0 := .bool bx) (v1 := .slice ox lx cx) (IsI.mk Ht.out.1 Ht.out.2.1) e24 (by simp) e25 (by simp)
      · repeat (first | exact Below.refl _ _ | assumption | apply Below.drew | refine Below.setCell ?_ (by first | omega | (simp; done) | (simp; omega)) _ | refine Below.alloc ?_ (by first | omega | (simp; done) | (simp; omega)) _ | refine Below.trans ?_ (hb2.mono (by first | omega | (simp; done) | (simp; omega))) | refine Below.trans ?_ (hB.mono (by first | omega | (simp; done) | (simp; omega))))
    · have e : i = 2 := by omega
      subst e
      go_wp2_with fail
      refine bodyPost_ret (v := Iv bx (.slice ox lx cx)) (by simp [results, Tryz.results100, go_sem, *]) rfl ⟨_, rfl, ?_, ?_⟩
      · rw [show z * z = z ^ 2 by rw [Int.pow_succ, Int.pow_succ, Int.pow_zero, Int.one_mul]]
        exact IsI.put (v0 := .bool false) (v1 := .slice none 0 0) (HX.out.below (by repeat (first | exact Below.refl _ _ | assumption | apply Below.drew | refine Below.setCell ?_ (by first | omega | (simp; done) | (simp; omega)) _ | refine Below.alloc ?_ (by first | omega | (simp; done) | (simp; omega)) _))) c2 (by simp) c3 (by simp)
      · repeat (first | exact Below.refl _ _ | assumption | apply Below.drew | refine Below.setCell ?_ (by first | omega | (simp; done) | (simp; omega)) _ | refine Below.alloc ?_ (by first | omega | (simp; done) | (simp; omega)) _ | refine Below.trans ?_ (hB.mono (by first | omega | (simp; done) | (simp; omega))))
end Go.Proofs.YtldchepfcgbpiaaGreat
namespace Go.Proofs.YtldchepfcgbpiaaGreat
open Go.RowKit

/-- s is the root of n, rounded down. -/
def Rt (n s : Int) : Prop := 0 ≤ s ∧ s * s ≤ n ∧ n < (s + 1) * (s + 1)
/-- The guess behind g. -/
def nx (n g : Int) : Int := (g + (if g = 0 then 0 else n / g)) / 2

theorem sq_mono {a b : Int} (h0 : 0 ≤ a) (h : a ≤ b) : a * a ≤ b * b := Int.mul_le_mul h h h0 (by omega)
theorem sq_lt {a b : Int} (h0 : 0 ≤ b) (h : a * a < b * b) : a < b := by
  rcases Int.lt_or_le a b with g | g
  · exact g
  · have := sq_mono h0 g; omega
theorem sq_succ (a : Int) : (a + 1) * (a + 1) = a * a + 2 * a + 1 := by rw [Int.add_mul, Int.mul_add]; omega
theorem rt_same {n s t : Int} (h : Rt n s) (k : Rt n t) : s = t := by
  obtain ⟨a, b, c⟩ := h
  obtain ⟨d, e, f⟩ := k
  have := sq_lt (a := s) (b := t + 1) (by omega) (by omega)
  have := sq_lt (a := t) (b := s + 1) (by omega) (by omega)
  omega
theorem dn_floor {x D : Int} (hx : 0 ≤ x) (hD : 0 < D) : dn x D = x / D := by
  have eD : ab D = D := by unfold ab; omega
  have ex : ab x = x := by unfold ab; omega
  have nD : ng D = false := by unfold ng; exact decide_eq_false (by omega)
  have nx : ng x = false := by unfold ng; exact decide_eq_false (by omega)
  unfold dn
  rw [eD, ex, nD, nx]
  simp [sd]
/-- n over d, rounded up. -/
def cl (n d : Int) : Int := -dn (-n) d
end Go.Proofs.YtldchepfcgbpiaaGreat
namespace Go.Proofs.YtldchepfcgbpiaaGreat
open Go.RowKit

theorem bc {W w1 : World} (hb : Below W.heap.size W w1) : (∀ b o, b < W.heap.size → w1.cell? ⟨b, o, none⟩ = W.cell? ⟨b, o, none⟩) ∧ (∀ b o, b < W.heap.size → w1.frozen? ⟨b, o, none⟩ = W.frozen? ⟨b, o, none⟩) ∧ (∀ k, k < W.heap.size → k < w1.heap.size) :=
  ⟨fun b o h => hb.cell (p := ⟨b, o, none⟩) h, fun b o h => hb.frozen (p := ⟨b, o, none⟩) h, fun _ h => Nat.lt_of_lt_of_le h hb.size⟩
theorem keeps {W W' : World} (hb : Below W.heap.size W W') : ∀ p v, W.cell? p = some v → W'.cell? p = some v := fun _ _ h => cell_on hb h

/-- What Round's variables hold behind the division. -/
def RndAt (w0 : World) (n d q r : Int) (p6 p7 p8 : Nat) (w : World) : Prop :=
  w.cell? ⟨w0.heap.size, 0, none⟩ = some (.int .i64 (hi n)) ∧ w.cell? ⟨w0.heap.size, 1, none⟩ = some (.int .u64 (lo n)) ∧
  w.cell? ⟨w0.heap.size + 1, 0, none⟩ = some (.int .i64 (hi d)) ∧ w.cell? ⟨w0.heap.size + 1, 1, none⟩ = some (.int .u64 (lo d)) ∧
  w.cell? ⟨w0.heap.size + 1 + 1, 0, none⟩ = some (.int .i64 0) ∧ w.cell? ⟨w0.heap.size + 1 + 1, 1, none⟩ = some (.int .u64 0) ∧
  w.cell? ⟨p6, 0, none⟩ = some (.int .u64 (hi (ab d))) ∧ w.cell? ⟨p6, 1, none⟩ = some (.int .u64 (lo (ab d))) ∧
  w.cell? ⟨p7, 0, none⟩ = some (.int .u64 (hi q)) ∧ w.cell? ⟨p7, 1, none⟩ = some (.int .u64 (lo q)) ∧
  w.cell? ⟨p8, 0, none⟩ = some (.int .u64 (hi r)) ∧ w.cell? ⟨p8, 1, none⟩ = some (.int .u64 (lo r)) ∧
  w.frozen? ⟨w0.heap.size + 1 + 1, 0, none⟩ = false ∧ w.frozen? ⟨w0.heap.size + 1 + 1, 1, none⟩ = false ∧
  w.frozen? ⟨p7, 0, none⟩ = false ∧ w.frozen? ⟨p7, 1, none⟩ = false ∧
  Below w0.heap.size w0 w ∧ w0.heap.size + 1 + 1 < p7
theorem RndAt.below {w0 : World} {n d q r : Int} {p6 p7 p8 : Nat} {W W' : World} (h : RndAt w0 n d q r p6 p7 p8 W) (hb : Below W.heap.size W W') : RndAt w0 n d q r p6 p7 p8 W' := by
  obtain ⟨c1, c2, c3, c4, c5, c6, c7, c8, c9, ca, cb, cc, f1, f2, f3, f4, b, z⟩ := h
  have hz : w0.heap.size < W.heap.size := World.block_lt_of_cell? W _ c1
  exact ⟨cell_on hb c1, cell_on hb c2, cell_on hb c3, cell_on hb c4, cell_on hb c5, cell_on hb c6, cell_on hb c7, cell_on hb c8, cell_on hb c9, cell_on hb ca, cell_on hb cb, cell_on hb cc, frozen_on hb c5 f1, frozen_on hb c6 f2, frozen_on hb c9 f3, frozen_on hb ca f4, b.trans (hb.mono (by omega)), z⟩
theorem RndAt.drew {w0 : World} {n d q r : Int} {p6 p7 p8 : Nat} {W : World} (h : RndAt w0 n d q r p6 p7 p8 W) : RndAt w0 n d q r p6 p7 p8 W.drew := by
  obtain ⟨c1, c2, c3, c4, c5, c6, c7, c8, c9, ca, cb, cc, f1, f2, f3, f4, b, z⟩ := h
  exact ⟨c1, c2, c3, c4, c5, c6, c7, c8, c9, ca, cb, cc, f1, f2, f3, f4, b.drew, z⟩
theorem RndAt.put {w0 : World} {n d q r : Int} {p6 p7 p8 : Nat} {W : World} (h : RndAt w0 n d q r p6 p7 p8 W) (q' : Int) :
    (let V := (W.setCell ⟨p7, 0, none⟩ (.int .u64 (hi q'))).setCell ⟨p7, 1, none⟩ (.int .u64 (lo q'))
     V.cell? ⟨w0.heap.size, 0, none⟩ = some (.int .i64 (hi n)) ∧ V.cell? ⟨w0.heap.size, 1, none⟩ = some (.int .u64 (lo n)) ∧
     V.cell? ⟨w0.heap.size + 1, 0, none⟩ = some (.int .i64 (hi d)) ∧ V.cell? ⟨w0.heap.size + 1, 1, none⟩ = some (.int .u64 (lo d)) ∧
     V.cell? ⟨w0.heap.size + 1 + 1, 0, none⟩ = some (.int .i64 0) ∧ V.cell? ⟨w0.heap.size + 1 + 1, 1, none⟩ = some (.int .u64 0) ∧
     V.cell? ⟨p7, 0, none⟩ = some (.int .u64 (hi q')) ∧ V.cell? ⟨p7, 1, none⟩ = some (.int .u64 (lo q')) ∧
     V.frozen? ⟨w0.heap.size + 1 + 1, 0, none⟩ = false ∧ V.frozen? ⟨w0.heap.size + 1 + 1, 1, none⟩ = false ∧ Below w0.heap.size w0 V ∧ w0.heap.size + 1 + 1 < V.heap.size) := by
  obtain ⟨c1, c2, c3, c4, c5, c6, c7, c8, c9, ca, cb, cc, f1, f2, f3, f4, b, z⟩ := h
  have hs : w0.heap.size + 1 + 1 < W.heap.size := World.block_lt_of_cell? W _ c5
  have n0 : ¬ p7 = w0.heap.size := by omega
  have n1 : ¬ p7 = w0.heap.size + 1 := by omega
  have n2 : ¬ p7 = w0.heap.size + 1 + 1 := by omega
  have m0 : ¬ w0.heap.size = p7 := by omega
  have m1 : ¬ w0.heap.size + 1 = p7 := by omega
  have m2 : ¬ w0.heap.size + 1 + 1 = p7 := by omega
  refine ⟨by simp [go_sem, *], by simp [go_sem, *], by simp [go_sem, *], by simp [go_sem, *], by simp [go_sem, *], by simp [go_sem, *], by simp [go_sem, *], by simp [go_sem, *], by simp [go_sem, *], by simp [go_sem, *], ?_, by simp [go_sem, *]⟩
  exact (b.setCell (by simp; omega) _).setCell (by simp; omega) _
end Go.Proofs.YtldchepfcgbpiaaGreat
namespace Go.Proofs.YtldchepfcgbpiaaGreat
open Go.RowKit


/-- What Down's variables hold behind the division. -/
def DwnAt (w0 : World) (n d q r : Int) (p6 p7 : Nat) (w : World) : Prop :=
  w.cell? ⟨w0.heap.size, 0, none⟩ = some (.int .i64 (hi n)) ∧ w.cell? ⟨w0.heap.size, 1, none⟩ = some (.int .u64 (lo n)) ∧
  w.cell? ⟨w0.heap.size + 1, 0, none⟩ = some (.int .i64 (hi d)) ∧ w.cell? ⟨w0.heap.size + 1, 1, none⟩ = some (.int .u64 (lo d)) ∧
  w.cell? ⟨w0.heap.size + 1 + 1, 0, none⟩ = some (.int .i64 0) ∧ w.cell? ⟨w0.heap.size + 1 + 1, 1, none⟩ = some (.int .u64 0) ∧
  w.cell? ⟨p6, 0, none⟩ = some (.int .u64 (hi q)) ∧ w.cell? ⟨p6, 1, none⟩ = some (.int .u64 (lo q)) ∧
  w.cell? ⟨p7, 0, none⟩ = some (.int .u64 (hi r)) ∧ w.cell? ⟨p7, 1, none⟩ = some (.int .u64 (lo r)) ∧
  w.frozen? ⟨w0.heap.size + 1 + 1, 0, none⟩ = false ∧ w.frozen? ⟨w0.heap.size + 1 + 1, 1, none⟩ = false ∧
  w.frozen? ⟨p6, 0, none⟩ = false ∧ w.frozen? ⟨p6, 1, none⟩ = false ∧
  Below w0.heap.size w0 w ∧ w0.heap.size + 1 + 1 < p6
theorem DwnAt.below {w0 : World} {n d q r : Int} {p6 p7 : Nat} {W W' : World} (h : DwnAt w0 n d q r p6 p7 W) (hb : Below W.heap.size W W') : DwnAt w0 n d q r p6 p7 W' := by
  obtain ⟨c1, c2, c3, c4, c5, c6, c7, c8, c9, ca, f1, f2, f3, f4, b, z⟩ := h
  have hz : w0.heap.size < W.heap.size := World.block_lt_of_cell? W _ c1
  exact ⟨cell_on hb c1, cell_on hb c2, cell_on hb c3, cell_on hb c4, cell_on hb c5, cell_on hb c6, cell_on hb c7, cell_on hb c8, cell_on hb c9, cell_on hb ca, frozen_on hb c5 f1, frozen_on hb c6 f2, frozen_on hb c7 f3, frozen_on hb c8 f4, b.trans (hb.mono (by omega)), z⟩

end Go.Proofs.YtldchepfcgbpiaaGreat
namespace Go.Proofs.YtldchepfcgbpiaaGreat
open Go.RowKit

set_option maxHeartbeats 8000000 in
/-- wide.Left -/
theorem shl_any (a : Int) (n : Nat) (w : World) (ha : R a) (h1 : n ≤ 126) : Calls Tryz.prog 41 #[Wv a, .int .i64 n] w fun e w' => e = .returned (.tuple #[Wv (told (a * 2 ^ n)), .int .i64 (over (a * 2 ^ n))]) ∧ Below w.heap.size w w' := by
  have lb := bl_le (U_ab ha)
  have SZ := Lib.hid (fun W : World => sizeOf_any a W ha)
  have LN := Lib.hid (fun W : World => length_any (ab a) W (U_ab ha))
  have BN := Lib.hid (fun W : World => below_any a W)
  by_cases g : 128 < bl (ab a) + n
  · have r := Lib.hid (And.intro (told_out (left_far ha n h1 g)) (over_out (left_far ha n h1 g)))
    have g' : (128 : Int) < (bl (ab a) : Int) + n := by omega
    clear ha g
    generalize ab a = s at *
    go_enter Tryz.func41, Tryz.ntmps41
    go_wp2_with (first | (go_at_call 65; (with_reducible refine (SZ.out _).mono ?_); rintro e w1 ⟨rfl, hb1⟩; have e10 : w1.cell? ⟨w.heap.size, 0, none⟩ = some (.int .i64 (hi a)) := cell_on hb1 (by first | (simp [go_sem, *]; done) | (simp [go_sem, World.cell?_alloc_some, *]; done) | fail); have e11 : w1.cell? ⟨w.heap.size, 1, none⟩ = some (.int .u64 (lo a)) := cell_on hb1 (by first | (simp [go_sem, *]; done) | (simp [go_sem, World.cell?_alloc_some, *]; done) | fail); have e12 : w1.cell? ⟨w.heap.size + 1, 0, none⟩ = some (.int .i64 0) := cell_on hb1 (by first | (simp [go_sem, *]; done) | (simp [go_sem, World.cell?_alloc_some, *]; done) | fail); have e13 : w1.cell? ⟨w.heap.size + 1, 1, none⟩ = some (.int .u64 0) := cell_on hb1 (by first | (simp [go_sem, *]; done) | (simp [go_sem, World.cell?_alloc_some, *]; done) | fail); have s10 : w.heap.size < w1.heap.size := World.block_lt_of_cell? _ _ e10; have t10 : w.heap.size < w1.heap.size + 1 := Nat.lt_succ_of_lt s10; have s12 : w.heap.size + 1 < w1.heap.size := World.block_lt_of_cell? _ _ e12; have t12 : w.heap.size + 1 < w1.heap.size + 1 := Nat.lt_succ_of_lt s12; have y12 : w1.frozen? ⟨w.heap.size + 1, 0, none⟩ = false := frozen_on hb1 (v := .int .i64 0) (by first | (simp [go_sem, *]; done) | (simp [go_sem, World.cell?_alloc_some, *]; done) | fail) (by first | (simp [go_sem, *]; done) | (simp [go_sem, frozen?_alloc_cells, *]; done) | fail); have y13 : w1.frozen? ⟨w.heap.size + 1, 1, none⟩ = false := frozen_on hb1 (v := .int .u64 0) (by first | (simp [go_sem, *]; done) | (simp [go_sem, World.cell?_alloc_some, *]; done) | fail) (by first | (simp [go_sem, *]; done) | (simp [go_sem, frozen?_alloc_cells, *]; done) | fail)) | (go_at_call 66; (with_reducible refine (LN.out _).mono ?_); rintro e w2 ⟨rfl, rfl⟩))
    refine bodyPost_ret (v := .tuple #[.agg #[.int .i64 0, .int .u64 0], .int .i64 3]) (by simp [results, Tryz.results41, go_sem, *]) rfl ⟨by rw [r.out.1, r.out.2] <;> rfl, ?_⟩
    repeat (first | exact Below.refl _ _ | assumption | apply Below.drew | refine Below.setCell ?_ (by first | omega | (simp; done) | (simp; omega)) _ | refine Below.alloc ?_ (by first | omega | (simp; done) | (simp; omega)) _ | refine Below.trans ?_ (hb1.mono (by first | omega | (simp; done) | (simp; omega))))
  · have e1 := left_near ha n (by omega)
    have LC := Lib.hid (fun W : World => left_any (ab a) n W (U_ab ha) (by omega))
    have UT : U (ab a * 2 ^ n) := by rw [← e1]; exact U_ws _
    rw [e1] at LC
    have SI := Lib.hid (fun W : World => signed_any (ab a * 2 ^ n) (ng a) W UT)
    have r := Lib.hid (sd_ab a (2 ^ n))
    have g' : ¬ (128 : Int) < (bl (ab a) : Int) + n := by omega
    clear ha g e1 UT
    generalize ab a = s at *
    generalize s * 2 ^ n = t at *
    go_enter Tryz.func41, Tryz.ntmps41
    go_wp2_with (first | (go_at_call 65; (with_reducible refine (SZ.out _).mono ?_); rintro e w1 ⟨rfl, hb1⟩; have e10 : w1.cell? ⟨w.heap.size, 0, none⟩ = some (.int .i64 (hi a)) := cell_on hb1 (by first | (simp [go_sem, *]; done) | (simp [go_sem, World.cell?_alloc_some, *]; done) | fail); have e11 : w1.cell? ⟨w.heap.size, 1, none⟩ = some (.int .u64 (lo a)) := cell_on hb1 (by first | (simp [go_sem, *]; done) | (simp [go_sem, World.cell?_alloc_some, *]; done) | fail); have e12 : w1.cell? ⟨w.heap.size + 1, 0, none⟩ = some (.int .i64 0) := cell_on hb1 (by first | (simp [go_sem, *]; done) | (simp [go_sem, World.cell?_alloc_some, *]; done) | fail); have e13 : w1.cell? ⟨w.heap.size + 1, 1, none⟩ = some (.int .u64 0) := cell_on hb1 (by first | (simp [go_sem, *]; done) | (simp [go_sem, World.cell?_alloc_some, *]; done) | fail); have s10 : w.heap.size < w1.heap.size := World.block_lt_of_cell? _ _ e10; have t10 : w.heap.size < w1.heap.size + 1 := Nat.lt_succ_of_lt s10; have s12 : w.heap.size + 1 < w1.heap.size := World.block_lt_of_cell? _ _ e12; have t12 : w.heap.size + 1 < w1.heap.size + 1 := Nat.lt_succ_of_lt s12; have y12 : w1.frozen? ⟨w.heap.size + 1, 0, none⟩ = false := frozen_on hb1 (v := .int .i64 0) (by first | (simp [go_sem, *]; done) | (simp [go_sem, World.cell?_alloc_some, *]; done) | fail) (by first | (simp [go_sem, *]; done) | (simp [go_sem, frozen?_alloc_cells, *]; done) | fail); have y13 : w1.frozen? ⟨w.heap.size + 1, 1, none⟩ = false := frozen_on hb1 (v := .int .u64 0) (by first | (simp [go_sem, *]; done) | (simp [go_sem, World.cell?_alloc_some, *]; done) | fail) (by first | (simp [go_sem, *]; done) | (simp [go_sem, frozen?_alloc_cells, *]; done) | fail)) | (go_at_call 66; (with_reducible refine (LN.out _).mono ?_); rintro e w2 ⟨rfl, rfl⟩))
    go_region_held3 (fun w' => w'.cell? ⟨w.heap.size, 0, none⟩ = some (.int .i64 (hi a)) ∧ w'.cell? ⟨w.heap.size, 1, none⟩ = some (.int .u64 (lo a)) ∧ w'.cell? ⟨w1.heap.size, 0, none⟩ = some (.int .u64 (hi s)) ∧ w'.cell? ⟨w1.heap.size, 1, none⟩ = some (.int .u64 (lo s))) (first | (simp [go_sem, *]; done) | (simp [go_sem, World.cell?_alloc_some, *]; done))
      (first
      | (go_at_call 68; (with_reducible refine (LC.out _).mono ?_); rintro e w3 ⟨rfl, hb3⟩; have e30 : w3.cell? ⟨w.heap.size, 0, none⟩ = some (.int .i64 (hi a)) := cell_on hb3 (by first | (simp [go_sem, *]; done) | (simp [go_sem, World.cell?_alloc_some, *]; done) | fail); have e31 : w3.cell? ⟨w.heap.size, 1, none⟩ = some (.int .u64 (lo a)) := cell_on hb3 (by first | (simp [go_sem, *]; done) | (simp [go_sem, World.cell?_alloc_some, *]; done) | fail); have e32 : w3.cell? ⟨w.heap.size + 1, 0, none⟩ = some (.int .i64 0) := cell_on hb3 (by first | (simp [go_sem, *]; done) | (simp [go_sem, World.cell?_alloc_some, *]; done) | fail); have e33 : w3.cell? ⟨w.heap.size + 1, 1, none⟩ = some (.int .u64 0) := cell_on hb3 (by first | (simp [go_sem, *]; done) | (simp [go_sem, World.cell?_alloc_some, *]; done) | fail); have e34 : w3.cell? ⟨w1.heap.size, 0, none⟩ = some (.int .u64 (hi s)) := cell_on hb3 (by first | (simp [go_sem, *]; done) | (simp [go_sem, World.cell?_alloc_some, *]; done) | fail); have e35 : w3.cell? ⟨w1.heap.size, 1, none⟩ = some (.int .u64 (lo s)) := cell_on hb3 (by first | (simp [go_sem, *]; done) | (simp [go_sem, World.cell?_alloc_some, *]; done) | fail); have s30 : w.heap.size < w3.heap.size := World.block_lt_of_cell? _ _ e30; have t30 : w.heap.size < w3.heap.size + 1 := Nat.lt_succ_of_lt s30; have s32 : w.heap.size + 1 < w3.heap.size := World.block_lt_of_cell? _ _ e32; have t32 : w.heap.size + 1 < w3.heap.size + 1 := Nat.lt_succ_of_lt s32; have s34 : w1.heap.size < w3.heap.size := World.block_lt_of_cell? _ _ e34; have t34 : w1.heap.size < w3.heap.size + 1 := Nat.lt_succ_of_lt s34; have y32 : w3.frozen? ⟨w.heap.size + 1, 0, none⟩ = false := frozen_on hb3 (v := .int .i64 0) (by first | (simp [go_sem, *]; done) | (simp [go_sem, World.cell?_alloc_some, *]; done) | fail) (by first | (simp [go_sem, *]; done) | (simp [go_sem, frozen?_alloc_cells, *]; done) | fail); have y33 : w3.frozen? ⟨w.heap.size + 1, 1, none⟩ = false := frozen_on hb3 (v := .int .u64 0) (by first | (simp [go_sem, *]; done) | (simp [go_sem, World.cell?_alloc_some, *]; done) | fail) (by first | (simp [go_sem, *]; done) | (simp [go_sem, frozen?_alloc_cells, *]; done) | fail))
      | (go_at_call 69; (with_reducible refine (BN.out _).mono ?_); rintro e w' ⟨rfl, rfl⟩)
      | (go_at_call 67; (with_reducible refine (SI.out _).mono ?_); rintro e w4 ⟨rfl, hb4⟩; have e40 : w4.cell? ⟨w.heap.size, 0, none⟩ = some (.int .i64 (hi a)) := cell_on hb4 (by first | (simp [go_sem, *]; done) | (simp [go_sem, World.cell?_alloc_some, *]; done) | fail); have e41 : w4.cell? ⟨w.heap.size, 1, none⟩ = some (.int .u64 (lo a)) := cell_on hb4 (by first | (simp [go_sem, *]; done) | (simp [go_sem, World.cell?_alloc_some, *]; done) | fail); have e42 : w4.cell? ⟨w.heap.size + 1, 0, none⟩ = some (.int .i64 0) := cell_on hb4 (by first | (simp [go_sem, *]; done) | (simp [go_sem, World.cell?_alloc_some, *]; done) | fail); have e43 : w4.cell? ⟨w.heap.size + 1, 1, none⟩ = some (.int .u64 0) := cell_on hb4 (by first | (simp [go_sem, *]; done) | (simp [go_sem, World.cell?_alloc_some, *]; done) | fail); have e44 : w4.cell? ⟨w1.heap.size, 0, none⟩ = some (.int .u64 (hi s)) := cell_on hb4 (by first | (simp [go_sem, *]; done) | (simp [go_sem, World.cell?_alloc_some, *]; done) | fail); have e45 : w4.cell? ⟨w1.heap.size, 1, none⟩ = some (.int .u64 (lo s)) := cell_on hb4 (by first | (simp [go_sem, *]; done) | (simp [go_sem, World.cell?_alloc_some, *]; done) | fail); have s40 : w.heap.size < w4.heap.size := World.block_lt_of_cell? _ _ e40; have t40 : w.heap.size < w4.heap.size + 1 := Nat.lt_succ_of_lt s40; have s42 : w.heap.size + 1 < w4.heap.size := World.block_lt_of_cell? _ _ e42; have t42 : w.heap.size + 1 < w4.heap.size + 1 := Nat.lt_succ_of_lt s42; have s44 : w1.heap.size < w4.heap.size := World.block_lt_of_cell? _ _ e44; have t44 : w1.heap.size < w4.heap.size + 1 := Nat.lt_succ_of_lt s44; have y42 : w4.frozen? ⟨w.heap.size + 1, 0, none⟩ = false := frozen_on hb4 (v := .int .i64 0) (by first | (simp [go_sem, *]; done) | (simp [go_sem, World.cell?_alloc_some, *]; done) | fail) (by first | (simp [go_sem, *]; done) | (simp [go_sem, frozen?_alloc_cells, *]; done) | fail); have y43 : w4.frozen? ⟨w.heap.size + 1, 1, none⟩ = false := frozen_on hb4 (v := .int .u64 0) (by first | (simp [go_sem, *]; done) | (simp [go_sem, World.cell?_alloc_some, *]; done) | fail) (by first | (simp [go_sem, *]; done) | (simp [go_sem, frozen?_alloc_cells, *]; done) | fail)))
    all_goals
      go_wp2_with fail
      refine bodyPost_ret (v := .tuple #[Wv (told (sd (ng a) t)), .int .i64 (over (sd (ng a) t))]) (by simp [results, Tryz.results41, go_sem, *]) rfl ⟨by rw [r.out], ?_⟩
      have hs4 : w.heap.size + 1 < w4.heap.size := World.block_lt_of_cell? _ _ e42
      have hs3 : w.heap.size + 1 < w3.heap.size := World.block_lt_of_cell? _ _ e32
      have hs1 : w.heap.size + 1 < w1.heap.size := World.block_lt_of_cell? _ _ e12
      repeat (first | exact Below.refl _ _ | assumption | apply Below.drew | refine Below.setCell ?_ (by first | omega | (simp; done) | (simp; omega)) _ | refine Below.alloc ?_ (by first | omega | (simp; done) | (simp; omega)) _ | refine Below.trans ?_ (hb4.mono (by first | omega | (simp; done) | (simp; omega))) | refine Below.trans ?_ (hb3.mono (by first | omega | (simp; done) | (simp; omega))) | refine Below.trans ?_ (hb1.mono (by first | omega | (simp; done) | (simp; omega))))

set_option maxHeartbeats 4000000 in
/-- wide.Mul -/
theorem mul_any (a b : Int) (w : World) (a0 : -9223372036854775808 ≤ a) (a1 : a ≤ 9223372036854775807) (b0 : -9223372036854775808 ≤ b) (b1 : b ≤ 9223372036854775807) :
    Calls Tryz.prog 42 #[.int .i64 a, .int .i64 b] w fun e w' => e = .returned (Wv (a * b)) ∧ w.alloc (.cells #[.int .i64 (hi (a * b)), .int .u64 (lo (a * b))] 59) = w' := by
  obtain ⟨x, hx⟩ := Int.eq_ofNat_of_zero_le (u64_nn a)
  obtain ⟨y, hy⟩ := Int.eq_ofNat_of_zero_le (u64_nn b)
  have x1 : x < 18446744073709551616 := by have := u64_lt a; omega
  have y1 : y < 18446744073709551616 := by have := u64_lt b; omega
  have MC := Lib.hid (fun W : World => Tryz.bits_Mul64 x y x1 y1 W)
  obtain ⟨k1, k2⟩ := mul_halves a0 a1 b0 b1 (X := ((x * y : Nat) : Int)) (by rw [hx, hy, Int.natCast_mul])
  unfold mh at k1
  rw [hx, hy] at k1
  push_cast at k1 k2
  clear x1 y1 a0 a1 b0 b1
  generalize a * b = t at *
  by_cases ga : a < 0 <;> by_cases gb : b < 0
  all_goals
    have k3 := k1
    simp only [ga, gb, if_true, if_false] at k3
    have K := Lib.hid (And.intro k3 k2)
    clear k1 k2 k3
    go_enter Tryz.func42, Tryz.ntmps42
    go_wp2_with (go_at_call 70; (with_reducible refine (MC.out _).mono ?_); rintro e w' ⟨rfl, rfl⟩)
    have K1 := K.out.1
    have K2 := K.out.2
    refine bodyPost_ret (v := Wv t) (by simp [results, Tryz.results42, go_sem, K1, K2]) rfl ⟨rfl, ?_⟩
    simp [K1, K2]

end Go.Proofs.YtldchepfcgbpiaaGreat
namespace Go.Proofs.YtldchepfcgbpiaaGreat
open Go.RowKit

end Go.Proofs.YtldchepfcgbpiaaGreat
namespace Go.Proofs.YtldchepfcgbpiaaGreat
open Go.RowKit

theorem isS_no {a : Int} (h : isS a = false) : ¬ (-9223372036854775808 ≤ a ∧ a ≤ 9223372036854775807) := by unfold isS at h; exact of_decide_eq_false h
end Go.Proofs.YtldchepfcgbpiaaGreat
namespace Go.Proofs.YtldchepfcgbpiaaGreat
open Go.RowKit










end Go.Proofs.YtldchepfcgbpiaaGreat
namespace Go.Proofs.YtldchepfcgbpiaaGreat
open Go.RowKit

/-- An element: two words (or not), fraction bits (or not), two numbers, a wide one, a count. -/
structure Fl where
  a : Int
  b : Int
  f : Int
  n : Int
  d : Int
  v : Int
  k : Int
def Fl.ok (e : Fl) : Prop := (-9223372036854775808 ≤ e.a ∧ e.a ≤ 9223372036854775807) ∧ (-9223372036854775808 ≤ e.b ∧ e.b ≤ 9223372036854775807) ∧ (-9223372036854775808 ≤ e.f ∧ e.f ≤ 9223372036854775807) ∧ (-9223372036854775808 ≤ e.n ∧ e.n ≤ 9223372036854775807) ∧ (-9223372036854775808 ≤ e.d ∧ e.d ≤ 9223372036854775807) ∧ R e.v ∧ (-9223372036854775808 ≤ e.k ∧ e.k ≤ 9223372036854775807)
/-- Its eight cells. -/
def FlAt (w : World) (b o : Nat) (e : Fl) : Prop :=
  w.cell? ⟨b, o, none⟩ = some (.int .i64 e.a) ∧ w.cell? ⟨b, o + 1, none⟩ = some (.int .i64 e.b) ∧ w.cell? ⟨b, o + 2, none⟩ = some (.int .i64 e.f) ∧ w.cell? ⟨b, o + 3, none⟩ = some (.int .i64 e.n) ∧ w.cell? ⟨b, o + 4, none⟩ = some (.int .i64 e.d) ∧ w.cell? ⟨b, o + 5, none⟩ = some (.int .i64 (hi e.v)) ∧ w.cell? ⟨b, o + 6, none⟩ = some (.int .u64 (lo e.v)) ∧ w.cell? ⟨b, o + 7, none⟩ = some (.int .i64 e.k)
theorem FlAt.below {w w' : World} {B b o : Nat} {e : Fl} (h : FlAt w b o e) (hb : Below B w w') (hB : b < B) : FlAt w' b o e := by
  obtain ⟨h1, h2, h3, h4, h5, h6, h7, h8⟩ := h
  exact ⟨(hb.cell (p := ⟨b, o, none⟩) hB).trans h1, (hb.cell (p := ⟨b, o + 1, none⟩) hB).trans h2, (hb.cell (p := ⟨b, o + 2, none⟩) hB).trans h3, (hb.cell (p := ⟨b, o + 3, none⟩) hB).trans h4, (hb.cell (p := ⟨b, o + 4, none⟩) hB).trans h5, (hb.cell (p := ⟨b, o + 5, none⟩) hB).trans h6, (hb.cell (p := ⟨b, o + 6, none⟩) hB).trans h7, (hb.cell (p := ⟨b, o + 7, none⟩) hB).trans h8⟩
end Go.Proofs.YtldchepfcgbpiaaGreat
namespace Go.Proofs.YtldchepfcgbpiaaGreat
open Go.RowKit

theorem may_any (v : Int) (w : World) : Calls Tryz.prog 7 #[.int .i64 v] w fun e w' => e = .returned (.bool (wd v)) ∧ w = w' := by
  cases g : wd v with
  | true =>
    obtain ⟨g1, g2⟩ := wd_bd g
    clear g
    go_enter Tryz.func7, Tryz.ntmps7
    go_wp2
    go_ret
    exact ⟨rfl, rfl⟩
  | false =>
    have h := wd_no g
    clear g
    by_cases g1 : v ≤ -140737488355328
    · clear h
      go_enter Tryz.func7, Tryz.ntmps7
      go_wp2
      go_ret
      exact ⟨rfl, rfl⟩
    · have g2 : ¬ v < 140737488355328 := by omega
      have g3 : -140737488355328 < v := by omega
      clear h g1
      go_enter Tryz.func7, Tryz.ntmps7
      go_wp2
      go_ret
      exact ⟨rfl, rfl⟩
end Go.Proofs.YtldchepfcgbpiaaGreat
namespace Go.Proofs.YtldchepfcgbpiaaGreat
open Go.RowKit

end Go.Proofs.YtldchepfcgbpiaaGreat
namespace Go.Proofs.YtldchepfcgbpiaaGreat
open Go.RowKit

theorem rt_up (k : Nat) : ∃ s, Rt (k : Int) s := by
  induction k with
  | zero => exact ⟨0, by decide, by decide, by decide⟩
  | succ k ih =>
    obtain ⟨s, h0, h1, h2⟩ := ih
    have e := sq_succ (s + 1)
    by_cases g : (k : Int) + 1 < (s + 1) * (s + 1)
    · exact ⟨s, h0, by omega, by omega⟩
    · exact ⟨s + 1, by omega, by omega, by omega⟩
theorem rt_ex {n : Int} (h : 0 ≤ n) : ∃ s, Rt n s := by
  obtain ⟨k, rfl⟩ := Int.eq_ofNat_of_zero_le h
  exact rt_up k
end Go.Proofs.YtldchepfcgbpiaaGreat
namespace Go.Proofs.YtldchepfcgbpiaaGreat
open Go.RowKit

/-- An element: a word (or not), fraction bits (or not). -/
structure Rl where
  a : Int
  f : Int
def Rl.ok (e : Rl) : Prop := (-9223372036854775808 ≤ e.a ∧ e.a ≤ 9223372036854775807) ∧ (-9223372036854775808 ≤ e.f ∧ e.f ≤ 9223372036854775807)
/-- Its two cells. -/
def RlAt (w : World) (b o : Nat) (e : Rl) : Prop :=
  w.cell? ⟨b, o, none⟩ = some (.int .i64 e.a) ∧ w.cell? ⟨b, o + 1, none⟩ = some (.int .i64 e.f)
theorem RlAt.below {w w' : World} {B b o : Nat} {e : Rl} (h : RlAt w b o e) (hb : Below B w w') (hB : b < B) : RlAt w' b o e := by
  obtain ⟨h1, h2⟩ := h
  exact ⟨(hb.cell (p := ⟨b, o, none⟩) hB).trans h1, (hb.cell (p := ⟨b, o + 1, none⟩) hB).trans h2⟩
end Go.Proofs.YtldchepfcgbpiaaGreat
namespace Go.Proofs.YtldchepfcgbpiaaGreat
open Go.RowKit
end Go.Proofs.YtldchepfcgbpiaaGreat
namespace Go.Proofs.YtldchepfcgbpiaaGreat
open Go.RowKit
end Go.Proofs.YtldchepfcgbpiaaGreat
namespace Go.Proofs.YtldchepfcgbpiaaGreat
open Go.RowKit
theorem sg_le {a b : Int} (h : a ≤ b) : ¬ 0 < sg a b := by
  rcases Int.lt_or_le a b with q | q
  · rw [sg_lt q]; decide
  · rw [show a = b by omega, sg_eq]; decide
theorem nab_mul {x y : Int} {k m : Nat} (hx : x.natAbs < 2 ^ k) (hy : y.natAbs < 2 ^ m) : (x * y).natAbs < 2 ^ (k + m) := by
  rw [Int.natAbs_mul, Nat.pow_add]
  exact Nat.mul_lt_mul'' hx hy
end Go.Proofs.YtldchepfcgbpiaaGreat
