/-
  The references' rational numbers: denominators, comparisons.
  Quotients by a divisor above 0: the rounded one is the lower one, or 1 more; both are wide numbers.
  Rounded quotients of words: half of the divisor away at most.
  Rounded quotients of words: they are words, but for one.
  Shifted and rounded back: whole numbers.
  Rounded quotients: of multiples, of negatives.
  The nearest whole number to a quotient, as the references reckon it.
  The document's own answer for package wide: the nearest quotient.
-/
import Derived.Test.YtdbgooobbemklaaM01
import Derived.Test.YtdbgooobbemklaaM02
import Derived.Test.YtdbgooobbemklaaM03
import Derived.Test.YtdbgooobbemklaaM08
import Derived.Test.YtdbgooobbemklaaM09
namespace Go.Proofs.Ytdbgooobbemklaa
open Go.RowKit

/-- x reads as p over q. -/
def IsR (w : World) (x : Value) (p : Int) (q : Nat) : Prop := ∃ b o1 l1 c1 o2 l2 c2, x = Rv b (.slice o1 l1 c1) (.slice o2 l2 c2) ∧ Hid (b = decide (p < 0) ∧ IsN w (.slice o1 l1 c1) p.natAbs ∧ IsN w (.slice o2 l2 c2) q)
theorem IsR.mk {w : World} {b : Bool} {o1 o2 : Option Addr} {l1 c1 l2 c2 : Nat} {p : Int} {q : Nat} (H : Hid (b = decide (p < 0) ∧ IsN w (.slice o1 l1 c1) p.natAbs ∧ IsN w (.slice o2 l2 c2) q)) : IsR w (Rv b (.slice o1 l1 c1) (.slice o2 l2 c2)) p q := ⟨b, o1, l1, c1, o2, l2, c2, rfl, H⟩
theorem IsR.below {w w' : World} {x : Value} {p : Int} {q : Nat} (h : IsR w x p q) (hb : Below w.heap.size w w') : IsR w' x p q := by
  obtain ⟨b, o1, l1, c1, o2, l2, c2, rfl, H⟩ := h
  exact ⟨b, o1, l1, c1, o2, l2, c2, rfl, ⟨H.out.1, H.out.2.1.below hb, H.out.2.2.below hb⟩⟩
theorem SomeR.isR {w : World} {p : Int} {q : Nat} {e : Ending} {w' : World} (h : SomeR w p q e w') : ∃ v, e = .returned v ∧ IsR w' v p q ∧ Below w.heap.size w w' := by
  obtain ⟨b, o1, l1, c1, o2, l2, c2, rfl, H, hb⟩ := h
  exact ⟨_, rfl, ⟨b, o1, l1, c1, o2, l2, c2, rfl, H⟩, hb⟩
set_option maxRecDepth 100000 in
set_option maxHeartbeats 8000000 in
theorem den_any (x : Value) (p : Int) (q : Nat) (w : World) (h : IsR w x p q) : Calls Try.prog 71 #[x] w (SomeI w (q : Int)) := by
  obtain ⟨ba, oa1, la1, ca1, oa2, la2, ca2, rfl, Ha⟩ := h
  go_enter Try.func71, Try.ntmps71
  go_wp2_with (first | (go_at_call 67; (with_reducible refine (made_as false _ q (q : Int) _ (Ha.out.2.2.below (by repeat (first | exact Below.refl _ _ | assumption | apply Below.drew | refine Below.setCell ?_ (by first | omega | (simp; done) | (simp; omega)) _ | refine Below.alloc ?_ (by first | omega | (simp; done) | (simp; omega)) _))) (if_neg (by decide)).symm).mono ?_); rintro e w1 ⟨vm, rfl, hv, hb1⟩; have e10 : w1.cell? ⟨w.heap.size, 0, none⟩ = some (.bool ba) := cell_on hb1 (by first | (simp [go_sem, *]; done) | (simp [go_sem, World.cell?_alloc_some, *]; done) | fail); have e11 : w1.cell? ⟨w.heap.size, 1, none⟩ = some (Value.slice oa1 la1 ca1) := cell_on hb1 (by first | (simp [go_sem, *]; done) | (simp [go_sem, World.cell?_alloc_some, *]; done) | fail); have e12 : w1.cell? ⟨w.heap.size, 2, none⟩ = some (Value.slice oa2 la2 ca2) := cell_on hb1 (by first | (simp [go_sem, *]; done) | (simp [go_sem, World.cell?_alloc_some, *]; done) | fail); have e13 : w1.cell? ⟨w.heap.size + 1, 0, none⟩ = some (.bool false) := cell_on hb1 (by first | (simp [go_sem, *]; done) | (simp [go_sem, World.cell?_alloc_some, *]; done) | fail); have e14 : w1.cell? ⟨w.heap.size + 1, 1, none⟩ = some (.slice none 0 0) := cell_on hb1 (by first | (simp [go_sem, *]; done) | (simp [go_sem, World.cell?_alloc_some, *]; done) | fail); have s10 : w.heap.size < w1.heap.size := World.block_lt_of_cell? _ _ e10; have t10 : w.heap.size < w1.heap.size + 1 := Nat.lt_succ_of_lt s10; have s13 : w.heap.size + 1 < w1.heap.size := World.block_lt_of_cell? _ _ e13; have t13 : w.heap.size + 1 < w1.heap.size + 1 := Nat.lt_succ_of_lt s13; have y13 : w1.frozen? ⟨w.heap.size + 1, 0, none⟩ = false := frozen_on hb1 (v := .bool false) (by first | (simp [go_sem, *]; done) | (simp [go_sem, World.cell?_alloc_some, *]; done) | fail) (by first | (simp [go_sem, *]; done) | (simp [go_sem, frozen?_alloc_cells, *]; done) | fail); have y14 : w1.frozen? ⟨w.heap.size + 1, 1, none⟩ = false := frozen_on hb1 (v := .slice none 0 0) (by first | (simp [go_sem, *]; done) | (simp [go_sem, World.cell?_alloc_some, *]; done) | fail) (by first | (simp [go_sem, *]; done) | (simp [go_sem, frozen?_alloc_cells, *]; done) | fail); have q1 := hb1.size; (try simp at q1); obtain ⟨bm, om, lm, cm, rfl, Hm⟩ := hv.open; clear hv) | fail)
  refine bodyPost_ret (v := Iv bm (.slice om lm cm)) (by simp [results, Try.results71, go_sem, *]) rfl ⟨_, rfl, ?_, ?_⟩
  · exact IsI.put (v0 := .bool false) (v1 := .slice none 0 0) (IsI.mk Hm.out.1 Hm.out.2.1) e13 (by simp) e14 (by simp)
  · repeat (first | exact Below.refl _ _ | assumption | apply Below.drew | refine Below.setCell ?_ (by first | omega | (simp; done) | (simp; omega)) _ | refine Below.alloc ?_ (by first | omega | (simp; done) | (simp; omega)) _ | refine Below.trans ?_ (hb1.mono (by first | omega | (simp; done) | (simp; omega))))
set_option maxRecDepth 100000 in
set_option maxHeartbeats 8000000 in
theorem rcmp_any (x y : Value) (p r : Int) (q s : Nat) (w : World) (h : IsR w x p q) (k : IsR w y r s) (gp : p.natAbs < BIG) (gr : r.natAbs < BIG) (gq : q < BIG) (gs : s < BIG) (g1 : (p * s).natAbs < BIG) (g2 : (r * q).natAbs < BIG) : Calls Try.prog 37 #[x, y] w fun e w' => e = .returned (.int .i64 (sg (p * s) (r * q))) ∧ Below w.heap.size w w' := by
  obtain ⟨ba, oa1, la1, ca1, oa2, la2, ca2, rfl, Ha⟩ := h
  obtain ⟨bd, od1, ld1, cd1, od2, ld2, cd2, rfl, Hd⟩ := k
  have G : Hid (p.natAbs < BIG ∧ r.natAbs < BIG ∧ ((q : Nat) : Int).natAbs < BIG ∧ ((s : Nat) : Int).natAbs < BIG ∧ (p * s).natAbs < BIG ∧ (r * q).natAbs < BIG) := ⟨gp, gr, gq, gs, g1, g2⟩
  clear gp gr gq gs g1 g2
  go_enter Try.func37, Try.ntmps37
  go_wp2
  go_region_held3 (fun w' => w'.cell? ⟨w.heap.size, 0, none⟩ = some (.bool ba) ∧ w'.cell? ⟨w.heap.size, 1, none⟩ = some (Value.slice oa1 la1 ca1) ∧ w'.cell? ⟨w.heap.size, 2, none⟩ = some (Value.slice oa2 la2 ca2) ∧ w'.cell? ⟨w.heap.size + 1, 0, none⟩ = some (.bool bd) ∧ w'.cell? ⟨w.heap.size + 1, 1, none⟩ = some (Value.slice od1 ld1 cd1) ∧ w'.cell? ⟨w.heap.size + 1, 2, none⟩ = some (Value.slice od2 ld2 cd2)) (first | (simp [go_sem, *]; done) | (simp [go_sem, World.cell?_alloc_some, *]; done)) (first | (go_at_call 71; (with_reducible refine (den_any _ r s _ (IsR.below (IsR.mk Hd) (by repeat (first | exact Below.refl _ _ | assumption | apply Below.drew | refine Below.setCell ?_ (by first | omega | (simp; done) | (simp; omega)) _ | refine Below.alloc ?_ (by first | omega | (simp; done) | (simp; omega)) _)))).mono ?_); rintro e w1 ⟨vs, rfl, hv, hb1⟩; have e10 : w1.cell? ⟨w.heap.size, 0, none⟩ = some (.bool ba) := cell_on hb1 (by first | (simp [go_sem, *]; done) | (simp [go_sem, World.cell?_alloc_some, *]; done) | fail); have e11 : w1.cell? ⟨w.heap.size, 1, none⟩ = some (Value.slice oa1 la1 ca1) := cell_on hb1 (by first | (simp [go_sem, *]; done) | (simp [go_sem, World.cell?_alloc_some, *]; done) | fail); have e12 : w1.cell? ⟨w.heap.size, 2, none⟩ = some (Value.slice oa2 la2 ca2) := cell_on hb1 (by first | (simp [go_sem, *]; done) | (simp [go_sem, World.cell?_alloc_some, *]; done) | fail); have e13 : w1.cell? ⟨w.heap.size + 1, 0, none⟩ = some (.bool bd) := cell_on hb1 (by first | (simp [go_sem, *]; done) | (simp [go_sem, World.cell?_alloc_some, *]; done) | fail); have e14 : w1.cell? ⟨w.heap.size + 1, 1, none⟩ = some (Value.slice od1 ld1 cd1) := cell_on hb1 (by first | (simp [go_sem, *]; done) | (simp [go_sem, World.cell?_alloc_some, *]; done) | fail); have e15 : w1.cell? ⟨w.heap.size + 1, 2, none⟩ = some (Value.slice od2 ld2 cd2) := cell_on hb1 (by first | (simp [go_sem, *]; done) | (simp [go_sem, World.cell?_alloc_some, *]; done) | fail); have s10 : w.heap.size < w1.heap.size := World.block_lt_of_cell? _ _ e10; have t10 : w.heap.size < w1.heap.size + 1 := Nat.lt_succ_of_lt s10; have s13 : w.heap.size + 1 < w1.heap.size := World.block_lt_of_cell? _ _ e13; have t13 : w.heap.size + 1 < w1.heap.size + 1 := Nat.lt_succ_of_lt s13; have q1 := hb1.size; (try simp at q1); obtain ⟨bs, os, ls, cs, rfl, Hs⟩ := hv.open; clear hv) | (go_at_call 32; (with_reducible refine (itimes_any _ _ p (s : Int) _ (IsI.below (IsI.mk Ha.out.1 Ha.out.2.1) (by repeat (first | exact Below.refl _ _ | assumption | apply Below.drew | refine Below.setCell ?_ (by first | omega | (simp; done) | (simp; omega)) _ | refine Below.alloc ?_ (by first | omega | (simp; done) | (simp; omega)) _ | refine Below.trans ?_ (hb1.mono (by first | omega | (simp; done) | (simp; omega)))))) ((IsI.mk Hs.out.1 Hs.out.2.1).below (by repeat (first | exact Below.refl _ _ | assumption | apply Below.drew | refine Below.setCell ?_ (by first | omega | (simp; done) | (simp; omega)) _ | refine Below.alloc ?_ (by first | omega | (simp; done) | (simp; omega)) _))) G.out.1 G.out.2.2.2.1).mono ?_); rintro e w2 ⟨vt, rfl, hv, hb2⟩; have e20 : w2.cell? ⟨w.heap.size, 0, none⟩ = some (.bool ba) := cell_on hb2 (by first | (simp [go_sem, *]; done) | (simp [go_sem, World.cell?_alloc_some, *]; done) | fail); have e21 : w2.cell? ⟨w.heap.size, 1, none⟩ = some (Value.slice oa1 la1 ca1) := cell_on hb2 (by first | (simp [go_sem, *]; done) | (simp [go_sem, World.cell?_alloc_some, *]; done) | fail); have e22 : w2.cell? ⟨w.heap.size, 2, none⟩ = some (Value.slice oa2 la2 ca2) := cell_on hb2 (by first | (simp [go_sem, *]; done) | (simp [go_sem, World.cell?_alloc_some, *]; done) | fail); have e23 : w2.cell? ⟨w.heap.size + 1, 0, none⟩ = some (.bool bd) := cell_on hb2 (by first | (simp [go_sem, *]; done) | (simp [go_sem, World.cell?_alloc_some, *]; done) | fail); have e24 : w2.cell? ⟨w.heap.size + 1, 1, none⟩ = some (Value.slice od1 ld1 cd1) := cell_on hb2 (by first | (simp [go_sem, *]; done) | (simp [go_sem, World.cell?_alloc_some, *]; done) | fail); have e25 : w2.cell? ⟨w.heap.size + 1, 2, none⟩ = some (Value.slice od2 ld2 cd2) := cell_on hb2 (by first | (simp [go_sem, *]; done) | (simp [go_sem, World.cell?_alloc_some, *]; done) | fail); have s20 : w.heap.size < w2.heap.size := World.block_lt_of_cell? _ _ e20; have t20 : w.heap.size < w2.heap.size + 1 := Nat.lt_succ_of_lt s20; have s23 : w.heap.size + 1 < w2.heap.size := World.block_lt_of_cell? _ _ e23; have t23 : w.heap.size + 1 < w2.heap.size + 1 := Nat.lt_succ_of_lt s23; have q2 := hb2.size; (try simp at q2); obtain ⟨bt, ot, lt, ct, rfl, Ht⟩ := hv.open; clear hv) | (go_at_call 71; (with_reducible refine (den_any _ p q _ (IsR.below (IsR.mk Ha) (by repeat (first | exact Below.refl _ _ | assumption | apply Below.drew | refine Below.setCell ?_ (by first | omega | (simp; done) | (simp; omega)) _ | refine Below.alloc ?_ (by first | omega | (simp; done) | (simp; omega)) _ | refine Below.trans ?_ (hb2.mono (by first | omega | (simp; done) | (simp; omega))) | refine Below.trans ?_ (hb1.mono (by first | omega | (simp; done) | (simp; omega))))))).mono ?_); rintro e w3 ⟨vq, rfl, hv, hb3⟩; have e30 : w3.cell? ⟨w.heap.size, 0, none⟩ = some (.bool ba) := cell_on hb3 (by first | (simp [go_sem, *]; done) | (simp [go_sem, World.cell?_alloc_some, *]; done) | fail); have e31 : w3.cell? ⟨w.heap.size, 1, none⟩ = some (Value.slice oa1 la1 ca1) := cell_on hb3 (by first | (simp [go_sem, *]; done) | (simp [go_sem, World.cell?_alloc_some, *]; done) | fail); have e32 : w3.cell? ⟨w.heap.size, 2, none⟩ = some (Value.slice oa2 la2 ca2) := cell_on hb3 (by first | (simp [go_sem, *]; done) | (simp [go_sem, World.cell?_alloc_some, *]; done) | fail); have e33 : w3.cell? ⟨w.heap.size + 1, 0, none⟩ = some (.bool bd) := cell_on hb3 (by first | (simp [go_sem, *]; done) | (simp [go_sem, World.cell?_alloc_some, *]; done) | fail); have e34 : w3.cell? ⟨w.heap.size + 1, 1, none⟩ = some (Value.slice od1 ld1 cd1) := cell_on hb3 (by first | (simp [go_sem, *]; done) | (simp [go_sem, World.cell?_alloc_some, *]; done) | fail); have e35 : w3.cell? ⟨w.heap.size + 1, 2, none⟩ = some (Value.slice od2 ld2 cd2) := cell_on hb3 (by first | (simp [go_sem, *]; done) | (simp [go_sem, World.cell?_alloc_some, *]; done) | fail); have s30 : w.heap.size < w3.heap.size := World.block_lt_of_cell? _ _ e30; have t30 : w.heap.size < w3.heap.size + 1 := Nat.lt_succ_of_lt s30; have s33 : w.heap.size + 1 < w3.heap.size := World.block_lt_of_cell? _ _ e33; have t33 : w.heap.size + 1 < w3.heap.size + 1 := Nat.lt_succ_of_lt s33; have q3 := hb3.size; (try simp at q3); obtain ⟨bq, oq, lq, cq, rfl, Hq⟩ := hv.open; clear hv) | (go_at_call 32; (with_reducible refine (itimes_any _ _ r (q : Int) _ (IsI.below (IsI.mk Hd.out.1 Hd.out.2.1) (by repeat (first | exact Below.refl _ _ | assumption | apply Below.drew | refine Below.setCell ?_ (by first | omega | (simp; done) | (simp; omega)) _ | refine Below.alloc ?_ (by first | omega | (simp; done) | (simp; omega)) _ | refine Below.trans ?_ (hb3.mono (by first | omega | (simp; done) | (simp; omega))) | refine Below.trans ?_ (hb2.mono (by first | omega | (simp; done) | (simp; omega))) | refine Below.trans ?_ (hb1.mono (by first | omega | (simp; done) | (simp; omega)))))) ((IsI.mk Hq.out.1 Hq.out.2.1).below (by repeat (first | exact Below.refl _ _ | assumption | apply Below.drew | refine Below.setCell ?_ (by first | omega | (simp; done) | (simp; omega)) _ | refine Below.alloc ?_ (by first | omega | (simp; done) | (simp; omega)) _))) G.out.2.1 G.out.2.2.1).mono ?_); rintro e w4 ⟨vu, rfl, hv, hb4⟩; have e40 : w4.cell? ⟨w.heap.size, 0, none⟩ = some (.bool ba) := cell_on hb4 (by first | (simp [go_sem, *]; done) | (simp [go_sem, World.cell?_alloc_some, *]; done) | fail); have e41 : w4.cell? ⟨w.heap.size, 1, none⟩ = some (Value.slice oa1 la1 ca1) := cell_on hb4 (by first | (simp [go_sem, *]; done) | (simp [go_sem, World.cell?_alloc_some, *]; done) | fail); have e42 : w4.cell? ⟨w.heap.size, 2, none⟩ = some (Value.slice oa2 la2 ca2) := cell_on hb4 (by first | (simp [go_sem, *]; done) | (simp [go_sem, World.cell?_alloc_some, *]; done) | fail); have e43 : w4.cell? ⟨w.heap.size + 1, 0, none⟩ = some (.bool bd) := cell_on hb4 (by first | (simp [go_sem, *]; done) | (simp [go_sem, World.cell?_alloc_some, *]; done) | fail); have e44 : w4.cell? ⟨w.heap.size + 1, 1, none⟩ = some (Value.slice od1 ld1 cd1) := cell_on hb4 (by first | (simp [go_sem, *]; done) | (simp [go_sem, World.cell?_alloc_some, *]; done) | fail); have e45 : w4.cell? ⟨w.heap.size + 1, 2, none⟩ = some (Value.slice od2 ld2 cd2) := cell_on hb4 (by first | (simp [go_sem, *]; done) | (simp [go_sem, World.cell?_alloc_some, *]; done) | fail); have s40 : w.heap.size < w4.heap.size := World.block_lt_of_cell? _ _ e40; have t40 : w.heap.size < w4.heap.size + 1 := Nat.lt_succ_of_lt s40; have s43 : w.heap.size + 1 < w4.heap.size := World.block_lt_of_cell? _ _ e43; have t43 : w.heap.size + 1 < w4.heap.size + 1 := Nat.lt_succ_of_lt s43; have q4 := hb4.size; (try simp at q4); obtain ⟨bu, ou, lu, cu, rfl, Hu⟩ := hv.open; clear hv) | (go_at_call 35; (with_reducible refine (icmp_any _ _ (p * s) (r * q) _ ((IsI.mk Ht.out.1 Ht.out.2.1).below (by repeat (first | exact Below.refl _ _ | assumption | apply Below.drew | refine Below.setCell ?_ (by first | omega | (simp; done) | (simp; omega)) _ | refine Below.alloc ?_ (by first | omega | (simp; done) | (simp; omega)) _ | refine Below.trans ?_ (hb4.mono (by first | omega | (simp; done) | (simp; omega))) | refine Below.trans ?_ (hb3.mono (by first | omega | (simp; done) | (simp; omega)))))) ((IsI.mk Hu.out.1 Hu.out.2.1).below (by repeat (first | exact Below.refl _ _ | assumption | apply Below.drew | refine Below.setCell ?_ (by first | omega | (simp; done) | (simp; omega)) _ | refine Below.alloc ?_ (by first | omega | (simp; done) | (simp; omega)) _))) G.out.2.2.2.2.1 G.out.2.2.2.2.2).mono ?_); rintro e w5 ⟨rfl, hb5⟩; have e50 : w5.cell? ⟨w.heap.size, 0, none⟩ = some (.bool ba) := cell_on hb5 (by first | (simp [go_sem, *]; done) | (simp [go_sem, World.cell?_alloc_some, *]; done) | fail); have e51 : w5.cell? ⟨w.heap.size, 1, none⟩ = some (Value.slice oa1 la1 ca1) := cell_on hb5 (by first | (simp [go_sem, *]; done) | (simp [go_sem, World.cell?_alloc_some, *]; done) | fail); have e52 : w5.cell? ⟨w.heap.size, 2, none⟩ = some (Value.slice oa2 la2 ca2) := cell_on hb5 (by first | (simp [go_sem, *]; done) | (simp [go_sem, World.cell?_alloc_some, *]; done) | fail); have e53 : w5.cell? ⟨w.heap.size + 1, 0, none⟩ = some (.bool bd) := cell_on hb5 (by first | (simp [go_sem, *]; done) | (simp [go_sem, World.cell?_alloc_some, *]; done) | fail); have e54 : w5.cell? ⟨w.heap.size + 1, 1, none⟩ = some (Value.slice od1 ld1 cd1) := cell_on hb5 (by first | (simp [go_sem, *]; done) | (simp [go_sem, World.cell?_alloc_some, *]; done) | fail); have e55 : w5.cell? ⟨w.heap.size + 1, 2, none⟩ = some (Value.slice od2 ld2 cd2) := cell_on hb5 (by first | (simp [go_sem, *]; done) | (simp [go_sem, World.cell?_alloc_some, *]; done) | fail); have s50 : w.heap.size < w5.heap.size := World.block_lt_of_cell? _ _ e50; have t50 : w.heap.size < w5.heap.size + 1 := Nat.lt_succ_of_lt s50; have s53 : w.heap.size + 1 < w5.heap.size := World.block_lt_of_cell? _ _ e53; have t53 : w.heap.size + 1 < w5.heap.size + 1 := Nat.lt_succ_of_lt s53; have q5 := hb5.size; (try simp at q5)))
  all_goals
    go_wp2_with fail
    go_ret
    refine ⟨rfl, ?_⟩
    repeat (first | exact Below.refl _ _ | assumption | apply Below.drew | refine Below.setCell ?_ (by first | omega | (simp; done) | (simp; omega)) _ | refine Below.alloc ?_ (by first | omega | (simp; done) | (simp; omega)) _ | refine Below.trans ?_ (hb5.mono (by first | omega | (simp; done) | (simp; omega))) | refine Below.trans ?_ (hb4.mono (by first | omega | (simp; done) | (simp; omega))) | refine Below.trans ?_ (hb3.mono (by first | omega | (simp; done) | (simp; omega))) | refine Below.trans ?_ (hb2.mono (by first | omega | (simp; done) | (simp; omega))) | refine Below.trans ?_ (hb1.mono (by first | omega | (simp; done) | (simp; omega))))
end Go.Proofs.Ytdbgooobbemklaa
namespace Go.Proofs.Ytdbgooobbemklaa
open Go.RowKit

theorem up_rest {n d : Int} (hd : 0 < d) (h : up n d = true) : ab n % ab d ≠ 0 := by
  intro e
  have dp : 0 < ab d := by unfold ab; omega
  unfold up at h
  rw [e, Int.mul_zero, sg_lt dp] at h
  simp at h
theorem quo_small {n d : Int} (hd : 0 < d) : 0 ≤ ab n / ab d ∧ ab n / ab d ≤ ab n ∧ (ab n % ab d ≠ 0 → ab n / ab d + 1 ≤ ab n) := by
  have dp : 0 < ab d := by unfold ab; omega
  have n0 : 0 ≤ ab n := by unfold ab; omega
  have q0 : 0 ≤ ab n / ab d := Int.ediv_nonneg n0 (by omega)
  refine ⟨q0, Int.ediv_le_self _ n0, fun hr => ?_⟩
  have r0 := Int.emod_nonneg (ab n) (show ab d ≠ 0 by omega)
  have e := Int.mul_ediv_add_emod (ab n) (ab d)
  have : 1 * (ab n / ab d) ≤ ab d * (ab n / ab d) := Int.mul_le_mul_of_nonneg_right (by omega) q0
  omega
theorem downs_math {n d : Int} (hn : R n) (hd : 0 < d) : R (dn n d) ∧ R (rd n d) ∧ R (rd n d - dn n d) ∧ 0 ≤ rd n d - dn n d ∧ rd n d - dn n d ≤ 1 := by
  obtain ⟨q0, q1, q2⟩ := quo_small (n := n) hd
  have hb := ab_bd hn
  have hu := up_rest (n := n) hd
  have ed : ng d = false := by unfold ng; exact decide_eq_false (by omega)
  have en : ng n = decide (n < 0) := rfl
  rw [R_iff] at hn
  simp only [R_iff]
  unfold dn rd sd
  rw [ed, en]
  generalize up n d = u at *
  have ea : n < 0 → ab n = -n := by intro h; unfold ab; omega
  have eb : ¬ n < 0 → ab n = n := by intro h; unfold ab; omega
  generalize ab n / ab d = q at *
  generalize ab n % ab d = r at *
  by_cases h : n < 0 <;> by_cases hr : r = 0 <;> cases u <;> simp [h, hr] at hu ea eb q2 ⊢ <;> omega
end Go.Proofs.Ytdbgooobbemklaa
namespace Go.Proofs.Ytdbgooobbemklaa
open Go.RowKit

theorem sd_mul (n d k : Int) : n - sd (ng n != ng d) k * d = sd (ng n) (ab n - ab d * k) := by
  have en : n = sd (ng n) (ab n) := by unfold sd ng ab; by_cases h : n < 0 <;> simp [h] <;> omega
  have ed : d = sd (ng d) (ab d) := by unfold sd ng ab; by_cases h : d < 0 <;> simp [h] <;> omega
  generalize ng n = s at *
  generalize ng d = t at *
  generalize ab n = A at *
  generalize ab d = D at *
  subst en
  subst ed
  cases s <;> cases t <;> simp [sd, Int.mul_comm D k, Int.neg_mul, Int.mul_neg] <;> omega
theorem up_cases (n d : Int) : (up n d = true ∧ (ab d < 2 * (ab n % ab d) ∨ (2 * (ab n % ab d) = ab d ∧ ab n / ab d % 2 = 1))) ∨ (up n d = false ∧ (2 * (ab n % ab d) < ab d ∨ (2 * (ab n % ab d) = ab d ∧ ab n / ab d % 2 ≠ 1))) := by
  unfold up
  generalize 2 * (ab n % ab d) = r
  generalize ab n / ab d = q
  generalize ab d = D
  rcases Int.lt_trichotomy r D with h | h | h
  · rw [sg_lt h]; simp; omega
  · rw [h, sg_eq]
    by_cases hq : q % 2 = 1
    · simp [hq]
    · simp [hq]
  · have e : sg r D = 1 := by unfold sg; rw [if_neg (by omega), if_pos h]
    rw [e]; simp; omega
theorem half_math (n d : Int) (h0 : d ≠ 0) : 2 * ((n - rd n d * d).natAbs : Int) ≤ d.natAbs ∧ (2 * ((n - rd n d * d).natAbs : Int) = d.natAbs → rd n d % 2 = 0) := by
  have dp : 0 < ab d := by unfold ab; omega
  have ed : (d.natAbs : Int) = ab d := rfl
  rw [ed]
  have r0 := Int.emod_nonneg (ab n) (show ab d ≠ 0 by omega)
  have r1 := Int.emod_lt_of_pos (ab n) dp
  have e := Int.mul_ediv_add_emod (ab n) (ab d)
  have en : ∀ s x, (sd s x).natAbs = x.natAbs := fun s x => by cases s <;> simp [sd]
  have e2 : ∀ s x, (sd s x) % 2 = 0 ↔ x % 2 = 0 := fun s x => by cases s <;> simp [sd] <;> omega
  have U := up_cases n d
  unfold rd
  rw [sd_mul, en, e2]
  generalize ab n / ab d = q at *
  generalize ab n % ab d = r at *
  generalize ab n = A at *
  rcases U with ⟨u, h⟩ | ⟨u, h⟩ <;> rw [u] <;> simp only [if_true, if_false, Bool.false_eq_true] <;> (try rw [Int.mul_add, Int.mul_one]) <;> generalize ab d * q = m at * <;> omega
theorem rd_neg (n d : Int) (h0 : d ≠ 0) : rd (-n) d = -rd n d := by
  have ea : ab (-n) = ab n := by unfold ab; omega
  unfold rd up
  rw [ea]
  by_cases h : n = 0
  · subst h
    have z : ab 0 = 0 := rfl
    have dp : 0 < ab d := by unfold ab; omega
    rw [z, Int.zero_ediv, Int.zero_emod, Int.mul_zero, sg_lt dp]
    cases (ng d) <;> simp [sd]
  · have en : ng (-n) = !ng n := by unfold ng; by_cases k : n < 0 <;> simp [k] <;> omega
    rw [en]
    generalize ng n = s
    generalize ng d = t
    cases s <;> cases t <;> simp [sd]
end Go.Proofs.Ytdbgooobbemklaa
namespace Go.Proofs.Ytdbgooobbemklaa
open Go.RowKit

theorem sd_abs (s : Bool) (x : Int) : (sd s x).natAbs = x.natAbs := by cases s <;> simp [sd]
theorem ab_ab (d : Int) : ab (ab d) = ab d := by unfold ab; omega
theorem up_ab (n d : Int) : up n d = up n (ab d) := by unfold up; rw [ab_ab]
theorem rd_small {n d : Int} (hd : d ≠ 0) : (rd n d).natAbs ≤ n.natAbs := by
  have dp : 0 < ab d := by unfold ab; omega
  obtain ⟨q0, q1, q2⟩ := quo_small (n := n) dp
  have hu := up_rest (n := n) dp
  rw [← up_ab] at hu
  rw [ab_ab] at q0 q1 q2 hu
  unfold rd
  rw [sd_abs]
  have en : ab n = n.natAbs := rfl
  generalize ab n / ab d = q at *
  generalize ab n % ab d = r at *
  generalize ab n = A at *
  cases h : up n d with
  | true => have := q2 (hu h); simp only [if_true]; omega
  | false => simp only [Bool.false_eq_true, if_false]; omega
theorem rd_top {n d : Int} (h0 : -9223372036854775808 ≤ n) (h1 : n ≤ 9223372036854775807) (hd : d ≠ 0) (hs : isS (rd n d) = false) : n = -9223372036854775808 ∧ d = -1 := by
  have hs2 : ¬ (-9223372036854775808 ≤ rd n d ∧ rd n d ≤ 9223372036854775807) := by unfold isS at hs; exact of_decide_eq_false hs
  have sm := rd_small (n := n) hd
  have top : rd n d = 9223372036854775808 := by omega
  have hn : n = -9223372036854775808 := by omega
  refine ⟨hn, ?_⟩
  subst hn
  have dp : 0 < ab d := by unfold ab; omega
  have hu := up_rest (n := -9223372036854775808) dp
  rw [← up_ab, ab_ab] at hu
  have ea : ab (-9223372036854775808) = 9223372036854775808 := by decide
  unfold rd at top
  rw [ea] at top hu
  have nn : ng (-9223372036854775808) = true := by decide
  rw [nn] at top
  rcases (by omega : ab d = 1 ∨ 2 ≤ ab d) with h | h
  · rw [h, Int.ediv_one] at top
    rw [h, Int.emod_one] at hu
    cases hd2 : ng d with
    | true =>
      unfold ng at hd2
      have := of_decide_eq_true hd2
      unfold ab at h
      omega
    | false =>
      rw [hd2] at top
      cases hup : up (-9223372036854775808) d with
      | true => exact absurd rfl (hu hup)
      | false => rw [hup] at top; simp [sd] at top
  · have q1 : 9223372036854775808 / ab d ≤ 9223372036854775808 / 2 := by
      have r0 := Int.emod_nonneg 9223372036854775808 (show ab d ≠ 0 by omega)
      have e := Int.mul_ediv_add_emod 9223372036854775808 (ab d)
      have q0 : 0 ≤ 9223372036854775808 / ab d := Int.ediv_nonneg (by decide) (by omega)
      have : 2 * (9223372036854775808 / ab d) ≤ ab d * (9223372036854775808 / ab d) := Int.mul_le_mul_of_nonneg_right h q0
      omega
    have q0 : 0 ≤ 9223372036854775808 / ab d := Int.ediv_nonneg (by decide) (by omega)
    generalize 9223372036854775808 / ab d = q at *
    generalize (true != ng d) = s at *
    generalize up (-9223372036854775808) d = u at *
    cases s <;> cases u <;> simp [sd] at top <;> omega
end Go.Proofs.Ytdbgooobbemklaa
namespace Go.Proofs.Ytdbgooobbemklaa
open Go.RowKit

theorem ab_mul_pow (x : Int) (n : Nat) : ab (x * 2 ^ n) = ab x * 2 ^ n := by
  unfold ab
  rw [Int.natAbs_mul, Int.natCast_mul, Int.natAbs_pow]
  simp
theorem shift_back (x : Int) (n : Nat) : rd (x * 2 ^ n) (2 ^ n) = x ∧ dn (x * 2 ^ n) (2 ^ n) = x := by
  have hp : (0 : Int) < 2 ^ n := Int.pow_pos (by decide)
  have ep : ab (2 ^ n) = 2 ^ n := by unfold ab; omega
  have en : ng ((2 : Int) ^ n) = false := by unfold ng; exact decide_eq_false (by omega)
  have q : ab (x * 2 ^ n) / ab (2 ^ n) = ab x := by rw [ab_mul_pow, ep]; exact Int.mul_ediv_cancel _ (by omega)
  have r : ab (x * 2 ^ n) % ab (2 ^ n) = 0 := by rw [ab_mul_pow, ep]; exact Int.mul_emod_left _ _
  have u : up (x * 2 ^ n) (2 ^ n) = false := by
    cases h : up (x * 2 ^ n) (2 ^ n) with
    | false => rfl
    | true => exact absurd r (up_rest hp h)
  have sn : ng (x * 2 ^ n) = ng x := by
    unfold ng
    rw [Bool.eq_iff_iff]; simp only [decide_eq_true_eq]
    constructor
    · intro h
      rcases Int.lt_or_le x 0 with h1 | h1
      · exact h1
      · have := Int.mul_nonneg h1 (Int.le_of_lt hp); omega
    · intro h; exact Int.mul_neg_of_neg_of_pos h hp
  have fin : sd (ng x) (ab x) = x := by have := sd_ab x 1; simpa using this
  unfold rd dn
  rw [u, q, r, en, sn]
  simp [fin]
theorem small_shift {x : Int} (n : Nat) (h0 : -36028797018963968 ≤ x) (h1 : x ≤ 36028797018963967) (hn : n ≤ 59) : R x ∧ R (x * 2 ^ n) ∧ R ((2 : Int) ^ n) := by
  have hp : (0 : Int) < 2 ^ n := Int.pow_pos (by decide)
  have m := pow_mono hn
  have e : (2 : Int) ^ 59 = 576460752303423488 := by decide
  rw [e] at m
  have a1 : (x * 2 ^ n).natAbs ≤ 36028797018963968 * 576460752303423488 := by
    rw [Int.natAbs_mul]; exact Nat.mul_le_mul (by omega) (by omega)
  simp only [R_iff]
  omega
end Go.Proofs.Ytdbgooobbemklaa
namespace Go.Proofs.Ytdbgooobbemklaa
open Go.RowKit

theorem ab_mul (a b : Int) : ab (a * b) = ab a * ab b := by unfold ab; rw [Int.natAbs_mul]; rfl
theorem ng_mul_pos (a : Int) {k : Int} (hk : 0 < k) : ng (a * k) = ng a := by
  unfold ng
  rw [Bool.eq_iff_iff]; simp only [decide_eq_true_eq]
  constructor
  · intro h
    rcases Int.lt_or_le a 0 with h1 | h1
    · exact h1
    · have := Int.mul_nonneg h1 (Int.le_of_lt hk); omega
  · intro h; exact Int.mul_neg_of_neg_of_pos h hk
theorem sg_scale (a b : Int) {k : Int} (hk : 0 < k) : sg (a * k) (b * k) = sg a b := by
  rcases Int.lt_trichotomy a b with h | h | h
  · rw [sg_lt h, sg_lt (Int.mul_lt_mul_of_pos_right h hk)]
  · rw [h, sg_eq, sg_eq]
  · rw [sg_gt h, sg_gt (Int.mul_lt_mul_of_pos_right h hk)]
theorem rd_scale (n d : Int) {k : Int} (hk : 0 < k) : rd (n * k) (d * k) = rd n d := by
  have ek : ab k = k := by unfold ab; omega
  unfold rd up
  have er : ab n * k % (ab d * k) = (ab n % ab d) * k := by rw [Int.mul_comm (ab n) k, Int.mul_comm (ab d) k, Int.mul_emod_mul_of_pos _ _ hk, Int.mul_comm]
  rw [ab_mul, ab_mul, ng_mul_pos n hk, ng_mul_pos d hk, ek, Int.mul_ediv_mul_of_pos_left _ _ hk, er, ← Int.mul_assoc, sg_scale _ _ hk]
theorem tw_neg (q : Int) : tw (-q) = -tw q ∧ te (-q) = te q := by
  cases g : wd q with
  | true =>
    have h := wd_bd g
    have k : wd (-q) = true := wd_mk (by omega)
    rw [tw_in g, tw_in k, te_in g, te_in k]
    exact ⟨rfl, rfl⟩
  | false =>
    have h := wd_no g
    have k : wd (-q) = false := by
      unfold wd; simp only [decide_eq_false_iff_not]; omega
    rw [tw_out g, tw_out k, te_out g, te_out k]
    exact ⟨rfl, rfl⟩
theorem tw_bd (q : Int) : -140737488355328 < tw q ∧ tw q < 140737488355328 := wd_bd (wd_tw q)
end Go.Proofs.Ytdbgooobbemklaa
namespace Go.Proofs.Ytdbgooobbemklaa
open Go.RowKit

theorem ediv_is {x D t r : Int} (hD : 0 < D) (h : x = t * D + r) (h0 : 0 ≤ r) (h1 : r < D) : x / D = t := by
  rw [h, Int.add_comm, Int.add_mul_ediv_right _ _ (by omega), Int.ediv_eq_zero_of_lt h0 h1, Int.zero_add]
theorem dn_ediv (x : Int) {D : Int} (hD : 0 < D) : dn x D = x / D := by
  have eD : ab D = D := by unfold ab; omega
  have nD : ng D = false := by unfold ng; exact decide_eq_false (by omega)
  have e := Int.mul_ediv_add_emod (ab x) D
  have r0 := Int.emod_nonneg (ab x) (show D ≠ 0 by omega)
  have r1 := Int.emod_lt_of_pos (ab x) hD
  unfold dn
  rw [eD, nD]
  rcases Int.lt_or_le x 0 with h | h
  · have nx : ng x = true := by unfold ng; exact decide_eq_true h
    have ax : ab x = -x := by unfold ab; omega
    rw [nx]
    generalize ab x / D = q at *
    generalize ab x % D = r at *
    by_cases hr : r = 0
    · subst hr
      simp [sd]
      refine (ediv_is hD (r := 0) ?_ (by omega) hD).symm
      rw [Int.neg_mul, Int.mul_comm q]
      omega
    · have hb : (r == 0) = false := by rw [beq_eq_false_iff_ne]; exact hr
      rw [hb]
      simp [sd]
      refine (ediv_is hD (r := D - r) ?_ (by omega) (by omega)).symm
      rw [Int.neg_mul, Int.add_mul, Int.mul_comm q]
      omega
  · have nx : ng x = false := by unfold ng; exact decide_eq_false (by omega)
    have ax : ab x = x := by unfold ab; omega
    rw [nx, ax]
    simp [sd]
theorem nr_of {p : Int} {q : Nat} {t r : Int} (_hq : q ≠ 0) (h : p * 2 ^ 1 = t * q + r) (h0 : 0 ≤ r) (h1 : r < q) : nr p q = if t % 2 = 0 then t / 2 else if r ≠ 0 then t / 2 + 1 else if t / 2 % 2 = 0 then t / 2 else t / 2 + 1 := by
  have e : t2 p q = t := by
    unfold t2
    rw [dn_ediv _ (by omega : (0 : Int) < q)]
    exact ediv_is (by omega) h h0 h1
  unfold nr
  rw [e, h]
  have e2 : t * (q : Int) + r - t * q = r := by omega
  rw [e2]
  have p1 : (2 : Int) ^ 1 = 2 := by decide
  rw [p1]
  have c1 : (t / 2 * 2 = t) = (t % 2 = 0) := by apply propext; omega
  have c2 : (t / 2 / 2 * 2 = t / 2) = (t / 2 % 2 = 0) := by apply propext; omega
  simp only [c1, c2]
theorem nr_rd (m : Int) {D : Nat} (hD : D ≠ 0) : nr m D = rd m D := by
  have eD : ab (D : Int) = D := by unfold ab; omega
  have nD : ng (D : Int) = false := by unfold ng; exact decide_eq_false (by omega)
  have U := up_cases m D
  have e := Int.mul_ediv_add_emod (ab m) (D : Int)
  have r0 := Int.emod_nonneg (ab m) (show (D : Int) ≠ 0 by omega)
  have r1 := Int.emod_lt_of_pos (ab m) (show (0 : Int) < D by omega)
  have q0 : 0 ≤ ab m / D := Int.ediv_nonneg (by unfold ab; omega) (by omega)
  rw [eD] at U
  unfold rd
  rw [eD, nD]
  have p1 : (2 : Int) ^ 1 = 2 := by decide
  rcases Int.lt_or_le m 0 with h | h
  · have nx : ng m = true := by unfold ng; exact decide_eq_true h
    have ax : ab m = -m := by unfold ab; omega
    rw [nx]
    generalize ab m / D = q at *
    generalize ab m % D = r at *
    have f : ∀ c : Int, (-(2 * q) - c) * (D : Int) = -(2 * (D * q)) - c * D := fun c => by
      rw [Int.sub_mul, Int.neg_mul, Int.mul_assoc, Int.mul_comm q]
    rcases (by omega : r = 0 ∨ (0 < r ∧ 2 * r < D) ∨ 2 * r = D ∨ (D : Int) < 2 * r) with c | c | c | c
    · rw [nr_of (t := -(2 * q) - 0) (r := 0) hD (by rw [f, p1]; omega) (by omega) (by omega)]
      rcases U with ⟨u, hu⟩ | ⟨u, hu⟩ <;> rw [u] <;> simp [sd] <;> omega
    · rw [nr_of (t := -(2 * q) - 1) (r := D - 2 * r) hD (by rw [f, p1]; omega) (by omega) (by omega)]
      rcases U with ⟨u, hu⟩ | ⟨u, hu⟩ <;> rw [u] <;> simp [sd] <;> omega
    · rw [nr_of (t := -(2 * q) - 1) (r := 0) hD (by rw [f, p1]; omega) (by omega) (by omega)]
      rcases U with ⟨u, hu⟩ | ⟨u, hu⟩ <;> rw [u] <;> simp [sd] <;> omega
    · rw [nr_of (t := -(2 * q) - 2) (r := 2 * D - 2 * r) hD (by rw [f, p1]; omega) (by omega) (by omega)]
      rcases U with ⟨u, hu⟩ | ⟨u, hu⟩ <;> rw [u] <;> simp [sd] <;> omega
  · have nx : ng m = false := by unfold ng; exact decide_eq_false (by omega)
    have ax : ab m = m := by unfold ab; omega
    rw [nx]
    generalize ab m / D = q at *
    generalize ab m % D = r at *
    have f : ∀ c : Int, (2 * q + c) * (D : Int) = 2 * (D * q) + c * D := fun c => by
      rw [Int.add_mul, Int.mul_assoc, Int.mul_comm q]
    rcases (by omega : 2 * r < D ∨ 2 * r = D ∨ (D : Int) < 2 * r) with c | c | c
    · rw [nr_of (t := 2 * q + 0) (r := 2 * r) hD (by rw [f, p1]; omega) (by omega) (by omega)]
      rcases U with ⟨u, hu⟩ | ⟨u, hu⟩ <;> rw [u] <;> simp [sd] <;> omega
    · rw [nr_of (t := 2 * q + 1) (r := 0) hD (by rw [f, p1]; omega) (by omega) (by omega)]
      rcases U with ⟨u, hu⟩ | ⟨u, hu⟩ <;> rw [u] <;> simp [sd] <;> omega
    · rw [nr_of (t := 2 * q + 1) (r := 2 * r - D) hD (by rw [f, p1]; omega) (by omega) (by omega)]
      rcases U with ⟨u, hu⟩ | ⟨u, hu⟩ <;> rw [u] <;> simp [sd] <;> omega
theorem rd_flip (n : Int) {d : Int} (h : d < 0) : rd (-n) (-d) = rd n d := by
  have ea : ab (-n) = ab n := by unfold ab; omega
  have eb : ab (-d) = ab d := by unfold ab; omega
  have ed : ng d = true := by unfold ng; exact decide_eq_true h
  have ed2 : ng (-d) = false := by unfold ng; exact decide_eq_false (by omega)
  by_cases hn : n = 0
  · subst hn
    have z : ab 0 = 0 := rfl
    have dp : 0 < ab d := by unfold ab; omega
    unfold rd up
    rw [ea, eb, z, Int.zero_ediv, Int.zero_emod, Int.mul_zero, sg_lt dp]
    cases (ng (-d)) <;> cases (ng d) <;> simp [sd]
  · have en : ng (-n) = !ng n := by unfold ng; by_cases k : n < 0 <;> simp [k] <;> omega
    unfold rd up
    rw [ea, eb, en, ed, ed2]
    cases (ng n) <;> simp
theorem lowest (m : Int) {D : Nat} (hD : D ≠ 0) : nr (m.tdiv (Nat.gcd m.natAbs D : Nat)) (D / Nat.gcd m.natAbs D) = rd m D ∧ D / Nat.gcd m.natAbs D ≠ 0 := by
  have gp := Nat.gcd_pos_of_pos_right m.natAbs (Nat.pos_of_ne_zero hD)
  have d1 := Nat.gcd_dvd_left m.natAbs D
  have d2 := Nat.gcd_dvd_right m.natAbs D
  generalize Nat.gcd m.natAbs D = g at *
  obtain ⟨k, hk⟩ := d2
  have kp : k ≠ 0 := fun e => hD (by rw [hk, e, Nat.mul_zero])
  have e2 : D / g = k := by rw [hk, Nat.mul_div_cancel_left _ gp]
  have e1 : m.tdiv (g : Int) * g = m := Int.tdiv_mul_cancel (Int.ofNat_dvd_left.2 d1)
  rw [e2]
  refine ⟨?_, kp⟩
  rw [nr_rd _ kp, ← rd_scale _ _ (show (0 : Int) < g by omega), e1]
  congr 1
  rw [hk, Int.natCast_mul, Int.mul_comm]
end Go.Proofs.Ytdbgooobbemklaa
namespace Go.Proofs.Ytdbgooobbemklaa
open Go.RowKit

theorem IsI.al3 {w : World} {x : Value} {z : Int} (h : IsI w x z) (o : Obj) : IsI (w.alloc o) x z := h.below ((Below.refl _ _).alloc (Nat.le_refl _) _)
set_option maxRecDepth 100000 in
set_option maxHeartbeats 8000000 in
/-- Rat -/
theorem refrat_any (x y : Value) (a b : Int) (w : World) (ha : IsI w x a) (hb : IsI w y b) (ga : a.natAbs < MID) (gb : b.natAbs < MID) (h0 : b ≠ 0) : Calls Try.prog 93 #[x, y] w (SomeR w ((if b < 0 then -a else a).tdiv (Nat.gcd (if b < 0 then -a else a).natAbs b.natAbs : Nat)) (b.natAbs / Nat.gcd (if b < 0 then -a else a).natAbs b.natAbs)) := by
  obtain ⟨ba, oa, la, ca, rfl, Ha⟩ := ha.open
  obtain ⟨bb, ob, lb, cb, rfl, Hb⟩ := hb.open
  have G : Hid (a.natAbs < MID ∧ (-a).natAbs < MID ∧ b.natAbs < MID ∧ b.natAbs ≠ 0) := ⟨ga, by rw [Int.natAbs_neg]; exact ga, gb, by omega⟩
  clear ga gb h0 ha hb
  cases bb with
  | false =>
    have zp : ¬ b < 0 := by have := Hb.out.1; simp at this; omega
    rw [if_neg zp]
    clear zp
    go_enter Try.func93, Try.ntmps93
    go_wp2_with (first | (go_at_call 41; (with_reducible refine (make_any _ _ a b.natAbs _ ((IsI.mk Ha.out.1 Ha.out.2.1).below (by repeat (first | exact Below.refl _ _ | assumption | apply Below.drew | refine Below.setCell ?_ (by first | omega | (simp; done) | (simp; omega)) _ | refine Below.alloc ?_ (by first | omega | (simp; done) | (simp; omega)) _))) (Hb.out.2.1.below (by repeat (first | exact Below.refl _ _ | assumption | apply Below.drew | refine Below.setCell ?_ (by first | omega | (simp; done) | (simp; omega)) _ | refine Below.alloc ?_ (by first | omega | (simp; done) | (simp; omega)) _))) G.out.1 G.out.2.2.1 G.out.2.2.2).mono ?_); rintro e w1 ⟨bv, o1, l1, c1, o2, l2, c2, rfl, hv, hb1⟩; have e10 : w1.cell? ⟨w.heap.size, 0, none⟩ = some (.bool ba) := cell_on hb1 (by first | (simp [go_sem, *]; done) | (simp [go_sem, World.cell?_alloc_some, *]; done) | fail); have e11 : w1.cell? ⟨w.heap.size, 1, none⟩ = some (Value.slice oa la ca) := cell_on hb1 (by first | (simp [go_sem, *]; done) | (simp [go_sem, World.cell?_alloc_some, *]; done) | fail); have e12 : w1.cell? ⟨w.heap.size + 1, 0, none⟩ = some (.bool false) := cell_on hb1 (by first | (simp [go_sem, *]; done) | (simp [go_sem, World.cell?_alloc_some, *]; done) | fail); have e13 : w1.cell? ⟨w.heap.size + 1, 1, none⟩ = some (Value.slice ob lb cb) := cell_on hb1 (by first | (simp [go_sem, *]; done) | (simp [go_sem, World.cell?_alloc_some, *]; done) | fail); have e14 : w1.cell? ⟨w.heap.size + 2, 0, none⟩ = some (.bool false) := cell_on hb1 (by first | (simp [go_sem, *]; done) | (simp [go_sem, World.cell?_alloc_some, *]; done) | fail); have e15 : w1.cell? ⟨w.heap.size + 2, 1, none⟩ = some (.slice none 0 0) := cell_on hb1 (by first | (simp [go_sem, *]; done) | (simp [go_sem, World.cell?_alloc_some, *]; done) | fail); have e16 : w1.cell? ⟨w.heap.size + 2, 2, none⟩ = some (.slice none 0 0) := cell_on hb1 (by first | (simp [go_sem, *]; done) | (simp [go_sem, World.cell?_alloc_some, *]; done) | fail); have s10 : w.heap.size < w1.heap.size := World.block_lt_of_cell? _ _ e10; have t10 : w.heap.size < w1.heap.size + 1 := Nat.lt_succ_of_lt s10; have s12 : w.heap.size + 1 < w1.heap.size := World.block_lt_of_cell? _ _ e12; have t12 : w.heap.size + 1 < w1.heap.size + 1 := Nat.lt_succ_of_lt s12; have s14 : w.heap.size + 2 < w1.heap.size := World.block_lt_of_cell? _ _ e14; have t14 : w.heap.size + 2 < w1.heap.size + 1 := Nat.lt_succ_of_lt s14; have y14 : w1.frozen? ⟨w.heap.size + 2, 0, none⟩ = false := frozen_on hb1 (v := .bool false) (by first | (simp [go_sem, *]; done) | (simp [go_sem, World.cell?_alloc_some, *]; done) | fail) (by first | (simp [go_sem, *]; done) | (simp [go_sem, frozen?_alloc_cells, *]; done) | fail); have y15 : w1.frozen? ⟨w.heap.size + 2, 1, none⟩ = false := frozen_on hb1 (v := .slice none 0 0) (by first | (simp [go_sem, *]; done) | (simp [go_sem, World.cell?_alloc_some, *]; done) | fail) (by first | (simp [go_sem, *]; done) | (simp [go_sem, frozen?_alloc_cells, *]; done) | fail); have y16 : w1.frozen? ⟨w.heap.size + 2, 2, none⟩ = false := frozen_on hb1 (v := .slice none 0 0) (by first | (simp [go_sem, *]; done) | (simp [go_sem, World.cell?_alloc_some, *]; done) | fail) (by first | (simp [go_sem, *]; done) | (simp [go_sem, frozen?_alloc_cells, *]; done) | fail); have q1 := hb1.size; (try simp at q1)) | fail)
    refine bodyPost_ret (v := .agg #[.bool bv, .slice o1 l1 c1, .slice o2 l2 c2]) (by simp [results, Try.results93, go_sem, *]) rfl ⟨bv, o1, l1, c1, o2, l2, c2, rfl, ⟨hv.out.1, IsN.store3 hv.out.2.1 e14 e15 e16, IsN.store3 hv.out.2.2 e14 e15 e16⟩, ?_⟩
    repeat (first | exact Below.refl _ _ | assumption | apply Below.drew | refine Below.setCell ?_ (by first | omega | (simp; done) | (simp; omega)) _ | refine Below.alloc ?_ (by first | omega | (simp; done) | (simp; omega)) _ | refine Below.trans ?_ (hb1.mono (by first | omega | (simp; done) | (simp; omega))))
  | true =>
    have zn : b < 0 := by have := Hb.out.1; simpa using this.symm
    rw [if_pos zn]
    clear zn
    go_enter Try.func93, Try.ntmps93
    go_wp2_with (first | (go_at_call 57; (with_reducible refine (ineg_any _ a _ ((IsI.mk Ha.out.1 Ha.out.2.1).below (by repeat (first | exact Below.refl _ _ | assumption | apply Below.drew | refine Below.setCell ?_ (by first | omega | (simp; done) | (simp; omega)) _ | refine Below.alloc ?_ (by first | omega | (simp; done) | (simp; omega)) _)))).mono ?_); rintro e w1 ⟨vn, rfl, hv, hb1⟩; have e10 : w1.cell? ⟨w.heap.size, 0, none⟩ = some (.bool ba) := cell_on hb1 (by first | (simp [go_sem, *]; done) | (simp [go_sem, World.cell?_alloc_some, *]; done) | fail); have e11 : w1.cell? ⟨w.heap.size, 1, none⟩ = some (Value.slice oa la ca) := cell_on hb1 (by first | (simp [go_sem, *]; done) | (simp [go_sem, World.cell?_alloc_some, *]; done) | fail); have e12 : w1.cell? ⟨w.heap.size + 1, 0, none⟩ = some (.bool true) := cell_on hb1 (by first | (simp [go_sem, *]; done) | (simp [go_sem, World.cell?_alloc_some, *]; done) | fail); have e13 : w1.cell? ⟨w.heap.size + 1, 1, none⟩ = some (Value.slice ob lb cb) := cell_on hb1 (by first | (simp [go_sem, *]; done) | (simp [go_sem, World.cell?_alloc_some, *]; done) | fail); have e14 : w1.cell? ⟨w.heap.size + 2, 0, none⟩ = some (.bool false) := cell_on hb1 (by first | (simp [go_sem, *]; done) | (simp [go_sem, World.cell?_alloc_some, *]; done) | fail); have e15 : w1.cell? ⟨w.heap.size + 2, 1, none⟩ = some (.slice none 0 0) := cell_on hb1 (by first | (simp [go_sem, *]; done) | (simp [go_sem, World.cell?_alloc_some, *]; done) | fail); have e16 : w1.cell? ⟨w.heap.size + 2, 2, none⟩ = some (.slice none 0 0) := cell_on hb1 (by first | (simp [go_sem, *]; done) | (simp [go_sem, World.cell?_alloc_some, *]; done) | fail); have s10 : w.heap.size < w1.heap.size := World.block_lt_of_cell? _ _ e10; have t10 : w.heap.size < w1.heap.size + 1 := Nat.lt_succ_of_lt s10; have s12 : w.heap.size + 1 < w1.heap.size := World.block_lt_of_cell? _ _ e12; have t12 : w.heap.size + 1 < w1.heap.size + 1 := Nat.lt_succ_of_lt s12; have s14 : w.heap.size + 2 < w1.heap.size := World.block_lt_of_cell? _ _ e14; have t14 : w.heap.size + 2 < w1.heap.size + 1 := Nat.lt_succ_of_lt s14; have y10 : w1.frozen? ⟨w.heap.size, 0, none⟩ = false := frozen_on hb1 (v := .bool ba) (by first | (simp [go_sem, *]; done) | (simp [go_sem, World.cell?_alloc_some, *]; done) | fail) (by first | (simp [go_sem, *]; done) | (simp [go_sem, frozen?_alloc_cells, *]; done) | fail); have y11 : w1.frozen? ⟨w.heap.size, 1, none⟩ = false := frozen_on hb1 (v := Value.slice oa la ca) (by first | (simp [go_sem, *]; done) | (simp [go_sem, World.cell?_alloc_some, *]; done) | fail) (by first | (simp [go_sem, *]; done) | (simp [go_sem, frozen?_alloc_cells, *]; done) | fail); have y14 : w1.frozen? ⟨w.heap.size + 2, 0, none⟩ = false := frozen_on hb1 (v := .bool false) (by first | (simp [go_sem, *]; done) | (simp [go_sem, World.cell?_alloc_some, *]; done) | fail) (by first | (simp [go_sem, *]; done) | (simp [go_sem, frozen?_alloc_cells, *]; done) | fail); have y15 : w1.frozen? ⟨w.heap.size + 2, 1, none⟩ = false := frozen_on hb1 (v := .slice none 0 0) (by first | (simp [go_sem, *]; done) | (simp [go_sem, World.cell?_alloc_some, *]; done) | fail) (by first | (simp [go_sem, *]; done) | (simp [go_sem, frozen?_alloc_cells, *]; done) | fail); have y16 : w1.frozen? ⟨w.heap.size + 2, 2, none⟩ = false := frozen_on hb1 (v := .slice none 0 0) (by first | (simp [go_sem, *]; done) | (simp [go_sem, World.cell?_alloc_some, *]; done) | fail) (by first | (simp [go_sem, *]; done) | (simp [go_sem, frozen?_alloc_cells, *]; done) | fail); have q1 := hb1.size; (try simp at q1); obtain ⟨bn, on, ln, cn, rfl, Hn⟩ := hv.open; clear hv) | (go_at_call 41; (with_reducible refine (make_any _ _ (-a) b.natAbs _ (IsI.put (v0 := .bool ba) (v1 := .slice oa la ca) (IsI.mk Hn.out.1 Hn.out.2.1) e10 (by simp) e11 (by simp)) (Hb.out.2.1.below (by repeat (first | exact Below.refl _ _ | assumption | apply Below.drew | refine Below.setCell ?_ (by first | omega | (simp; done) | (simp; omega)) _ | refine Below.alloc ?_ (by first | omega | (simp; done) | (simp; omega)) _ | refine Below.trans ?_ (hb1.mono (by first | omega | (simp; done) | (simp; omega)))))) G.out.2.1 G.out.2.2.1 G.out.2.2.2).mono ?_); rintro e w2 ⟨bv, o1, l1, c1, o2, l2, c2, rfl, hv, hb2⟩; have e20 : w2.cell? ⟨w.heap.size + 2, 0, none⟩ = some (.bool false) := cell_on hb2 (by first | (simp [go_sem, *]; done) | (simp [go_sem, World.cell?_alloc_some, *]; done) | fail); have e21 : w2.cell? ⟨w.heap.size + 2, 1, none⟩ = some (.slice none 0 0) := cell_on hb2 (by first | (simp [go_sem, *]; done) | (simp [go_sem, World.cell?_alloc_some, *]; done) | fail); have e22 : w2.cell? ⟨w.heap.size + 2, 2, none⟩ = some (.slice none 0 0) := cell_on hb2 (by first | (simp [go_sem, *]; done) | (simp [go_sem, World.cell?_alloc_some, *]; done) | fail); have s20 : w.heap.size + 2 < w2.heap.size := World.block_lt_of_cell? _ _ e20; have t20 : w.heap.size + 2 < w2.heap.size + 1 := Nat.lt_succ_of_lt s20; have y20 : w2.frozen? ⟨w.heap.size + 2, 0, none⟩ = false := frozen_on hb2 (v := .bool false) (by first | (simp [go_sem, *]; done) | (simp [go_sem, World.cell?_alloc_some, *]; done) | fail) (by first | (simp [go_sem, *]; done) | (simp [go_sem, frozen?_alloc_cells, *]; done) | fail); have y21 : w2.frozen? ⟨w.heap.size + 2, 1, none⟩ = false := frozen_on hb2 (v := .slice none 0 0) (by first | (simp [go_sem, *]; done) | (simp [go_sem, World.cell?_alloc_some, *]; done) | fail) (by first | (simp [go_sem, *]; done) | (simp [go_sem, frozen?_alloc_cells, *]; done) | fail); have y22 : w2.frozen? ⟨w.heap.size + 2, 2, none⟩ = false := frozen_on hb2 (v := .slice none 0 0) (by first | (simp [go_sem, *]; done) | (simp [go_sem, World.cell?_alloc_some, *]; done) | fail) (by first | (simp [go_sem, *]; done) | (simp [go_sem, frozen?_alloc_cells, *]; done) | fail); have q2 := hb2.size; (try simp at q2)) | fail)
    refine bodyPost_ret (v := .agg #[.bool bv, .slice o1 l1 c1, .slice o2 l2 c2]) (by simp [results, Try.results93, go_sem, *]) rfl ⟨bv, o1, l1, c1, o2, l2, c2, rfl, ⟨hv.out.1, IsN.store3 hv.out.2.1 e20 e21 e22, IsN.store3 hv.out.2.2 e20 e21 e22⟩, ?_⟩
    repeat (first | exact Below.refl _ _ | assumption | apply Below.drew | refine Below.setCell ?_ (by first | omega | (simp; done) | (simp; omega)) _ | refine Below.alloc ?_ (by first | omega | (simp; done) | (simp; omega)) _ | refine Below.trans ?_ (hb2.mono (by first | omega | (simp; done) | (simp; omega))) | refine Below.trans ?_ (hb1.mono (by first | omega | (simp; done) | (simp; omega))))

theorem near_is (a : Int) {b : Int} (h0 : b ≠ 0) : nr ((if b < 0 then -a else a).tdiv (Nat.gcd (if b < 0 then -a else a).natAbs b.natAbs : Nat)) (b.natAbs / Nat.gcd (if b < 0 then -a else a).natAbs b.natAbs) = rd a b ∧ b.natAbs / Nat.gcd (if b < 0 then -a else a).natAbs b.natAbs ≠ 0 := by
  obtain ⟨h1, h2⟩ := lowest (if b < 0 then -a else a) (D := b.natAbs) (by omega)
  refine ⟨h1.trans ?_, h2⟩
  by_cases h : b < 0
  · rw [if_pos h]
    have e : ((b.natAbs : Nat) : Int) = -b := by omega
    rw [e]
    exact rd_flip a h
  · rw [if_neg h]
    have e : ((b.natAbs : Nat) : Int) = b := by omega
    rw [e]
theorem near_low {a b : Int} (ga : a.natAbs < LOW) (gb : b.natAbs < LOW) : ((if b < 0 then -a else a).tdiv (Nat.gcd (if b < 0 then -a else a).natAbs b.natAbs : Nat)).natAbs < LOW ∧ b.natAbs / Nat.gcd (if b < 0 then -a else a).natAbs b.natAbs < LOW := by
  refine ⟨?_, Nat.lt_of_le_of_lt (Nat.div_le_self _ _) gb⟩
  have e : (if b < 0 then -a else a).natAbs = a.natAbs := by split <;> simp
  refine Nat.lt_of_le_of_lt ?_ ga
  rw [Int.natAbs_tdiv, e]
  exact Nat.div_le_self _ _
end Go.Proofs.Ytdbgooobbemklaa
