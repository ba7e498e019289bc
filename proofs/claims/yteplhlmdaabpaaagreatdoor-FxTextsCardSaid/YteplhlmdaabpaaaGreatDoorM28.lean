/-
  The document's own answer for package fx: sums, products, quotients, closings, told as words.
  The reference's reading of a text that is a word's.
  A word's text is read as the word.
-/
import Derived.Test.YteplhlmdaabpaaaGreatDoorM06
import Derived.Test.YteplhlmdaabpaaaGreatDoorM07
import Derived.Test.YteplhlmdaabpaaaGreatDoorM20
import Derived.Test.YteplhlmdaabpaaaGreatDoorM24
import Derived.Test.YteplhlmdaabpaaaGreatDoorM27
namespace Go.Proofs.YteplhlmdaabpaaaGreatDoor
open Go.RowKit

set_option maxRecDepth 100000 in
set_option maxHeartbeats 8000000 in
theorem r2word_any (x : Value) (z : Int) (w : World) (h : IsI w x z) : Calls Tryz.prog 52 #[x] w fun e w' => e = .returned (.tuple #[.int .i64 (tw z), .int .i64 (te z)]) ∧ Below w.heap.size w w' := by
  obtain ⟨bn, on, ln, cn, rfl, Hn⟩ := h.open
  clear h
  have SC := Lib.hid (fun (W : World) (h : IsI W (Iv bn (.slice on ln cn)) z) => ismall_any _ z W h)
  cases g : isS z with
  | false =>
    have gw : wd z = false := by
      have := isS_no g
      unfold wd; simp only [decide_eq_false_iff_not]; omega
    have H := Lib.hid (And.intro (tw_out gw) (te_out gw))
    have SC := fun (W : World) (h : IsI W (Iv bn (.slice on ln cn)) z) => SC.out W h
    rw [g] at SC
    have SC := Lib.hid SC
    clear g gw
    go_enter Tryz.func52, Tryz.ntmps52
    go_wp2_with (go_at_call 71; (with_reducible refine (SC.out _ ((IsI.mk Hn.out.1 Hn.out.2.1).below (by repeat (first | exact Below.refl _ _ | assumption | apply Below.drew | refine Below.setCell ?_ (by first | omega | (simp; done) | (simp; omega)) _ | refine Below.alloc ?_ (by first | omega | (simp; done) | (simp; omega)) _)))).mono ?_); rintro e w1 ⟨rfl, hb1⟩; have e10 : w1.cell? ⟨w.heap.size, 0, none⟩ = some (.bool bn) := cell_on hb1 (by first | (simp [go_sem, *]; done) | (simp [go_sem, World.cell?_alloc_some, *]; done) | fail); have e11 : w1.cell? ⟨w.heap.size, 1, none⟩ = some (Value.slice on ln cn) := cell_on hb1 (by first | (simp [go_sem, *]; done) | (simp [go_sem, World.cell?_alloc_some, *]; done) | fail); have s10 : w.heap.size < w1.heap.size := World.block_lt_of_cell? _ _ e10; have t10 : w.heap.size < w1.heap.size + 1 := Nat.lt_succ_of_lt s10; have q1 := hb1.size; (try simp at q1))
    go_ret2
    refine ⟨by rw [H.out.1, H.out.2] <;> rfl, ?_⟩
    repeat (first | exact Below.refl _ _ | assumption | apply Below.drew | refine Below.setCell ?_ (by first | omega | (simp; done) | (simp; omega)) _ | refine Below.alloc ?_ (by first | omega | (simp; done) | (simp; omega)) _ | refine Below.trans ?_ (hb1.mono (by first | omega | (simp; done) | (simp; omega))))
  | true =>
    have SC := fun (W : World) (h : IsI W (Iv bn (.slice on ln cn)) z) => SC.out W h
    rw [g, show sm z = z from if_pos g] at SC
    have SC := Lib.hid SC
    have MC := fun W : World => may_any z W
    cases gw : wd z with
    | true =>
      have H := Lib.hid (And.intro (tw_in gw) (te_in gw))
      rw [gw] at MC
      have MC := Lib.hid MC
      clear g gw
      go_enter Tryz.func52, Tryz.ntmps52
      go_wp2_with (first | (go_at_call 71; (with_reducible refine (SC.out _ ((IsI.mk Hn.out.1 Hn.out.2.1).below (by repeat (first | exact Below.refl _ _ | assumption | apply Below.drew | refine Below.setCell ?_ (by first | omega | (simp; done) | (simp; omega)) _ | refine Below.alloc ?_ (by first | omega | (simp; done) | (simp; omega)) _)))).mono ?_); rintro e w1 ⟨rfl, hb1⟩; have e10 : w1.cell? ⟨w.heap.size, 0, none⟩ = some (.bool bn) := cell_on hb1 (by first | (simp [go_sem, *]; done) | (simp [go_sem, World.cell?_alloc_some, *]; done) | fail); have e11 : w1.cell? ⟨w.heap.size, 1, none⟩ = some (Value.slice on ln cn) := cell_on hb1 (by first | (simp [go_sem, *]; done) | (simp [go_sem, World.cell?_alloc_some, *]; done) | fail); have s10 : w.heap.size < w1.heap.size := World.block_lt_of_cell? _ _ e10; have t10 : w.heap.size < w1.heap.size + 1 := Nat.lt_succ_of_lt s10; have q1 := hb1.size; (try simp at q1)) | (go_at_call 6; (with_reducible refine (MC.out _).mono ?_); rintro e w' ⟨rfl, rfl⟩))
      go_ret2
      refine ⟨by rw [H.out.1, H.out.2] <;> rfl, ?_⟩
      repeat (first | exact Below.refl _ _ | assumption | apply Below.drew | refine Below.setCell ?_ (by first | omega | (simp; done) | (simp; omega)) _ | refine Below.alloc ?_ (by first | omega | (simp; done) | (simp; omega)) _ | refine Below.trans ?_ (hb1.mono (by first | omega | (simp; done) | (simp; omega))))
    | false =>
      have H := Lib.hid (And.intro (tw_out gw) (te_out gw))
      rw [gw] at MC
      have MC := Lib.hid MC
      clear g gw
      go_enter Tryz.func52, Tryz.ntmps52
      go_wp2_with (first | (go_at_call 71; (with_reducible refine (SC.out _ ((IsI.mk Hn.out.1 Hn.out.2.1).below (by repeat (first | exact Below.refl _ _ | assumption | apply Below.drew | refine Below.setCell ?_ (by first | omega | (simp; done) | (simp; omega)) _ | refine Below.alloc ?_ (by first | omega | (simp; done) | (simp; omega)) _)))).mono ?_); rintro e w1 ⟨rfl, hb1⟩; have e10 : w1.cell? ⟨w.heap.size, 0, none⟩ = some (.bool bn) := cell_on hb1 (by first | (simp [go_sem, *]; done) | (simp [go_sem, World.cell?_alloc_some, *]; done) | fail); have e11 : w1.cell? ⟨w.heap.size, 1, none⟩ = some (Value.slice on ln cn) := cell_on hb1 (by first | (simp [go_sem, *]; done) | (simp [go_sem, World.cell?_alloc_some, *]; done) | fail); have s10 : w.heap.size < w1.heap.size := World.block_lt_of_cell? _ _ e10; have t10 : w.heap.size < w1.heap.size + 1 := Nat.lt_succ_of_lt s10; have q1 := hb1.size; (try simp at q1)) | (go_at_call 6; (with_reducible refine (MC.out _).mono ?_); rintro e w' ⟨rfl, rfl⟩))
      go_ret2
      refine ⟨by rw [H.out.1, H.out.2] <;> rfl, ?_⟩
      repeat (first | exact Below.refl _ _ | assumption | apply Below.drew | refine Below.setCell ?_ (by first | omega | (simp; done) | (simp; omega)) _ | refine Below.alloc ?_ (by first | omega | (simp; done) | (simp; omega)) _ | refine Below.trans ?_ (hb1.mono (by first | omega | (simp; done) | (simp; omega))))
set_option maxRecDepth 100000 in
set_option maxHeartbeats 8000000 in
theorem r2near_any (bv : Bool) (o1 o2 : Option Addr) (l1 c1 l2 c2 : Nat) (p : Int) (q : Nat) (z : Int) (w : World) (h : bv = decide (p < 0) ∧ IsN w (.slice o1 l1 c1) p.natAbs ∧ IsN w (.slice o2 l2 c2) q) (gp : p.natAbs < LOW) (gq : q < LOW) (hq : q ≠ 0) (hz : nr p q = z) : Calls Tryz.prog 31 #[Rv bv (.slice o1 l1 c1) (.slice o2 l2 c2)] w fun e w' => e = .returned (.tuple #[.int .i64 (tw z), .int .i64 (te z)]) ∧ Below w.heap.size w w' := by
  subst hz
  have hv := Lib.hid h
  have G := Lib.hid (And.intro gp (And.intro gq hq))
  clear h gp gq hq
  generalize hm : nr p q = z at *
  have NC : Hid (∀ W : World, IsN W (.slice o1 l1 c1) p.natAbs → IsN W (.slice o2 l2 c2) q → Calls Tryz.prog 53 #[Rv bv (.slice o1 l1 c1) (.slice o2 l2 c2)] W (SomeI W z)) := fun W h1 h2 => by rw [← hm]; exact near_rat bv o1 o2 l1 c1 l2 c2 p q W hv.out.1 h1 h2 G.out.1 G.out.2.1 G.out.2.2
  clear hm
  go_enter Tryz.func31, Tryz.ntmps31
  go_wp2_with (first | (go_at_call 53; (with_reducible refine (NC.out _ (hv.out.2.1.below (by repeat (first | exact Below.refl _ _ | assumption | apply Below.drew | refine Below.setCell ?_ (by first | omega | (simp; done) | (simp; omega)) _ | refine Below.alloc ?_ (by first | omega | (simp; done) | (simp; omega)) _))) (hv.out.2.2.below (by repeat (first | exact Below.refl _ _ | assumption | apply Below.drew | refine Below.setCell ?_ (by first | omega | (simp; done) | (simp; omega)) _ | refine Below.alloc ?_ (by first | omega | (simp; done) | (simp; omega)) _)))).mono ?_); rintro e w1 ⟨vn, rfl, hv, hb1⟩; have q1 := hb1.size; (try simp at q1); obtain ⟨bn, on, ln, cn, rfl, Hn⟩ := hv.open; clear hv) | (go_at_call 52; (with_reducible refine (r2word_any _ z _ ((IsI.mk Hn.out.1 Hn.out.2.1).below (by repeat (first | exact Below.refl _ _ | assumption | apply Below.drew | refine Below.setCell ?_ (by first | omega | (simp; done) | (simp; omega)) _ | refine Below.alloc ?_ (by first | omega | (simp; done) | (simp; omega)) _)))).mono ?_); rintro e w2 ⟨rfl, hb2⟩; have q2 := hb2.size; (try simp at q2)))
  go_ret2
  refine ⟨rfl, ?_⟩
  repeat (first | exact Below.refl _ _ | assumption | apply Below.drew | refine Below.setCell ?_ (by first | omega | (simp; done) | (simp; omega)) _ | refine Below.alloc ?_ (by first | omega | (simp; done) | (simp; omega)) _ | refine Below.trans ?_ (hb2.mono (by first | omega | (simp; done) | (simp; omega))) | refine Below.trans ?_ (hb1.mono (by first | omega | (simp; done) | (simp; omega))))
theorem low_tdiv {m : Int} {D : Nat} (gm : m.natAbs < LOW) (gD : D < LOW) : (m.tdiv (Nat.gcd m.natAbs D : Nat)).natAbs < LOW ∧ D / Nat.gcd m.natAbs D < LOW := by
  refine ⟨?_, Nat.lt_of_le_of_lt (Nat.div_le_self _ _) gD⟩
  rw [Int.natAbs_tdiv]
  exact Nat.lt_of_le_of_lt (Nat.div_le_self _ _) gm
/-- A quotient by a power of 2. -/
theorem pow_quo (m : Int) (f : Nat) (gm : m.natAbs < LOW) (hf : f ≤ 126) : ∃ (p : Int) (q : Nat), p = m.tdiv (Nat.gcd m.natAbs (1 * 2 ^ f) : Nat) ∧ q = (1 * 2 ^ f) / Nat.gcd m.natAbs (1 * 2 ^ f) ∧ nr p q = rd m (2 ^ f) ∧ q ≠ 0 ∧ p.natAbs < LOW ∧ q < LOW ∧ m.natAbs < MID ∧ 1 * 2 ^ f < MID ∧ 1 * 2 ^ f ≠ 0 := by
  have h0 : 1 * 2 ^ f ≠ 0 := by have := Nat.two_pow_pos f; omega
  have gD : 1 * 2 ^ f < LOW := low_of (k := 127) (by rw [Nat.one_mul]; exact Nat.pow_lt_pow_right (by decide) (by omega)) (by decide)
  obtain ⟨h1, h2⟩ := lowest m h0
  have e : ((1 * 2 ^ f : Nat) : Int) = 2 ^ f := by rw [Nat.one_mul]; simp
  rw [e] at h1
  exact ⟨_, _, rfl, rfl, h1, h2, (low_tdiv gm gD).1, (low_tdiv gm gD).2, (low_big gm).2.2.2.1, (low_big gD).2.2.2.1, h0⟩
set_option maxRecDepth 100000 in
set_option maxHeartbeats 8000000 in
theorem r2over_any (x y : Value) (a b p : Int) (q : Nat) (f : Nat) (w : World) (ha : IsI w x a) (hb : IsI w y b) (ga : a.natAbs < BIG) (hf : f ≤ 32) (RC : ∀ (W : World) (x y : Value), IsI W x (a * 2 ^ f) → IsI W y b → Calls Tryz.prog 54 #[x, y] W (SomeR W p q)) : Calls Tryz.prog 32 #[x, y, .int .i64 f] w (SomeR w p q) := by
  obtain ⟨bn, on, ln, cn, rfl, Hn⟩ := ha.open
  obtain ⟨bd, od, ld, cd, rfl, Hd⟩ := hb.open
  have RC := Lib.hid RC
  have LC := Lib.hid (fun W v h => ileft_any v a f W h ga (by omega))
  clear ha hb ga hf
  generalize a * 2 ^ f = m at *
  go_enter Tryz.func32, Tryz.ntmps32
  go_wp2
  go_region_held3 (fun w' => w'.cell? ⟨w.heap.size, 0, none⟩ = some (.bool bn) ∧ w'.cell? ⟨w.heap.size, 1, none⟩ = some (Value.slice on ln cn) ∧ w'.cell? ⟨w.heap.size + 1, 0, none⟩ = some (.bool bd) ∧ w'.cell? ⟨w.heap.size + 1, 1, none⟩ = some (Value.slice od ld cd)) (first | (simp [go_sem, *]; done) | (simp [go_sem, World.cell?_alloc_some, *]; done)) (first | (go_at_call 24; (with_reducible refine (LC.out _ _ ((IsI.mk Hn.out.1 Hn.out.2.1).below (by repeat (first | exact Below.refl _ _ | assumption | apply Below.drew | refine Below.setCell ?_ (by first | omega | (simp; done) | (simp; omega)) _ | refine Below.alloc ?_ (by first | omega | (simp; done) | (simp; omega)) _)))).mono ?_); rintro e w1 ⟨vl, rfl, hv, hb1⟩; have e10 : w1.cell? ⟨w.heap.size, 0, none⟩ = some (.bool bn) := cell_on hb1 (by first | (simp [go_sem, *]; done) | (simp [go_sem, World.cell?_alloc_some, *]; done) | fail); have e11 : w1.cell? ⟨w.heap.size, 1, none⟩ = some (Value.slice on ln cn) := cell_on hb1 (by first | (simp [go_sem, *]; done) | (simp [go_sem, World.cell?_alloc_some, *]; done) | fail); have e12 : w1.cell? ⟨w.heap.size + 1, 0, none⟩ = some (.bool bd) := cell_on hb1 (by first | (simp [go_sem, *]; done) | (simp [go_sem, World.cell?_alloc_some, *]; done) | fail); have e13 : w1.cell? ⟨w.heap.size + 1, 1, none⟩ = some (Value.slice od ld cd) := cell_on hb1 (by first | (simp [go_sem, *]; done) | (simp [go_sem, World.cell?_alloc_some, *]; done) | fail); have e14 : w1.cell? ⟨w.heap.size + 1 + 1, 0, none⟩ = some (.bool false) := cell_on hb1 (by first | (simp [go_sem, *]; done) | (simp [go_sem, World.cell?_alloc_some, *]; done) | fail); have e15 : w1.cell? ⟨w.heap.size + 1 + 1, 1, none⟩ = some (.slice none 0 0) := cell_on hb1 (by first | (simp [go_sem, *]; done) | (simp [go_sem, World.cell?_alloc_some, *]; done) | fail); have e16 : w1.cell? ⟨w.heap.size + 1 + 1, 2, none⟩ = some (.slice none 0 0) := cell_on hb1 (by first | (simp [go_sem, *]; done) | (simp [go_sem, World.cell?_alloc_some, *]; done) | fail); have s10 : w.heap.size < w1.heap.size := World.block_lt_of_cell? _ _ e10; have t10 : w.heap.size < w1.heap.size + 1 := Nat.lt_succ_of_lt s10; have s12 : w.heap.size + 1 < w1.heap.size := World.block_lt_of_cell? _ _ e12; have t12 : w.heap.size + 1 < w1.heap.size + 1 := Nat.lt_succ_of_lt s12; have s14 : w.heap.size + 1 + 1 < w1.heap.size := World.block_lt_of_cell? _ _ e14; have t14 : w.heap.size + 1 + 1 < w1.heap.size + 1 := Nat.lt_succ_of_lt s14; have y14 : w1.frozen? ⟨w.heap.size + 1 + 1, 0, none⟩ = false := frozen_on hb1 (v := .bool false) (by first | (simp [go_sem, *]; done) | (simp [go_sem, World.cell?_alloc_some, *]; done) | fail) (by first | (simp [go_sem, *]; done) | (simp [go_sem, frozen?_alloc_cells, *]; done) | fail); have y15 : w1.frozen? ⟨w.heap.size + 1 + 1, 1, none⟩ = false := frozen_on hb1 (v := .slice none 0 0) (by first | (simp [go_sem, *]; done) | (simp [go_sem, World.cell?_alloc_some, *]; done) | fail) (by first | (simp [go_sem, *]; done) | (simp [go_sem, frozen?_alloc_cells, *]; done) | fail); have y16 : w1.frozen? ⟨w.heap.size + 1 + 1, 2, none⟩ = false := frozen_on hb1 (v := .slice none 0 0) (by first | (simp [go_sem, *]; done) | (simp [go_sem, World.cell?_alloc_some, *]; done) | fail) (by first | (simp [go_sem, *]; done) | (simp [go_sem, frozen?_alloc_cells, *]; done) | fail); have q1 := hb1.size; (try simp at q1); obtain ⟨bl, ol, ll, cl, rfl, Hl⟩ := hv.open; clear hv) | (go_at_call 54; (with_reducible refine (RC.out _ _ _ ((IsI.mk Hl.out.1 Hl.out.2.1).below (by repeat (first | exact Below.refl _ _ | assumption | apply Below.drew | refine Below.setCell ?_ (by first | omega | (simp; done) | (simp; omega)) _ | refine Below.alloc ?_ (by first | omega | (simp; done) | (simp; omega)) _))) ((IsI.mk Hd.out.1 Hd.out.2.1).below (by repeat (first | exact Below.refl _ _ | assumption | apply Below.drew | refine Below.setCell ?_ (by first | omega | (simp; done) | (simp; omega)) _ | refine Below.alloc ?_ (by first | omega | (simp; done) | (simp; omega)) _ | refine Below.trans ?_ (hb1.mono (by first | omega | (simp; done) | (simp; omega))))))).mono ?_); rintro e w2 ⟨bv, o1, l1, c1, o2, l2, c2, rfl, hv, hb2⟩; have e20 : w2.cell? ⟨w.heap.size, 0, none⟩ = some (.bool bn) := cell_on hb2 (by first | (simp [go_sem, *]; done) | (simp [go_sem, World.cell?_alloc_some, *]; done) | fail); have e21 : w2.cell? ⟨w.heap.size, 1, none⟩ = some (Value.slice on ln cn) := cell_on hb2 (by first | (simp [go_sem, *]; done) | (simp [go_sem, World.cell?_alloc_some, *]; done) | fail); have e22 : w2.cell? ⟨w.heap.size + 1, 0, none⟩ = some (.bool bd) := cell_on hb2 (by first | (simp [go_sem, *]; done) | (simp [go_sem, World.cell?_alloc_some, *]; done) | fail); have e23 : w2.cell? ⟨w.heap.size + 1, 1, none⟩ = some (Value.slice od ld cd) := cell_on hb2 (by first | (simp [go_sem, *]; done) | (simp [go_sem, World.cell?_alloc_some, *]; done) | fail); have e24 : w2.cell? ⟨w.heap.size + 1 + 1, 0, none⟩ = some (.bool false) := cell_on hb2 (by first | (simp [go_sem, *]; done) | (simp [go_sem, World.cell?_alloc_some, *]; done) | fail); have e25 : w2.cell? ⟨w.heap.size + 1 + 1, 1, none⟩ = some (.slice none 0 0) := cell_on hb2 (by first | (simp [go_sem, *]; done) | (simp [go_sem, World.cell?_alloc_some, *]; done) | fail); have e26 : w2.cell? ⟨w.heap.size + 1 + 1, 2, none⟩ = some (.slice none 0 0) := cell_on hb2 (by first | (simp [go_sem, *]; done) | (simp [go_sem, World.cell?_alloc_some, *]; done) | fail); have s20 : w.heap.size < w2.heap.size := World.block_lt_of_cell? _ _ e20; have t20 : w.heap.size < w2.heap.size + 1 := Nat.lt_succ_of_lt s20; have s22 : w.heap.size + 1 < w2.heap.size := World.block_lt_of_cell? _ _ e22; have t22 : w.heap.size + 1 < w2.heap.size + 1 := Nat.lt_succ_of_lt s22; have s24 : w.heap.size + 1 + 1 < w2.heap.size := World.block_lt_of_cell? _ _ e24; have t24 : w.heap.size + 1 + 1 < w2.heap.size + 1 := Nat.lt_succ_of_lt s24; have y24 : w2.frozen? ⟨w.heap.size + 1 + 1, 0, none⟩ = false := frozen_on hb2 (v := .bool false) (by first | (simp [go_sem, *]; done) | (simp [go_sem, World.cell?_alloc_some, *]; done) | fail) (by first | (simp [go_sem, *]; done) | (simp [go_sem, frozen?_alloc_cells, *]; done) | fail); have y25 : w2.frozen? ⟨w.heap.size + 1 + 1, 1, none⟩ = false := frozen_on hb2 (v := .slice none 0 0) (by first | (simp [go_sem, *]; done) | (simp [go_sem, World.cell?_alloc_some, *]; done) | fail) (by first | (simp [go_sem, *]; done) | (simp [go_sem, frozen?_alloc_cells, *]; done) | fail); have y26 : w2.frozen? ⟨w.heap.size + 1 + 1, 2, none⟩ = false := frozen_on hb2 (v := .slice none 0 0) (by first | (simp [go_sem, *]; done) | (simp [go_sem, World.cell?_alloc_some, *]; done) | fail) (by first | (simp [go_sem, *]; done) | (simp [go_sem, frozen?_alloc_cells, *]; done) | fail); have q2 := hb2.size; (try simp at q2)))
  all_goals
    go_wp2_with fail
    refine bodyPost_ret (v := .agg #[.bool bv, .slice o1 l1 c1, .slice o2 l2 c2]) (by simp [results, Tryz.results32, go_sem, *]) rfl ⟨bv, o1, l1, c1, o2, l2, c2, rfl, ⟨hv.out.1, IsN.store3 hv.out.2.1 e24 e25 e26, IsN.store3 hv.out.2.2 e24 e25 e26⟩, ?_⟩
    repeat (first | exact Below.refl _ _ | assumption | apply Below.drew | refine Below.setCell ?_ (by first | omega | (simp; done) | (simp; omega)) _ | refine Below.alloc ?_ (by first | omega | (simp; done) | (simp; omega)) _ | refine Below.trans ?_ (hb2.mono (by first | omega | (simp; done) | (simp; omega))) | refine Below.trans ?_ (hb1.mono (by first | omega | (simp; done) | (simp; omega))))
theorem p8_on {W W' : World} {B : Nat} {p : Fl} (hb : Below W.heap.size W W') (h : W.cell? ⟨B, 0, none⟩ = some (.int .i64 p.a) ∧ W.cell? ⟨B, 1, none⟩ = some (.int .i64 p.b) ∧ W.cell? ⟨B, 2, none⟩ = some (.int .i64 p.f) ∧ W.cell? ⟨B, 3, none⟩ = some (.int .i64 p.n) ∧ W.cell? ⟨B, 4, none⟩ = some (.int .i64 p.d) ∧ W.cell? ⟨B, 5, none⟩ = some (.int .i64 (hi p.v)) ∧ W.cell? ⟨B, 6, none⟩ = some (.int .u64 (lo p.v)) ∧ W.cell? ⟨B, 7, none⟩ = some (.int .i64 p.k)) : W'.cell? ⟨B, 0, none⟩ = some (.int .i64 p.a) ∧ W'.cell? ⟨B, 1, none⟩ = some (.int .i64 p.b) ∧ W'.cell? ⟨B, 2, none⟩ = some (.int .i64 p.f) ∧ W'.cell? ⟨B, 3, none⟩ = some (.int .i64 p.n) ∧ W'.cell? ⟨B, 4, none⟩ = some (.int .i64 p.d) ∧ W'.cell? ⟨B, 5, none⟩ = some (.int .i64 (hi p.v)) ∧ W'.cell? ⟨B, 6, none⟩ = some (.int .u64 (lo p.v)) ∧ W'.cell? ⟨B, 7, none⟩ = some (.int .i64 p.k) :=
  ⟨cell_on hb h.1, cell_on hb h.2.1, cell_on hb h.2.2.1, cell_on hb h.2.2.2.1, cell_on hb h.2.2.2.2.1, cell_on hb h.2.2.2.2.2.1, cell_on hb h.2.2.2.2.2.2.1, cell_on hb h.2.2.2.2.2.2.2⟩
theorem is2_any (v g : Int) (w : World) : Calls Tryz.prog 11 #[.int .i64 v, .int .i64 g, .int .i64 v, .int .i64 g] w fun e w' => e = .returned (.bool true) ∧ w = w' := by
  go_enter Tryz.func11, Tryz.ntmps11
  go_wp2_with (go_at_call 7; (with_reducible refine (num2_any _ _).mono ?_); rintro e w' ⟨rfl, rfl⟩)
  go_ret
  exact ⟨rfl, rfl⟩
end Go.Proofs.YteplhlmdaabpaaaGreatDoor
namespace Go.Proofs.YteplhlmdaabpaaaGreatDoor
open Go.RowKit

theorem nv_big {r : List UInt8} (h : ∀ x ∈ r, x = 46 ∨ isD8 x = true) (hl : r.length ≤ 64) (j : Nat) : ((nv r j : Nat) : Int).natAbs < BIG ∧ ((10 : Int)).natAbs < BIG ∧ ((nv r j : Int) * 10).natAbs < BIG := by
  have := nv_lt h hl j
  have e : (10 : Nat) ^ 64 < 2 ^ 250 := by decide
  refine ⟨big_of (k := 256) (by omega) (by decide), big_of (k := 4) (by decide) (by decide), big_of (k := 256) ?_ (by decide)⟩
  rw [Int.natAbs_mul]
  have e2 : (10 : Int).natAbs = 10 := rfl
  rw [e2]
  have e3 : (2 : Nat) ^ 256 = 64 * 2 ^ 250 := by decide
  omega
theorem rp_byte {s : ByteArray} {r : List UInt8} {n j : Nat} (hr : s.data.toList.drop n = r) (hd : ∀ x ∈ r, x = 46 ∨ isD8 x = true) (h : j < r.length) : ∃ x : UInt8, (∃ hi : n + j < s.size, s[n + j] = x) ∧ ((x = 46 ∧ nv r (j + 1) = nv r j) ∨ (48 ≤ x.toNat ∧ x.toNat ≤ 57 ∧ x.toNat ≠ 46 ∧ ((nv r (j + 1) : Nat) : Int) = (nv r j : Nat) * 10 + ((x.toNat : Int) - 48))) := by
  have hx := List.getElem?_eq_getElem h
  have h1 := nv_next hx
  have h2 := hd _ (List.getElem_mem h)
  subst hr
  have hi : n + j < s.size := by
    rw [List.length_drop, Array.length_toList] at h
    have : s.data.size = s.size := rfl
    omega
  refine ⟨s[n + j], ⟨hi, rfl⟩, ?_⟩
  have e : s[n + j] = (s.data.toList.drop n)[j] := by
    rw [List.getElem_drop]
    rfl
  rw [e]
  generalize (s.data.toList.drop n)[j] = x at *
  rcases h2 with e2 | e2
  · left
    rw [if_pos e2] at h1
    exact ⟨e2, h1⟩
  · right
    have e3 := (isD8_iff _).1 e2
    have e4 : x ≠ 46 := by rintro rfl; cases e2
    rw [if_neg e4] at h1
    refine ⟨by omega, by omega, fun k => e4 (UInt8.toNat_inj.1 k), by omega⟩
theorem rp_over (f : Nat) {a : Int} {b : Nat} (hf : f ≤ 32) (hb : b ≤ 64) (ha : a.natAbs < 10 ^ 64) : ∃ (p : Int) (q : Nat), (∀ W x y, IsI W x a → IsI W y (10 ^ b) → Calls Tryz.prog 32 #[x, y, .int .i64 f] W (SomeR W p q)) ∧ p.natAbs < LOW ∧ q < LOW ∧ q ≠ 0 ∧ nr p q = rd (a * 2 ^ f) (10 ^ b) := by
  have e64 : (10 : Nat) ^ 64 < 2 ^ 250 := by decide
  have ga : a.natAbs < BIG := big_of (k := 250) (by omega) (by decide)
  have p2 : (2 ^ f : Int).natAbs < 2 ^ 33 := by
    have p0 : (0 : Int) < 2 ^ f := Int.pow_pos (by decide)
    have p1 : (2 : Int) ^ f ≤ 2 ^ 32 := by have := Nat.pow_le_pow_right (show 0 < 2 by decide) hf; exact_mod_cast this
    omega
  have gA : (a * 2 ^ f).natAbs < LOW := low_of (k := 284) (by rw [Int.natAbs_mul]; exact mul_pow_lt 250 33 284 (Nat.le_of_lt (Nat.lt_trans ha e64)) (Nat.le_of_lt p2) (by decide)) (by decide)
  have gB : ((10 : Int) ^ b).natAbs < LOW := by
    refine low_of (k := 250) ?_ (by decide)
    rw [Int.natAbs_pow]
    exact Nat.lt_of_le_of_lt (Nat.pow_le_pow_right (by decide) hb) e64
  have h0 : (10 : Int) ^ b ≠ 0 := by have : (0 : Int) < 10 ^ b := Int.pow_pos (by decide); omega
  have NI := near_is (a * 2 ^ f) h0
  have NL := near_low gA gB
  refine ⟨_, _, fun W x y h k => r2over_any x y a (10 ^ b) _ _ f W h k ga hf fun W x y h k => refrat_any x y (a * 2 ^ f) (10 ^ b) W h k (low_big gA).2.2.2.1 (low_big gB).2.2.2.1 h0, NL.1, NL.2, NI.2, NI.1⟩
end Go.Proofs.YteplhlmdaabpaaaGreatDoor
namespace Go.Proofs.YteplhlmdaabpaaaGreatDoor
open Go.RowKit
open Lib (decDigits)

theorem isD8_of {d : Nat} (h : d ≤ 9) : isD8 (UInt8.ofNat (48 + d)) = true := by
  rw [isD8_iff]
  have : (UInt8.ofNat (48 + d)).toNat = 48 + d := by rw [UInt8.toNat_ofNat']; omega
  omega
theorem ds_of {d : Nat} (h : d ≤ 9) : (UInt8.ofNat (48 + d)).toNat - 48 = d := by
  have : (UInt8.ofNat (48 + d)).toNat = 48 + d := by rw [UInt8.toNat_ofNat']; omega
  omega
/-- The digits of a decimal are read as its number. -/
theorem dec_read (n : Nat) : (decDigits n).all isD8 = true ∧ dv (ds (decDigits n)) = n ∧ decDigits n ≠ [] := by
  induction n using Nat.strongRecOn with
  | ind n ih =>
    by_cases h : n < 10
    · rw [Lib.decDigits_one h]
      refine ⟨by rw [List.all_cons, isD8_of (show n ≤ 9 by omega)]; rfl, ?_, by simp⟩
      have e : dv (ds [UInt8.ofNat (48 + n)]) = ((UInt8.ofNat (48 + n)).toNat - 48) * 10 ^ 0 + 0 := rfl
      rw [e, ds_of (show n ≤ 9 by omega)]
      omega
    · obtain ⟨h1, h2, h3⟩ := ih (n / 10) (by omega)
      have e : decDigits n = decDigits (n / 10) ++ [UInt8.ofNat (48 + n % 10)] := by rw [decDigits, dif_neg h]
      rw [e]
      refine ⟨by rw [List.all_append, h1, List.all_cons, isD8_of (show n % 10 ≤ 9 by omega)]; rfl, ?_, by simp⟩
      have e1 : ds (decDigits (n / 10) ++ [UInt8.ofNat (48 + n % 10)]) = ds (decDigits (n / 10)) ++ [n % 10] := by
        unfold ds
        rw [List.map_append, List.map_singleton, ds_of (show n % 10 ≤ 9 by omega)]
      rw [e1, dv_snoc, h2]
      omega
/-- The digits behind the point say the fraction exactly. -/
theorem frs_read (f : Nat) : ∀ (k r : Nat), (frs f r).length ≤ k → r < 2 ^ f → (frs f r).all isD8 = true ∧ dv (ds (frs f r)) * 2 ^ f = r * 10 ^ (frs f r).length
  | k, r, hk, hr => by
    by_cases h0 : r = 0
    · subst h0
      rw [frs_zero]
      exact ⟨rfl, by simp [ds, dv]⟩
    · have hN := frs_next h0 hr
      rw [hN] at hk
      have hd : 10 * r / 2 ^ f < 10 := Nat.div_lt_of_lt_mul (by rw [Nat.mul_comm]; omega)
      cases k with
      | zero => simp at hk
      | succ k =>
        obtain ⟨h1, h2⟩ := frs_read f k (10 * r % 2 ^ f) (by simpa using hk) (Nat.mod_lt _ (Nat.pow_pos (by decide)))
        rw [hN]
        refine ⟨by rw [List.all_cons, isD8_of (show 10 * r / 2 ^ f ≤ 9 by omega), h1]; rfl, ?_⟩
        have e1 : dv (ds (UInt8.ofNat (48 + 10 * r / 2 ^ f) :: frs f (10 * r % 2 ^ f))) = (10 * r / 2 ^ f) * 10 ^ (frs f (10 * r % 2 ^ f)).length + dv (ds (frs f (10 * r % 2 ^ f))) := by
          show ((UInt8.ofNat (48 + 10 * r / 2 ^ f)).toNat - 48) * 10 ^ (ds (frs f (10 * r % 2 ^ f))).length + _ = _
          rw [ds_of (show 10 * r / 2 ^ f ≤ 9 by omega)]
          unfold ds
          rw [List.length_map]
        rw [e1, Nat.add_mul, h2, List.length_cons, Nat.pow_succ]
        have e2 := Nat.div_add_mod (10 * r) (2 ^ f)
        generalize 10 ^ (frs f (10 * r % 2 ^ f)).length = K at *
        generalize 10 * r % 2 ^ f = m at *
        generalize 10 * r / 2 ^ f = d at *
        generalize 2 ^ f = F at *
        have e3 : d * K * F + m * K = (F * d + m) * K := by rw [Nat.add_mul, Nat.mul_right_comm, Nat.mul_comm d F]
        rw [e3, e2, Nat.mul_comm K 10, ← Nat.mul_assoc, Nat.mul_comm r 10]
theorem dg_dec (n : Nat) : dg (decDigits n) = true := by rw [dg_of (dec_read n).1]; simp [(dec_read n).2.2]
/-- How a word's text is cut. -/
theorem pform_ftx (a : Int) (f : Nat) (hl : (ftx a f).length ≤ 64) : pform (ftx a f) = some (decide (a < 0), decDigits (a.natAbs / 2 ^ f), frs f (a.natAbs % 2 ^ f)) := by
  have hr : a.natAbs % 2 ^ f < 2 ^ f := Nat.mod_lt _ (Nat.pow_pos (by decide))
  obtain ⟨g1, _, g3⟩ := dec_read (a.natAbs / 2 ^ f)
  obtain ⟨k1, _⟩ := frs_read f _ _ (Nat.le_refl _) hr
  have hne : (decDigits (a.natAbs / 2 ^ f))[0]? ≠ some 45 := by
    intro k
    have hm := List.mem_of_getElem? k
    have := List.all_eq_true.1 g1 45 hm
    cases this
  have hpre : ∀ t : List UInt8, Lib.hasPrefix ((if a < 0 then [45] else []) ++ decDigits (a.natAbs / 2 ^ f) ++ t) [45] = decide (a < 0) ∧ Lib.trimPrefix ((if a < 0 then [45] else []) ++ decDigits (a.natAbs / 2 ^ f) ++ t) [45] = decDigits (a.natAbs / 2 ^ f) ++ t := by
    intro t
    by_cases na : a < 0
    · rw [if_pos na, decide_eq_true na]
      have h : Lib.hasPrefix ([45] ++ decDigits (a.natAbs / 2 ^ f) ++ t) [45] = true := (has_45 _).2 rfl
      refine ⟨h, ?_⟩
      rw [pre_drop, h]
      rfl
    · rw [if_neg na, decide_eq_false na, List.nil_append]
      have h : Lib.hasPrefix (decDigits (a.natAbs / 2 ^ f) ++ t) [45] = false := by
        cases g : Lib.hasPrefix (decDigits (a.natAbs / 2 ^ f) ++ t) [45] with
        | false => rfl
        | true =>
          have h1 := (has_45 _).1 g
          rw [List.getElem?_append_left (List.length_pos_iff.2 g3)] at h1
          exact absurd h1 hne
      refine ⟨h, ?_⟩
      rw [pre_drop, h]
      rfl
  by_cases r0 : a.natAbs % 2 ^ f = 0
  · have e : ftx a f = (if a < 0 then [45] else []) ++ decDigits (a.natAbs / 2 ^ f) ++ [] := by unfold ftx; rw [if_pos r0]
    obtain ⟨p1, p2⟩ := hpre []
    rw [← e] at p1 p2
    rw [List.append_nil] at p2
    rw [pform_end hl p2 g1, if_neg g3, p1, r0, frs_zero]
  · have e : ftx a f = (if a < 0 then [45] else []) ++ decDigits (a.natAbs / 2 ^ f) ++ 46 :: frs f (a.natAbs % 2 ^ f) := by unfold ftx; rw [if_neg r0]
    obtain ⟨p1, p2⟩ := hpre (46 :: frs f (a.natAbs % 2 ^ f))
    rw [← e] at p1 p2
    have hc : dg (frs f (a.natAbs % 2 ^ f)) = true := by rw [dg_of k1, frs_next r0 hr]; simp
    rw [pform_point hl p2 g1, if_pos (by rw [hc]; simp [g3]), p1]
/-- A word's text is read as the word. -/
theorem pres_ftx (a : Int) (f : Nat) (ga : wd a = true) (hl : (ftx a f).length ≤ 64) : pres (ftx a f) f = (a, 0) := by
  have hr : a.natAbs % 2 ^ f < 2 ^ f := Nat.mod_lt _ (Nat.pow_pos (by decide))
  obtain ⟨_, g2, _⟩ := dec_read (a.natAbs / 2 ^ f)
  obtain ⟨_, k2⟩ := frs_read f _ _ (Nat.le_refl _) hr
  have hw : wval (decide (a < 0)) (ds (decDigits (a.natAbs / 2 ^ f))) (ds (frs f (a.natAbs % 2 ^ f))) f = a := by
    have hlen : (ds (frs f (a.natAbs % 2 ^ f))).length = (frs f (a.natAbs % 2 ^ f)).length := by unfold ds; exact List.length_map _
    have hK : (10 ^ (frs f (a.natAbs % 2 ^ f)).length : Nat) ≠ 0 := by have : 0 < 10 ^ (frs f (a.natAbs % 2 ^ f)).length := Nat.pow_pos (by decide); omega
    have e : (dv (ds (decDigits (a.natAbs / 2 ^ f))) * 10 ^ (ds (frs f (a.natAbs % 2 ^ f))).length + dv (ds (frs f (a.natAbs % 2 ^ f)))) * 2 ^ f = a.natAbs * 10 ^ (frs f (a.natAbs % 2 ^ f)).length := by
      rw [g2, hlen, Nat.add_mul, k2]
      have e2 := Nat.div_add_mod a.natAbs (2 ^ f)
      generalize 10 ^ (frs f (a.natAbs % 2 ^ f)).length = K at *
      generalize a.natAbs % 2 ^ f = m at *
      generalize a.natAbs / 2 ^ f = d at *
      generalize 2 ^ f = F at *
      have e3 : d * K * F + m * K = (F * d + m) * K := by rw [Nat.add_mul, Nat.mul_right_comm, Nat.mul_comm d F]
      rw [e3, e2]
    unfold wval
    rw [e, hlen]
    generalize 10 ^ (frs f (a.natAbs % 2 ^ f)).length = K at *
    have hz := rd_whole ((a.natAbs : Nat) : Int) (show ((K : Nat) : Int) ≠ 0 by omega)
    rw [Int.natCast_mul, hz]
    by_cases na : a < 0
    · rw [decide_eq_true na, if_pos rfl]; omega
    · rw [decide_eq_false na, if_neg (by decide)]; omega
  unfold pres
  rw [pform_ftx a f hl]
  show (tw (wval (decide (a < 0)) (ds (decDigits (a.natAbs / 2 ^ f))) (ds (frs f (a.natAbs % 2 ^ f))) f), te (wval (decide (a < 0)) (ds (decDigits (a.natAbs / 2 ^ f))) (ds (frs f (a.natAbs % 2 ^ f))) f)) = (a, 0)
  rw [hw]
  unfold tw te
  rw [if_pos ga, if_pos ga]
end Go.Proofs.YteplhlmdaabpaaaGreatDoor
