/-
  The document's own answer for package fx: sums, products, quotients, closings, told as words.
  The nearest whole number to the root of a rational number, by its half; odd numbers over 2 and 4.
-/
import Derived.Test.YtdbgooobbemklaaM01
import Derived.Test.YtdbgooobbemklaaM03
import Derived.Test.YtdbgooobbemklaaM10
import Derived.Test.YtdbgooobbemklaaM12
namespace Go.Proofs.Ytdbgooobbemklaa
open Go.RowKit

set_option maxRecDepth 100000 in
set_option maxHeartbeats 8000000 in
theorem mayf_any (f : Int) (w : World) : Calls Try.prog 11 #[.int .i64 f] w fun e w' => e = .returned (.bool (fb f)) ∧ w = w' := by
  cases g : fb f with
  | true =>
    obtain ⟨g1, g2⟩ := fb_bd g
    clear g
    go_enter Try.func11, Try.ntmps11
    go_wp2
    go_ret
    exact ⟨rfl, rfl⟩
  | false =>
    have h := fb_no g
    clear g
    by_cases g1 : f < 8
    · clear h
      go_enter Try.func11, Try.ntmps11
      go_wp2
      go_ret
      exact ⟨rfl, rfl⟩
    · have g2 : ¬ f ≤ 32 := by omega
      have g3 : 8 ≤ f := by omega
      clear h g1
      go_enter Try.func11, Try.ntmps11
      go_wp2
      go_ret
      exact ⟨rfl, rfl⟩
set_option maxRecDepth 100000 in
set_option maxHeartbeats 8000000 in
theorem r2word_any (x : Value) (z : Int) (w : World) (h : IsI w x z) : Calls Try.prog 55 #[x] w fun e w' => e = .returned (.tuple #[.int .i64 (tw z), .int .i64 (te z)]) ∧ Below w.heap.size w w' := by
  obtain ⟨bn, on, ln, cn, rfl, Hn⟩ := h.open
  clear h
  have SC := Lib.hid (fun (W : World) (h : IsI W (Iv bn (.slice on ln cn)) z) => ismall_any _ z W h)
  cases g : isS z with
  | false =>
    have gw : wd z = false := by
      have := isS_no g
      unfold wd; simp only [decide_eq_false_iff_not]; omega
    have H := Lib.hid (And.intro (tw_out gw) (te_out gw))
    have SC := fun (W : World) (h : IsI W (Iv bn (.slice on ln cn)) z) => SC.out W h
    rw [g] at SC
    have SC := Lib.hid SC
    clear g gw
    go_enter Try.func55, Try.ntmps55
    go_wp2_with (go_at_call 88; (with_reducible refine (SC.out _ ((IsI.mk Hn.out.1 Hn.out.2.1).below (by repeat (first | exact Below.refl _ _ | assumption | apply Below.drew | refine Below.setCell ?_ (by first | omega | (simp; done) | (simp; omega)) _ | refine Below.alloc ?_ (by first | omega | (simp; done) | (simp; omega)) _)))).mono ?_); rintro e w1 ⟨rfl, hb1⟩; have e10 : w1.cell? ⟨w.heap.size, 0, none⟩ = some (.bool bn) := cell_on hb1 (by first | (simp [go_sem, *]; done) | (simp [go_sem, World.cell?_alloc_some, *]; done) | fail); have e11 : w1.cell? ⟨w.heap.size, 1, none⟩ = some (Value.slice on ln cn) := cell_on hb1 (by first | (simp [go_sem, *]; done) | (simp [go_sem, World.cell?_alloc_some, *]; done) | fail); have s10 : w.heap.size < w1.heap.size := World.block_lt_of_cell? _ _ e10; have t10 : w.heap.size < w1.heap.size + 1 := Nat.lt_succ_of_lt s10; have q1 := hb1.size; (try simp at q1))
    go_ret2
    refine ⟨by rw [H.out.1, H.out.2] <;> rfl, ?_⟩
    repeat (first | exact Below.refl _ _ | assumption | apply Below.drew | refine Below.setCell ?_ (by first | omega | (simp; done) | (simp; omega)) _ | refine Below.alloc ?_ (by first | omega | (simp; done) | (simp; omega)) _ | refine Below.trans ?_ (hb1.mono (by first | omega | (simp; done) | (simp; omega))))
  | true =>
    have SC := fun (W : World) (h : IsI W (Iv bn (.slice on ln cn)) z) => SC.out W h
    rw [g, show sm z = z from if_pos g] at SC
    have SC := Lib.hid SC
    have MC := fun W : World => may_any z W
    cases gw : wd z with
    | true =>
      have H := Lib.hid (And.intro (tw_in gw) (te_in gw))
      rw [gw] at MC
      have MC := Lib.hid MC
      clear g gw
      go_enter Try.func55, Try.ntmps55
      go_wp2_with (first | (go_at_call 88; (with_reducible refine (SC.out _ ((IsI.mk Hn.out.1 Hn.out.2.1).below (by repeat (first | exact Below.refl _ _ | assumption | apply Below.drew | refine Below.setCell ?_ (by first | omega | (simp; done) | (simp; omega)) _ | refine Below.alloc ?_ (by first | omega | (simp; done) | (simp; omega)) _)))).mono ?_); rintro e w1 ⟨rfl, hb1⟩; have e10 : w1.cell? ⟨w.heap.size, 0, none⟩ = some (.bool bn) := cell_on hb1 (by first | (simp [go_sem, *]; done) | (simp [go_sem, World.cell?_alloc_some, *]; done) | fail); have e11 : w1.cell? ⟨w.heap.size, 1, none⟩ = some (Value.slice on ln cn) := cell_on hb1 (by first | (simp [go_sem, *]; done) | (simp [go_sem, World.cell?_alloc_some, *]; done) | fail); have s10 : w.heap.size < w1.heap.size := World.block_lt_of_cell? _ _ e10; have t10 : w.heap.size < w1.heap.size + 1 := Nat.lt_succ_of_lt s10; have q1 := hb1.size; (try simp at q1)) | (go_at_call 10; (with_reducible refine (MC.out _).mono ?_); rintro e w' ⟨rfl, rfl⟩))
      go_ret2
      refine ⟨by rw [H.out.1, H.out.2] <;> rfl, ?_⟩
      repeat (first | exact Below.refl _ _ | assumption | apply Below.drew | refine Below.setCell ?_ (by first | omega | (simp; done) | (simp; omega)) _ | refine Below.alloc ?_ (by first | omega | (simp; done) | (simp; omega)) _ | refine Below.trans ?_ (hb1.mono (by first | omega | (simp; done) | (simp; omega))))
    | false =>
      have H := Lib.hid (And.intro (tw_out gw) (te_out gw))
      rw [gw] at MC
      have MC := Lib.hid MC
      clear g gw
      go_enter Try.func55, Try.ntmps55
      go_wp2_with (first | (go_at_call 88; (with_reducible refine (SC.out _ ((IsI.mk Hn.out.1 Hn.out.2.1).below (by repeat (first | exact Below.refl _ _ | assumption | apply Below.drew | refine Below.setCell ?_ (by first | omega | (simp; done) | (simp; omega)) _ | refine Below.alloc ?_ (by first | omega | (simp; done) | (simp; omega)) _)))).mono ?_); rintro e w1 ⟨rfl, hb1⟩; have e10 : w1.cell? ⟨w.heap.size, 0, none⟩ = some (.bool bn) := cell_on hb1 (by first | (simp [go_sem, *]; done) | (simp [go_sem, World.cell?_alloc_some, *]; done) | fail); have e11 : w1.cell? ⟨w.heap.size, 1, none⟩ = some (Value.slice on ln cn) := cell_on hb1 (by first | (simp [go_sem, *]; done) | (simp [go_sem, World.cell?_alloc_some, *]; done) | fail); have s10 : w.heap.size < w1.heap.size := World.block_lt_of_cell? _ _ e10; have t10 : w.heap.size < w1.heap.size + 1 := Nat.lt_succ_of_lt s10; have q1 := hb1.size; (try simp at q1)) | (go_at_call 10; (with_reducible refine (MC.out _).mono ?_); rintro e w' ⟨rfl, rfl⟩))
      go_ret2
      refine ⟨by rw [H.out.1, H.out.2] <;> rfl, ?_⟩
      repeat (first | exact Below.refl _ _ | assumption | apply Below.drew | refine Below.setCell ?_ (by first | omega | (simp; done) | (simp; omega)) _ | refine Below.alloc ?_ (by first | omega | (simp; done) | (simp; omega)) _ | refine Below.trans ?_ (hb1.mono (by first | omega | (simp; done) | (simp; omega))))
set_option maxRecDepth 100000 in
set_option maxHeartbeats 8000000 in
theorem r2near_any (bv : Bool) (o1 o2 : Option Addr) (l1 c1 l2 c2 : Nat) (p : Int) (q : Nat) (z : Int) (w : World) (h : bv = decide (p < 0) ∧ IsN w (.slice o1 l1 c1) p.natAbs ∧ IsN w (.slice o2 l2 c2) q) (gp : p.natAbs < LOW) (gq : q < LOW) (hq : q ≠ 0) (hz : nr p q = z) : Calls Try.prog 58 #[Rv bv (.slice o1 l1 c1) (.slice o2 l2 c2)] w fun e w' => e = .returned (.tuple #[.int .i64 (tw z), .int .i64 (te z)]) ∧ Below w.heap.size w w' := by
  subst hz
  have hv := Lib.hid h
  have G := Lib.hid (And.intro gp (And.intro gq hq))
  clear h gp gq hq
  generalize hm : nr p q = z at *
  have NC : Hid (∀ W : World, IsN W (.slice o1 l1 c1) p.natAbs → IsN W (.slice o2 l2 c2) q → Calls Try.prog 92 #[Rv bv (.slice o1 l1 c1) (.slice o2 l2 c2)] W (SomeI W z)) := fun W h1 h2 => by rw [← hm]; exact near_rat bv o1 o2 l1 c1 l2 c2 p q W hv.out.1 h1 h2 G.out.1 G.out.2.1 G.out.2.2
  clear hm
  go_enter Try.func58, Try.ntmps58
  go_wp2_with (first | (go_at_call 92; (with_reducible refine (NC.out _ (hv.out.2.1.below (by repeat (first | exact Below.refl _ _ | assumption | apply Below.drew | refine Below.setCell ?_ (by first | omega | (simp; done) | (simp; omega)) _ | refine Below.alloc ?_ (by first | omega | (simp; done) | (simp; omega)) _))) (hv.out.2.2.below (by repeat (first | exact Below.refl _ _ | assumption | apply Below.drew | refine Below.setCell ?_ (by first | omega | (simp; done) | (simp; omega)) _ | refine Below.alloc ?_ (by first | omega | (simp; done) | (simp; omega)) _)))).mono ?_); rintro e w1 ⟨vn, rfl, hv, hb1⟩; have q1 := hb1.size; (try simp at q1); obtain ⟨bn, on, ln, cn, rfl, Hn⟩ := hv.open; clear hv) | (go_at_call 55; (with_reducible refine (r2word_any _ z _ ((IsI.mk Hn.out.1 Hn.out.2.1).below (by repeat (first | exact Below.refl _ _ | assumption | apply Below.drew | refine Below.setCell ?_ (by first | omega | (simp; done) | (simp; omega)) _ | refine Below.alloc ?_ (by first | omega | (simp; done) | (simp; omega)) _)))).mono ?_); rintro e w2 ⟨rfl, hb2⟩; have q2 := hb2.size; (try simp at q2)))
  go_ret2
  refine ⟨rfl, ?_⟩
  repeat (first | exact Below.refl _ _ | assumption | apply Below.drew | refine Below.setCell ?_ (by first | omega | (simp; done) | (simp; omega)) _ | refine Below.alloc ?_ (by first | omega | (simp; done) | (simp; omega)) _ | refine Below.trans ?_ (hb2.mono (by first | omega | (simp; done) | (simp; omega))) | refine Below.trans ?_ (hb1.mono (by first | omega | (simp; done) | (simp; omega))))
set_option maxRecDepth 100000 in
set_option maxHeartbeats 8000000 in
theorem r2add_any (a b : Int) (w : World) (a0 : -9223372036854775808 ≤ a) (a1 : a ≤ 9223372036854775807) (b0 : -9223372036854775808 ≤ b) (b1 : b ≤ 9223372036854775807) : Calls Try.prog 15 #[.int .i64 a, .int .i64 b] w fun e w' => e = .returned (.tuple #[.int .i64 (tw (a + b)), .int .i64 (te (a + b))]) ∧ Below w.heap.size w w' := by
  have FA := Lib.hid (fun W : World => ifrom_any a W a0 a1)
  have FB := Lib.hid (fun W : World => ifrom_any b W b0 b1)
  have G : Hid (a.natAbs < BIG ∧ b.natAbs < BIG) := ⟨big_of (k := 64) (by omega) (by decide), big_of (k := 64) (by omega) (by decide)⟩
  clear a0 a1 b0 b1
  go_enter Try.func15, Try.ntmps15
  go_wp2_with (first | (go_at_call 33; have _g := hb1; (with_reducible refine (FB.out _).mono ?_); rintro e w2 ⟨vg, rfl, hv, hb2⟩; have q2 := hb2.size; (try simp at q2); obtain ⟨bg, og, lg, cg, rfl, Hg⟩ := hv.open; clear hv) | (go_at_call 33; (with_reducible refine (FA.out _).mono ?_); rintro e w1 ⟨vf, rfl, hv, hb1⟩; have q1 := hb1.size; (try simp at q1); obtain ⟨bf, of, lf, cf, rfl, Hf⟩ := hv.open; clear hv) | (go_at_call 56; (with_reducible refine (iplus_any _ _ a b _ ((IsI.mk Hf.out.1 Hf.out.2.1).below (by repeat (first | exact Below.refl _ _ | assumption | apply Below.drew | refine Below.setCell ?_ (by first | omega | (simp; done) | (simp; omega)) _ | refine Below.alloc ?_ (by first | omega | (simp; done) | (simp; omega)) _ | refine Below.trans ?_ (hb2.mono (by first | omega | (simp; done) | (simp; omega)))))) ((IsI.mk Hg.out.1 Hg.out.2.1).below (by repeat (first | exact Below.refl _ _ | assumption | apply Below.drew | refine Below.setCell ?_ (by first | omega | (simp; done) | (simp; omega)) _ | refine Below.alloc ?_ (by first | omega | (simp; done) | (simp; omega)) _))) G.out.1 G.out.2).mono ?_); rintro e w3 ⟨vn, rfl, hv, hb3⟩; have q3 := hb3.size; (try simp at q3); obtain ⟨bn, on, ln, cn, rfl, Hn⟩ := hv.open; clear hv) | (go_at_call 55; (with_reducible refine (r2word_any _ (a + b) _ ((IsI.mk Hn.out.1 Hn.out.2.1).below (by repeat (first | exact Below.refl _ _ | assumption | apply Below.drew | refine Below.setCell ?_ (by first | omega | (simp; done) | (simp; omega)) _ | refine Below.alloc ?_ (by first | omega | (simp; done) | (simp; omega)) _)))).mono ?_); rintro e w4 ⟨rfl, hb4⟩; have q4 := hb4.size; (try simp at q4)))
  go_ret2
  refine ⟨rfl, ?_⟩
  repeat (first | exact Below.refl _ _ | assumption | apply Below.drew | refine Below.setCell ?_ (by first | omega | (simp; done) | (simp; omega)) _ | refine Below.alloc ?_ (by first | omega | (simp; done) | (simp; omega)) _ | refine Below.trans ?_ (hb4.mono (by first | omega | (simp; done) | (simp; omega))) | refine Below.trans ?_ (hb3.mono (by first | omega | (simp; done) | (simp; omega))) | refine Below.trans ?_ (hb2.mono (by first | omega | (simp; done) | (simp; omega))) | refine Below.trans ?_ (hb1.mono (by first | omega | (simp; done) | (simp; omega))))
set_option maxRecDepth 100000 in
set_option maxHeartbeats 8000000 in
theorem r2sub_any (a b : Int) (w : World) (a0 : -9223372036854775808 ≤ a) (a1 : a ≤ 9223372036854775807) (b0 : -9223372036854775808 ≤ b) (b1 : b ≤ 9223372036854775807) : Calls Try.prog 16 #[.int .i64 a, .int .i64 b] w fun e w' => e = .returned (.tuple #[.int .i64 (tw (a - b)), .int .i64 (te (a - b))]) ∧ Below w.heap.size w w' := by
  have FA := Lib.hid (fun W : World => ifrom_any a W a0 a1)
  have FB := Lib.hid (fun W : World => ifrom_any b W b0 b1)
  have G : Hid (a.natAbs < BIG ∧ b.natAbs < BIG) := ⟨big_of (k := 64) (by omega) (by decide), big_of (k := 64) (by omega) (by decide)⟩
  clear a0 a1 b0 b1
  go_enter Try.func16, Try.ntmps16
  go_wp2_with (first | (go_at_call 33; have _g := hb1; (with_reducible refine (FB.out _).mono ?_); rintro e w2 ⟨vg, rfl, hv, hb2⟩; have q2 := hb2.size; (try simp at q2); obtain ⟨bg, og, lg, cg, rfl, Hg⟩ := hv.open; clear hv) | (go_at_call 33; (with_reducible refine (FA.out _).mono ?_); rintro e w1 ⟨vf, rfl, hv, hb1⟩; have q1 := hb1.size; (try simp at q1); obtain ⟨bf, of, lf, cf, rfl, Hf⟩ := hv.open; clear hv) | (go_at_call 31; (with_reducible refine (iless_any _ _ a b _ ((IsI.mk Hf.out.1 Hf.out.2.1).below (by repeat (first | exact Below.refl _ _ | assumption | apply Below.drew | refine Below.setCell ?_ (by first | omega | (simp; done) | (simp; omega)) _ | refine Below.alloc ?_ (by first | omega | (simp; done) | (simp; omega)) _ | refine Below.trans ?_ (hb2.mono (by first | omega | (simp; done) | (simp; omega)))))) ((IsI.mk Hg.out.1 Hg.out.2.1).below (by repeat (first | exact Below.refl _ _ | assumption | apply Below.drew | refine Below.setCell ?_ (by first | omega | (simp; done) | (simp; omega)) _ | refine Below.alloc ?_ (by first | omega | (simp; done) | (simp; omega)) _))) G.out.1 G.out.2).mono ?_); rintro e w3 ⟨vn, rfl, hv, hb3⟩; have q3 := hb3.size; (try simp at q3); obtain ⟨bn, on, ln, cn, rfl, Hn⟩ := hv.open; clear hv) | (go_at_call 55; (with_reducible refine (r2word_any _ (a - b) _ ((IsI.mk Hn.out.1 Hn.out.2.1).below (by repeat (first | exact Below.refl _ _ | assumption | apply Below.drew | refine Below.setCell ?_ (by first | omega | (simp; done) | (simp; omega)) _ | refine Below.alloc ?_ (by first | omega | (simp; done) | (simp; omega)) _)))).mono ?_); rintro e w4 ⟨rfl, hb4⟩; have q4 := hb4.size; (try simp at q4)))
  go_ret2
  refine ⟨rfl, ?_⟩
  repeat (first | exact Below.refl _ _ | assumption | apply Below.drew | refine Below.setCell ?_ (by first | omega | (simp; done) | (simp; omega)) _ | refine Below.alloc ?_ (by first | omega | (simp; done) | (simp; omega)) _ | refine Below.trans ?_ (hb4.mono (by first | omega | (simp; done) | (simp; omega))) | refine Below.trans ?_ (hb3.mono (by first | omega | (simp; done) | (simp; omega))) | refine Below.trans ?_ (hb2.mono (by first | omega | (simp; done) | (simp; omega))) | refine Below.trans ?_ (hb1.mono (by first | omega | (simp; done) | (simp; omega))))
set_option maxRecDepth 100000 in
set_option maxHeartbeats 8000000 in
theorem r2neg_any (a : Int) (w : World) (a0 : -9223372036854775808 ≤ a) (a1 : a ≤ 9223372036854775807) : Calls Try.prog 17 #[.int .i64 a] w fun e w' => e = .returned (.tuple #[.int .i64 (tw (-a)), .int .i64 (te (-a))]) ∧ Below w.heap.size w w' := by
  have FA := Lib.hid (fun W : World => ifrom_any a W a0 a1)
  clear a0 a1
  go_enter Try.func17, Try.ntmps17
  go_wp2_with (first | (go_at_call 33; (with_reducible refine (FA.out _).mono ?_); rintro e w1 ⟨vf, rfl, hv, hb1⟩; have q1 := hb1.size; (try simp at q1); obtain ⟨bf, of, lf, cf, rfl, Hf⟩ := hv.open; clear hv) | (go_at_call 57; (with_reducible refine (ineg_any _ a _ ((IsI.mk Hf.out.1 Hf.out.2.1).below (by repeat (first | exact Below.refl _ _ | assumption | apply Below.drew | refine Below.setCell ?_ (by first | omega | (simp; done) | (simp; omega)) _ | refine Below.alloc ?_ (by first | omega | (simp; done) | (simp; omega)) _)))).mono ?_); rintro e w3 ⟨vn, rfl, hv, hb3⟩; have q3 := hb3.size; (try simp at q3); obtain ⟨bn, on, ln, cn, rfl, Hn⟩ := hv.open; clear hv) | (go_at_call 55; (with_reducible refine (r2word_any _ (-a) _ ((IsI.mk Hn.out.1 Hn.out.2.1).below (by repeat (first | exact Below.refl _ _ | assumption | apply Below.drew | refine Below.setCell ?_ (by first | omega | (simp; done) | (simp; omega)) _ | refine Below.alloc ?_ (by first | omega | (simp; done) | (simp; omega)) _)))).mono ?_); rintro e w4 ⟨rfl, hb4⟩; have q4 := hb4.size; (try simp at q4)))
  go_ret2
  refine ⟨rfl, ?_⟩
  repeat (first | exact Below.refl _ _ | assumption | apply Below.drew | refine Below.setCell ?_ (by first | omega | (simp; done) | (simp; omega)) _ | refine Below.alloc ?_ (by first | omega | (simp; done) | (simp; omega)) _ | refine Below.trans ?_ (hb4.mono (by first | omega | (simp; done) | (simp; omega))) | refine Below.trans ?_ (hb3.mono (by first | omega | (simp; done) | (simp; omega))) | refine Below.trans ?_ (hb1.mono (by first | omega | (simp; done) | (simp; omega))))
theorem low_tdiv {m : Int} {D : Nat} (gm : m.natAbs < LOW) (gD : D < LOW) : (m.tdiv (Nat.gcd m.natAbs D : Nat)).natAbs < LOW ∧ D / Nat.gcd m.natAbs D < LOW := by
  refine ⟨?_, Nat.lt_of_le_of_lt (Nat.div_le_self _ _) gD⟩
  rw [Int.natAbs_tdiv]
  exact Nat.lt_of_le_of_lt (Nat.div_le_self _ _) gm
/-- A quotient by a power of 2. -/
theorem pow_quo (m : Int) (f : Nat) (gm : m.natAbs < LOW) (hf : f ≤ 126) : ∃ (p : Int) (q : Nat), p = m.tdiv (Nat.gcd m.natAbs (1 * 2 ^ f) : Nat) ∧ q = (1 * 2 ^ f) / Nat.gcd m.natAbs (1 * 2 ^ f) ∧ nr p q = rd m (2 ^ f) ∧ q ≠ 0 ∧ p.natAbs < LOW ∧ q < LOW ∧ m.natAbs < MID ∧ 1 * 2 ^ f < MID ∧ 1 * 2 ^ f ≠ 0 := by
  have h0 : 1 * 2 ^ f ≠ 0 := by have := Nat.two_pow_pos f; omega
  have gD : 1 * 2 ^ f < LOW := low_of (k := 127) (by rw [Nat.one_mul]; exact Nat.pow_lt_pow_right (by decide) (by omega)) (by decide)
  obtain ⟨h1, h2⟩ := lowest m h0
  have e : ((1 * 2 ^ f : Nat) : Int) = 2 ^ f := by rw [Nat.one_mul]; simp
  rw [e] at h1
  exact ⟨_, _, rfl, rfl, h1, h2, (low_tdiv gm gD).1, (low_tdiv gm gD).2, (low_big gm).2.2.2.1, (low_big gD).2.2.2.1, h0⟩
set_option maxRecDepth 100000 in
set_option maxHeartbeats 8000000 in
theorem r2mul_any (a b : Int) (f : Nat) (w : World) (ga : wd a = true) (gb : wd b = true) (hf : f ≤ 32) : Calls Try.prog 18 #[.int .i64 a, .int .i64 b, .int .i64 f] w fun e w' => e = .returned (.tuple #[.int .i64 (tw (rd (a * b) (2 ^ f))), .int .i64 (te (rd (a * b) (2 ^ f)))]) ∧ Below w.heap.size w w' := by
  have A := wd_bd ga
  have B := wd_bd gb
  have FA := Lib.hid (fun W : World => ifrom_any a W (by omega) (by omega))
  have FB := Lib.hid (fun W : World => ifrom_any b W (by omega) (by omega))
  have gm : (a * b).natAbs < 2 ^ (47 + 47) := by rw [Int.natAbs_mul, Nat.pow_add]; exact Nat.mul_lt_mul'' (by omega) (by omega)
  have G : Hid (a.natAbs < BIG ∧ b.natAbs < BIG) := ⟨big_of (k := 64) (by omega) (by decide), big_of (k := 64) (by omega) (by decide)⟩
  obtain ⟨p, q, hp, hq, h1, h2, h3, h4, h5, h6, h7⟩ := pow_quo (a * b) f (low_of gm (by decide)) (by omega)
  have N1 := Lib.hid (show ∀ W : World, Calls Try.prog 43 #[.int .u64 1] W (SomeN W 1) from fun W => nof_num 1 W (by decide))
  have U2 : Hid (∀ (W : World) (v : Value), IsN W v 1 → Calls Try.prog 42 #[v, .int .i64 f] W (SomeN W (1 * 2 ^ f))) := fun W v h => up2_any v 1 f W h (big_of (k := 1) (by decide) (by decide)) (by omega)
  have MK : Hid (∀ (W : World) (x v : Value), IsI W x (a * b) → IsN W v (1 * 2 ^ f) → Calls Try.prog 41 #[x, v] W (SomeR W p q)) := fun W x v h k => by rw [hp, hq]; exact make_any x v _ _ W h k h5 h6 h7
  have TM := Lib.hid (fun W x y h k => itimes_any x y a b W h k G.out.1 G.out.2)
  have NR := Lib.hid (And.intro h3 (And.intro h4 (And.intro h2 h1)))
  clear ga gb A B gm G hp hq h1 h2 h3 h4 h5 h6 h7
  generalize rd (a * b) (2 ^ f) = z at *
  generalize 1 * 2 ^ f = D at *
  generalize a * b = m at *
  go_enter Try.func18, Try.ntmps18
  go_wp2_with (first | (go_at_call 33; have _g := hb1; (with_reducible refine (FB.out _).mono ?_); rintro e w2 ⟨vg, rfl, hv, hb2⟩; have q2 := hb2.size; (try simp at q2); obtain ⟨bg, og, lg, cg, rfl, Hg⟩ := hv.open; clear hv) | (go_at_call 33; (with_reducible refine (FA.out _).mono ?_); rintro e w1 ⟨vf, rfl, hv, hb1⟩; have q1 := hb1.size; (try simp at q1); obtain ⟨bf, of, lf, cf, rfl, Hf⟩ := hv.open; clear hv) | (go_at_call 43; (with_reducible refine (N1.out _).mono ?_); rintro e w4 ⟨vo, rfl, ho, hb4⟩; have q4 := hb4.size; (try simp at q4)) | (go_at_call 42; (with_reducible refine (U2.out _ _ (ho.below (by repeat (first | exact Below.refl _ _ | assumption | apply Below.drew | refine Below.setCell ?_ (by first | omega | (simp; done) | (simp; omega)) _ | refine Below.alloc ?_ (by first | omega | (simp; done) | (simp; omega)) _)))).mono ?_); rintro e w5 ⟨vu, rfl, hu, hb5⟩; have q5 := hb5.size; (try simp at q5)) | (go_at_call 41; (with_reducible refine (MK.out _ _ _ ((IsI.mk Hn.out.1 Hn.out.2.1).below (by repeat (first | exact Below.refl _ _ | assumption | apply Below.drew | refine Below.setCell ?_ (by first | omega | (simp; done) | (simp; omega)) _ | refine Below.alloc ?_ (by first | omega | (simp; done) | (simp; omega)) _ | refine Below.trans ?_ (hb5.mono (by first | omega | (simp; done) | (simp; omega))) | refine Below.trans ?_ (hb4.mono (by first | omega | (simp; done) | (simp; omega)))))) (hu.below (by repeat (first | exact Below.refl _ _ | assumption | apply Below.drew | refine Below.setCell ?_ (by first | omega | (simp; done) | (simp; omega)) _ | refine Below.alloc ?_ (by first | omega | (simp; done) | (simp; omega)) _)))).mono ?_); rintro e w6 ⟨bv, o1, l1, c1, o2, l2, c2, rfl, hv, hb6⟩; have q6 := hb6.size; (try simp at q6)) | (go_at_call 58; (with_reducible refine (r2near_any _ _ _ _ _ _ _ p q z _ ⟨hv.out.1, hv.out.2.1.below (by repeat (first | exact Below.refl _ _ | assumption | apply Below.drew | refine Below.setCell ?_ (by first | omega | (simp; done) | (simp; omega)) _ | refine Below.alloc ?_ (by first | omega | (simp; done) | (simp; omega)) _)), hv.out.2.2.below (by repeat (first | exact Below.refl _ _ | assumption | apply Below.drew | refine Below.setCell ?_ (by first | omega | (simp; done) | (simp; omega)) _ | refine Below.alloc ?_ (by first | omega | (simp; done) | (simp; omega)) _))⟩ NR.out.1 NR.out.2.1 NR.out.2.2.1 NR.out.2.2.2).mono ?_); rintro e w7 ⟨rfl, hb7⟩; have q7 := hb7.size; (try simp at q7)) | (go_at_call 32; (with_reducible refine (TM.out _ _ _ ((IsI.mk Hf.out.1 Hf.out.2.1).below (by repeat (first | exact Below.refl _ _ | assumption | apply Below.drew | refine Below.setCell ?_ (by first | omega | (simp; done) | (simp; omega)) _ | refine Below.alloc ?_ (by first | omega | (simp; done) | (simp; omega)) _ | refine Below.trans ?_ (hb2.mono (by first | omega | (simp; done) | (simp; omega)))))) ((IsI.mk Hg.out.1 Hg.out.2.1).below (by repeat (first | exact Below.refl _ _ | assumption | apply Below.drew | refine Below.setCell ?_ (by first | omega | (simp; done) | (simp; omega)) _ | refine Below.alloc ?_ (by first | omega | (simp; done) | (simp; omega)) _)))).mono ?_); rintro e w3 ⟨vn, rfl, hv, hb3⟩; have q3 := hb3.size; (try simp at q3); obtain ⟨bn, on, ln, cn, rfl, Hn⟩ := hv.open; clear hv))
  go_ret2
  refine ⟨rfl, ?_⟩
  repeat (first | exact Below.refl _ _ | assumption | apply Below.drew | refine Below.setCell ?_ (by first | omega | (simp; done) | (simp; omega)) _ | refine Below.alloc ?_ (by first | omega | (simp; done) | (simp; omega)) _ | refine Below.trans ?_ (hb7.mono (by first | omega | (simp; done) | (simp; omega))) | refine Below.trans ?_ (hb6.mono (by first | omega | (simp; done) | (simp; omega))) | refine Below.trans ?_ (hb5.mono (by first | omega | (simp; done) | (simp; omega))) | refine Below.trans ?_ (hb4.mono (by first | omega | (simp; done) | (simp; omega))) | refine Below.trans ?_ (hb3.mono (by first | omega | (simp; done) | (simp; omega))) | refine Below.trans ?_ (hb2.mono (by first | omega | (simp; done) | (simp; omega))) | refine Below.trans ?_ (hb1.mono (by first | omega | (simp; done) | (simp; omega))))
set_option maxRecDepth 100000 in
set_option maxHeartbeats 8000000 in
theorem r2close_any (a : Int) (n : Nat) (w : World) (ha : R a) (hn : n ≤ 126) : Calls Try.prog 20 #[Wv a, .int .i64 n] w fun e w' => e = .returned (.tuple #[.int .i64 (tw (rd a (2 ^ n))), .int .i64 (te (rd a (2 ^ n)))]) ∧ Below w.heap.size w w' := by
  have gm : a.natAbs < 2 ^ 128 := by rw [R_iff] at ha; omega
  obtain ⟨p, q, hp, hq, h1, h2, h3, h4, h5, h6, h7⟩ := pow_quo a n (low_of gm (by decide)) hn
  have RI := Lib.hid (fun W : World => refint_any a W ha)
  have N1 := Lib.hid (show ∀ W : World, Calls Try.prog 43 #[.int .u64 1] W (SomeN W 1) from fun W => nof_num 1 W (by decide))
  have U2 : Hid (∀ (W : World) (v : Value), IsN W v 1 → Calls Try.prog 42 #[v, .int .i64 n] W (SomeN W (1 * 2 ^ n))) := fun W v h => up2_any v 1 n W h (big_of (k := 1) (by decide) (by decide)) (by omega)
  have MK : Hid (∀ (W : World) (x v : Value), IsI W x a → IsN W v (1 * 2 ^ n) → Calls Try.prog 41 #[x, v] W (SomeR W p q)) := fun W x v h k => by rw [hp, hq]; exact make_any x v _ _ W h k h5 h6 h7
  have NR := Lib.hid (And.intro h3 (And.intro h4 (And.intro h2 h1)))
  clear ha hn gm hp hq h1 h2 h3 h4 h5 h6 h7
  generalize rd a (2 ^ n) = z at *
  generalize 1 * 2 ^ n = D at *
  go_enter Try.func20, Try.ntmps20
  go_wp2_with (first | (go_at_call 60; (with_reducible refine (RI.out _).mono ?_); rintro e w3 ⟨vn, rfl, hv, hb3⟩; have q3 := hb3.size; (try simp at q3); obtain ⟨bn, on, ln, cn, rfl, Hn⟩ := hv.open; clear hv) | (go_at_call 43; (with_reducible refine (N1.out _).mono ?_); rintro e w4 ⟨vo, rfl, ho, hb4⟩; have q4 := hb4.size; (try simp at q4)) | (go_at_call 42; (with_reducible refine (U2.out _ _ (ho.below (by repeat (first | exact Below.refl _ _ | assumption | apply Below.drew | refine Below.setCell ?_ (by first | omega | (simp; done) | (simp; omega)) _ | refine Below.alloc ?_ (by first | omega | (simp; done) | (simp; omega)) _)))).mono ?_); rintro e w5 ⟨vu, rfl, hu, hb5⟩; have q5 := hb5.size; (try simp at q5)) | (go_at_call 41; (with_reducible refine (MK.out _ _ _ ((IsI.mk Hn.out.1 Hn.out.2.1).below (by repeat (first | exact Below.refl _ _ | assumption | apply Below.drew | refine Below.setCell ?_ (by first | omega | (simp; done) | (simp; omega)) _ | refine Below.alloc ?_ (by first | omega | (simp; done) | (simp; omega)) _ | refine Below.trans ?_ (hb5.mono (by first | omega | (simp; done) | (simp; omega))) | refine Below.trans ?_ (hb4.mono (by first | omega | (simp; done) | (simp; omega)))))) (hu.below (by repeat (first | exact Below.refl _ _ | assumption | apply Below.drew | refine Below.setCell ?_ (by first | omega | (simp; done) | (simp; omega)) _ | refine Below.alloc ?_ (by first | omega | (simp; done) | (simp; omega)) _)))).mono ?_); rintro e w6 ⟨bv, o1, l1, c1, o2, l2, c2, rfl, hv, hb6⟩; have q6 := hb6.size; (try simp at q6)) | (go_at_call 58; (with_reducible refine (r2near_any _ _ _ _ _ _ _ p q z _ ⟨hv.out.1, hv.out.2.1.below (by repeat (first | exact Below.refl _ _ | assumption | apply Below.drew | refine Below.setCell ?_ (by first | omega | (simp; done) | (simp; omega)) _ | refine Below.alloc ?_ (by first | omega | (simp; done) | (simp; omega)) _)), hv.out.2.2.below (by repeat (first | exact Below.refl _ _ | assumption | apply Below.drew | refine Below.setCell ?_ (by first | omega | (simp; done) | (simp; omega)) _ | refine Below.alloc ?_ (by first | omega | (simp; done) | (simp; omega)) _))⟩ NR.out.1 NR.out.2.1 NR.out.2.2.1 NR.out.2.2.2).mono ?_); rintro e w7 ⟨rfl, hb7⟩; have q7 := hb7.size; (try simp at q7)))
  go_ret2
  refine ⟨rfl, ?_⟩
  repeat (first | exact Below.refl _ _ | assumption | apply Below.drew | refine Below.setCell ?_ (by first | omega | (simp; done) | (simp; omega)) _ | refine Below.alloc ?_ (by first | omega | (simp; done) | (simp; omega)) _ | refine Below.trans ?_ (hb7.mono (by first | omega | (simp; done) | (simp; omega))) | refine Below.trans ?_ (hb6.mono (by first | omega | (simp; done) | (simp; omega))) | refine Below.trans ?_ (hb5.mono (by first | omega | (simp; done) | (simp; omega))) | refine Below.trans ?_ (hb4.mono (by first | omega | (simp; done) | (simp; omega))) | refine Below.trans ?_ (hb3.mono (by first | omega | (simp; done) | (simp; omega))))
set_option maxRecDepth 100000 in
set_option maxHeartbeats 8000000 in
theorem r2over_any (x y : Value) (a b p : Int) (q : Nat) (f : Nat) (w : World) (ha : IsI w x a) (hb : IsI w y b) (ga : a.natAbs < BIG) (hf : f ≤ 32) (RC : ∀ (W : World) (x y : Value), IsI W x (a * 2 ^ f) → IsI W y b → Calls Try.prog 93 #[x, y] W (SomeR W p q)) : Calls Try.prog 59 #[x, y, .int .i64 f] w (SomeR w p q) := by
  obtain ⟨bn, on, ln, cn, rfl, Hn⟩ := ha.open
  obtain ⟨bd, od, ld, cd, rfl, Hd⟩ := hb.open
  have RC := Lib.hid RC
  have LC := Lib.hid (fun W v h => ileft_any v a f W h ga (by omega))
  clear ha hb ga hf
  generalize a * 2 ^ f = m at *
  go_enter Try.func59, Try.ntmps59
  go_wp2
  go_region_held3 (fun w' => w'.cell? ⟨w.heap.size, 0, none⟩ = some (.bool bn) ∧ w'.cell? ⟨w.heap.size, 1, none⟩ = some (Value.slice on ln cn) ∧ w'.cell? ⟨w.heap.size + 1, 0, none⟩ = some (.bool bd) ∧ w'.cell? ⟨w.heap.size + 1, 1, none⟩ = some (Value.slice od ld cd)) (first | (simp [go_sem, *]; done) | (simp [go_sem, World.cell?_alloc_some, *]; done)) (first | (go_at_call 34; (with_reducible refine (LC.out _ _ ((IsI.mk Hn.out.1 Hn.out.2.1).below (by repeat (first | exact Below.refl _ _ | assumption | apply Below.drew | refine Below.setCell ?_ (by first | omega | (simp; done) | (simp; omega)) _ | refine Below.alloc ?_ (by first | omega | (simp; done) | (simp; omega)) _)))).mono ?_); rintro e w1 ⟨vl, rfl, hv, hb1⟩; have e10 : w1.cell? ⟨w.heap.size, 0, none⟩ = some (.bool bn) := cell_on hb1 (by first | (simp [go_sem, *]; done) | (simp [go_sem, World.cell?_alloc_some, *]; done) | fail); have e11 : w1.cell? ⟨w.heap.size, 1, none⟩ = some (Value.slice on ln cn) := cell_on hb1 (by first | (simp [go_sem, *]; done) | (simp [go_sem, World.cell?_alloc_some, *]; done) | fail); have e12 : w1.cell? ⟨w.heap.size + 1, 0, none⟩ = some (.bool bd) := cell_on hb1 (by first | (simp [go_sem, *]; done) | (simp [go_sem, World.cell?_alloc_some, *]; done) | fail); have e13 : w1.cell? ⟨w.heap.size + 1, 1, none⟩ = some (Value.slice od ld cd) := cell_on hb1 (by first | (simp [go_sem, *]; done) | (simp [go_sem, World.cell?_alloc_some, *]; done) | fail); have e14 : w1.cell? ⟨w.heap.size + 1 + 1, 0, none⟩ = some (.bool false) := cell_on hb1 (by first | (simp [go_sem, *]; done) | (simp [go_sem, World.cell?_alloc_some, *]; done) | fail); have e15 : w1.cell? ⟨w.heap.size + 1 + 1, 1, none⟩ = some (.slice none 0 0) := cell_on hb1 (by first | (simp [go_sem, *]; done) | (simp [go_sem, World.cell?_alloc_some, *]; done) | fail); have e16 : w1.cell? ⟨w.heap.size + 1 + 1, 2, none⟩ = some (.slice none 0 0) := cell_on hb1 (by first | (simp [go_sem, *]; done) | (simp [go_sem, World.cell?_alloc_some, *]; done) | fail); have s10 : w.heap.size < w1.heap.size := World.block_lt_of_cell? _ _ e10; have t10 : w.heap.size < w1.heap.size + 1 := Nat.lt_succ_of_lt s10; have s12 : w.heap.size + 1 < w1.heap.size := World.block_lt_of_cell? _ _ e12; have t12 : w.heap.size + 1 < w1.heap.size + 1 := Nat.lt_succ_of_lt s12; have s14 : w.heap.size + 1 + 1 < w1.heap.size := World.block_lt_of_cell? _ _ e14; have t14 : w.heap.size + 1 + 1 < w1.heap.size + 1 := Nat.lt_succ_of_lt s14; have y14 : w1.frozen? ⟨w.heap.size + 1 + 1, 0, none⟩ = false := frozen_on hb1 (v := .bool false) (by first | (simp [go_sem, *]; done) | (simp [go_sem, World.cell?_alloc_some, *]; done) | fail) (by first | (simp [go_sem, *]; done) | (simp [go_sem, frozen?_alloc_cells, *]; done) | fail); have y15 : w1.frozen? ⟨w.heap.size + 1 + 1, 1, none⟩ = false := frozen_on hb1 (v := .slice none 0 0) (by first | (simp [go_sem, *]; done) | (simp [go_sem, World.cell?_alloc_some, *]; done) | fail) (by first | (simp [go_sem, *]; done) | (simp [go_sem, frozen?_alloc_cells, *]; done) | fail); have y16 : w1.frozen? ⟨w.heap.size + 1 + 1, 2, none⟩ = false := frozen_on hb1 (v := .slice none 0 0) (by first | (simp [go_sem, *]; done) | (simp [go_sem, World.cell?_alloc_some, *]; done) | fail) (by first | (simp [go_sem, *]; done) | (simp [go_sem, frozen?_alloc_cells, *]; done) | fail); have q1 := hb1.size; (try simp at q1); obtain ⟨bl, ol, ll, cl, rfl, Hl⟩ := hv.open; clear hv) | (go_at_call 93; (with_reducible refine (RC.out _ _ _ ((IsI.mk Hl.out.1 Hl.out.2.1).below (by repeat (first | exact Below.refl _ _ | assumption | apply Below.drew | refine Below.setCell ?_ (by first | omega | (simp; done) | (simp; omega)) _ | refine Below.alloc ?_ (by first | omega | (simp; done) | (simp; omega)) _))) ((IsI.mk Hd.out.1 Hd.out.2.1).below (by repeat (first | exact Below.refl _ _ | assumption | apply Below.drew | refine Below.setCell ?_ (by first | omega | (simp; done) | (simp; omega)) _ | refine Below.alloc ?_ (by first | omega | (simp; done) | (simp; omega)) _ | refine Below.trans ?_ (hb1.mono (by first | omega | (simp; done) | (simp; omega))))))).mono ?_); rintro e w2 ⟨bv, o1, l1, c1, o2, l2, c2, rfl, hv, hb2⟩; have e20 : w2.cell? ⟨w.heap.size, 0, none⟩ = some (.bool bn) := cell_on hb2 (by first | (simp [go_sem, *]; done) | (simp [go_sem, World.cell?_alloc_some, *]; done) | fail); have e21 : w2.cell? ⟨w.heap.size, 1, none⟩ = some (Value.slice on ln cn) := cell_on hb2 (by first | (simp [go_sem, *]; done) | (simp [go_sem, World.cell?_alloc_some, *]; done) | fail); have e22 : w2.cell? ⟨w.heap.size + 1, 0, none⟩ = some (.bool bd) := cell_on hb2 (by first | (simp [go_sem, *]; done) | (simp [go_sem, World.cell?_alloc_some, *]; done) | fail); have e23 : w2.cell? ⟨w.heap.size + 1, 1, none⟩ = some (Value.slice od ld cd) := cell_on hb2 (by first | (simp [go_sem, *]; done) | (simp [go_sem, World.cell?_alloc_some, *]; done) | fail); have e24 : w2.cell? ⟨w.heap.size + 1 + 1, 0, none⟩ = some (.bool false) := cell_on hb2 (by first | (simp [go_sem, *]; done) | (simp [go_sem, World.cell?_alloc_some, *]; done) | fail); have e25 : w2.cell? ⟨w.heap.size + 1 + 1, 1, none⟩ = some (.slice none 0 0) := cell_on hb2 (by first | (simp [go_sem, *]; done) | (simp [go_sem, World.cell?_alloc_some, *]; done) | fail); have e26 : w2.cell? ⟨w.heap.size + 1 + 1, 2, none⟩ = some (.slice none 0 0) := cell_on hb2 (by first | (simp [go_sem, *]; done) | (simp [go_sem, World.cell?_alloc_some, *]; done) | fail); have s20 : w.heap.size < w2.heap.size := World.block_lt_of_cell? _ _ e20; have t20 : w.heap.size < w2.heap.size + 1 := Nat.lt_succ_of_lt s20; have s22 : w.heap.size + 1 < w2.heap.size := World.block_lt_of_cell? _ _ e22; have t22 : w.heap.size + 1 < w2.heap.size + 1 := Nat.lt_succ_of_lt s22; have s24 : w.heap.size + 1 + 1 < w2.heap.size := World.block_lt_of_cell? _ _ e24; have t24 : w.heap.size + 1 + 1 < w2.heap.size + 1 := Nat.lt_succ_of_lt s24; have y24 : w2.frozen? ⟨w.heap.size + 1 + 1, 0, none⟩ = false := frozen_on hb2 (v := .bool false) (by first | (simp [go_sem, *]; done) | (simp [go_sem, World.cell?_alloc_some, *]; done) | fail) (by first | (simp [go_sem, *]; done) | (simp [go_sem, frozen?_alloc_cells, *]; done) | fail); have y25 : w2.frozen? ⟨w.heap.size + 1 + 1, 1, none⟩ = false := frozen_on hb2 (v := .slice none 0 0) (by first | (simp [go_sem, *]; done) | (simp [go_sem, World.cell?_alloc_some, *]; done) | fail) (by first | (simp [go_sem, *]; done) | (simp [go_sem, frozen?_alloc_cells, *]; done) | fail); have y26 : w2.frozen? ⟨w.heap.size + 1 + 1, 2, none⟩ = false := frozen_on hb2 (v := .slice none 0 0) (by first | (simp [go_sem, *]; done) | (simp [go_sem, World.cell?_alloc_some, *]; done) | fail) (by first | (simp [go_sem, *]; done) | (simp [go_sem, frozen?_alloc_cells, *]; done) | fail); have q2 := hb2.size; (try simp at q2)))
  all_goals
    go_wp2_with fail
    refine bodyPost_ret (v := .agg #[.bool bv, .slice o1 l1 c1, .slice o2 l2 c2]) (by simp [results, Try.results59, go_sem, *]) rfl ⟨bv, o1, l1, c1, o2, l2, c2, rfl, ⟨hv.out.1, IsN.store3 hv.out.2.1 e24 e25 e26, IsN.store3 hv.out.2.2 e24 e25 e26⟩, ?_⟩
    repeat (first | exact Below.refl _ _ | assumption | apply Below.drew | refine Below.setCell ?_ (by first | omega | (simp; done) | (simp; omega)) _ | refine Below.alloc ?_ (by first | omega | (simp; done) | (simp; omega)) _ | refine Below.trans ?_ (hb2.mono (by first | omega | (simp; done) | (simp; omega))) | refine Below.trans ?_ (hb1.mono (by first | omega | (simp; done) | (simp; omega))))
set_option maxRecDepth 100000 in
set_option maxHeartbeats 8000000 in
theorem r2div_zero (a b f : Int) (w : World) (h0 : b = 0) : Calls Try.prog 19 #[.int .i64 a, .int .i64 b, .int .i64 f] w fun e w' => e = .returned (.tuple #[.int .i64 (0), .int .i64 (4)]) ∧ Below w.heap.size w w' := by
  go_enter Try.func19, Try.ntmps19
  go_wp2
  go_ret2
  refine ⟨rfl, ?_⟩
  repeat (first | exact Below.refl _ _ | assumption | apply Below.drew | refine Below.setCell ?_ (by first | omega | (simp; done) | (simp; omega)) _ | refine Below.alloc ?_ (by first | omega | (simp; done) | (simp; omega)) _)
set_option maxRecDepth 100000 in
set_option maxHeartbeats 8000000 in
theorem r2div_any (a b : Int) (f : Nat) (w : World) (a0 : -9223372036854775808 ≤ a) (a1 : a ≤ 9223372036854775807) (b0 : -9223372036854775808 ≤ b) (b1 : b ≤ 9223372036854775807) (hf : f ≤ 32) (h0 : b ≠ 0) : Calls Try.prog 19 #[.int .i64 a, .int .i64 b, .int .i64 f] w fun e w' => e = .returned (.tuple #[.int .i64 (tw (rd (a * 2 ^ f) b)), .int .i64 (te (rd (a * 2 ^ f) b))]) ∧ Below w.heap.size w w' := by
  have FA := Lib.hid (fun W : World => ifrom_any a W a0 a1)
  have FB := Lib.hid (fun W : World => ifrom_any b W b0 b1)
  have ga : a.natAbs < BIG := big_of (k := 64) (by omega) (by decide)
  have p2 : (2 ^ f : Int).natAbs < 2 ^ 33 := by
    have p0 : (0 : Int) < 2 ^ f := Int.pow_pos (by decide)
    have p1 : (2 : Int) ^ f ≤ 2 ^ 32 := by have := Nat.pow_le_pow_right (show 0 < 2 by decide) hf; exact_mod_cast this
    omega
  have gm : (a * 2 ^ f).natAbs < 2 ^ (64 + 33) := by rw [Int.natAbs_mul, Nat.pow_add]; exact Nat.mul_lt_mul'' (by omega) p2
  have gA : (a * 2 ^ f).natAbs < LOW := low_of gm (by decide)
  have gB : b.natAbs < LOW := low_of (k := 64) (by omega) (by decide)
  have NI := near_is (a * 2 ^ f) h0
  have NL := near_low gA gB
  have RC := fun W x y h k => refrat_any x y (a * 2 ^ f) b W h k (low_big gA).2.2.2.1 (low_big gB).2.2.2.1 h0
  generalize rd (a * 2 ^ f) b = z at *
  generalize (if b < 0 then -(a * 2 ^ f) else a * 2 ^ f).tdiv (Nat.gcd (if b < 0 then -(a * 2 ^ f) else a * 2 ^ f).natAbs b.natAbs : Nat) = p at *
  generalize b.natAbs / Nat.gcd (if b < 0 then -(a * 2 ^ f) else a * 2 ^ f).natAbs b.natAbs = q at *
  have OC := Lib.hid (fun W x y h k => r2over_any x y a b p q f W h k ga hf RC)
  have NR := Lib.hid (And.intro NL.1 (And.intro NL.2 (And.intro NI.2 NI.1)))
  have bz : ¬ b = 0 := h0
  clear NI NL RC gA gB gm p2 ga a0 a1 b0 b1 h0
  go_enter Try.func19, Try.ntmps19
  go_wp2_with (first | (go_at_call 33; have _g := hb1; (with_reducible refine (FB.out _).mono ?_); rintro e w2 ⟨vg, rfl, hv, hb2⟩; have q2 := hb2.size; (try simp at q2); obtain ⟨bg, og, lg, cg, rfl, Hg⟩ := hv.open; clear hv) | (go_at_call 33; (with_reducible refine (FA.out _).mono ?_); rintro e w1 ⟨vf, rfl, hv, hb1⟩; have q1 := hb1.size; (try simp at q1); obtain ⟨bf, of, lf, cf, rfl, Hf⟩ := hv.open; clear hv) | (go_at_call 59; (with_reducible refine (OC.out _ _ _ ((IsI.mk Hf.out.1 Hf.out.2.1).below (by repeat (first | exact Below.refl _ _ | assumption | apply Below.drew | refine Below.setCell ?_ (by first | omega | (simp; done) | (simp; omega)) _ | refine Below.alloc ?_ (by first | omega | (simp; done) | (simp; omega)) _ | refine Below.trans ?_ (hb2.mono (by first | omega | (simp; done) | (simp; omega)))))) ((IsI.mk Hg.out.1 Hg.out.2.1).below (by repeat (first | exact Below.refl _ _ | assumption | apply Below.drew | refine Below.setCell ?_ (by first | omega | (simp; done) | (simp; omega)) _ | refine Below.alloc ?_ (by first | omega | (simp; done) | (simp; omega)) _)))).mono ?_); rintro e w3 ⟨bv, o1, l1, c1, o2, l2, c2, rfl, hv, hb3⟩; have q3 := hb3.size; (try simp at q3)) | (go_at_call 58; (with_reducible refine (r2near_any _ _ _ _ _ _ _ p q z _ ⟨hv.out.1, hv.out.2.1.below (by repeat (first | exact Below.refl _ _ | assumption | apply Below.drew | refine Below.setCell ?_ (by first | omega | (simp; done) | (simp; omega)) _ | refine Below.alloc ?_ (by first | omega | (simp; done) | (simp; omega)) _)), hv.out.2.2.below (by repeat (first | exact Below.refl _ _ | assumption | apply Below.drew | refine Below.setCell ?_ (by first | omega | (simp; done) | (simp; omega)) _ | refine Below.alloc ?_ (by first | omega | (simp; done) | (simp; omega)) _))⟩ NR.out.1 NR.out.2.1 NR.out.2.2.1 NR.out.2.2.2).mono ?_); rintro e w7 ⟨rfl, hb7⟩; have q7 := hb7.size; (try simp at q7)))
  go_ret2
  refine ⟨rfl, ?_⟩
  repeat (first | exact Below.refl _ _ | assumption | apply Below.drew | refine Below.setCell ?_ (by first | omega | (simp; done) | (simp; omega)) _ | refine Below.alloc ?_ (by first | omega | (simp; done) | (simp; omega)) _ | refine Below.trans ?_ (hb7.mono (by first | omega | (simp; done) | (simp; omega))) | refine Below.trans ?_ (hb3.mono (by first | omega | (simp; done) | (simp; omega))) | refine Below.trans ?_ (hb2.mono (by first | omega | (simp; done) | (simp; omega))) | refine Below.trans ?_ (hb1.mono (by first | omega | (simp; done) | (simp; omega))))
theorem p8_on {W W' : World} {B : Nat} {p : Fl} (hb : Below W.heap.size W W') (h : W.cell? ⟨B, 0, none⟩ = some (.int .i64 p.a) ∧ W.cell? ⟨B, 1, none⟩ = some (.int .i64 p.b) ∧ W.cell? ⟨B, 2, none⟩ = some (.int .i64 p.f) ∧ W.cell? ⟨B, 3, none⟩ = some (.int .i64 p.n) ∧ W.cell? ⟨B, 4, none⟩ = some (.int .i64 p.d) ∧ W.cell? ⟨B, 5, none⟩ = some (.int .i64 (hi p.v)) ∧ W.cell? ⟨B, 6, none⟩ = some (.int .u64 (lo p.v)) ∧ W.cell? ⟨B, 7, none⟩ = some (.int .i64 p.k)) : W'.cell? ⟨B, 0, none⟩ = some (.int .i64 p.a) ∧ W'.cell? ⟨B, 1, none⟩ = some (.int .i64 p.b) ∧ W'.cell? ⟨B, 2, none⟩ = some (.int .i64 p.f) ∧ W'.cell? ⟨B, 3, none⟩ = some (.int .i64 p.n) ∧ W'.cell? ⟨B, 4, none⟩ = some (.int .i64 p.d) ∧ W'.cell? ⟨B, 5, none⟩ = some (.int .i64 (hi p.v)) ∧ W'.cell? ⟨B, 6, none⟩ = some (.int .u64 (lo p.v)) ∧ W'.cell? ⟨B, 7, none⟩ = some (.int .i64 p.k) :=
  ⟨cell_on hb h.1, cell_on hb h.2.1, cell_on hb h.2.2.1, cell_on hb h.2.2.2.1, cell_on hb h.2.2.2.2.1, cell_on hb h.2.2.2.2.2.1, cell_on hb h.2.2.2.2.2.2.1, cell_on hb h.2.2.2.2.2.2.2⟩
theorem fx_pairs (a b f : Int) (ga : wd a = true) (gb : wd b = true) (gf : fb f = true) : ∃ m me d de : Int, (∀ W : World, Calls Try.prog 18 #[.int .i64 a, .int .i64 b, .int .i64 f] W fun e w' => e = .returned (.tuple #[.int .i64 m, .int .i64 me]) ∧ Below W.heap.size W w') ∧ (∀ W : World, Calls Try.prog 25 #[.int .i64 a, .int .i64 b, .int .i64 f] W fun e w' => e = .returned (.tuple #[.int .i64 m, .int .i64 me]) ∧ Below W.heap.size W w') ∧ (∀ W : World, Calls Try.prog 19 #[.int .i64 a, .int .i64 b, .int .i64 f] W fun e w' => e = .returned (.tuple #[.int .i64 d, .int .i64 de]) ∧ Below W.heap.size W w') ∧ (∀ W : World, Calls Try.prog 26 #[.int .i64 a, .int .i64 b, .int .i64 f] W fun e w' => e = .returned (.tuple #[.int .i64 d, .int .i64 de]) ∧ Below W.heap.size W w') := by
  have hf := fb_bd gf
  obtain ⟨n, rfl⟩ := Int.eq_ofNat_of_zero_le (show 0 ≤ f by omega)
  have A := wd_bd ga
  have B := wd_bd gb
  by_cases h : b = 0
  · exact ⟨_, _, 0, 4, fun W => r2mul_any a b n W ga gb (by omega), fun W => fxmul_any a b n W ga gb gf, fun W => r2div_zero a b n W h, fun W => fxdiv_zero a b n W ga gb gf h⟩
  · exact ⟨_, _, _, _, fun W => r2mul_any a b n W ga gb (by omega), fun W => fxmul_any a b n W ga gb gf, fun W => r2div_any a b n W (by omega) (by omega) (by omega) (by omega) (by omega) h, fun W => fxdiv_any a b n W ga gb gf h⟩
theorem ratio_pair (n d f : Int) (hn : -9223372036854775808 ≤ n ∧ n ≤ 9223372036854775807) (hd : -9223372036854775808 ≤ d ∧ d ≤ 9223372036854775807) (gf : fb f = true) : ∃ v g : Int, (∀ W : World, Calls Try.prog 19 #[.int .i64 n, .int .i64 d, .int .i64 f] W fun e w' => e = .returned (.tuple #[.int .i64 v, .int .i64 g]) ∧ Below W.heap.size W w') ∧ (∀ W : World, Calls Try.prog 27 #[.int .i64 n, .int .i64 d, .int .i64 f] W fun e w' => e = .returned (.tuple #[.int .i64 v, .int .i64 g]) ∧ Below W.heap.size W w') := by
  have hf := fb_bd gf
  obtain ⟨m, rfl⟩ := Int.eq_ofNat_of_zero_le (show 0 ≤ f by omega)
  by_cases h : d = 0
  · exact ⟨0, 4, fun W => r2div_zero n d m W h, fun W => ratio_zero n d m W hn.1 hn.2 gf h⟩
  · exact ⟨_, _, fun W => r2div_any n d m W hn.1 hn.2 hd.1 hd.2 (by omega) h, fun W => ratio_any n d m W hn.1 hn.2 hd.1 hd.2 gf h⟩
theorem close_pair (v k : Int) (hv : R v) : ∃ c g : Int, (((k < 0 ∨ 126 < k) ∧ c = 0 ∧ g = 1) ∨ (0 ≤ k ∧ k ≤ 126 ∧ (∀ W : World, Calls Try.prog 20 #[Wv v, .int .i64 k] W fun e w' => e = .returned (.tuple #[.int .i64 c, .int .i64 g]) ∧ Below W.heap.size W w'))) ∧ (∀ W : World, Calls Try.prog 28 #[Wv v, .int .i64 k] W fun e w' => e = .returned (.tuple #[.int .i64 c, .int .i64 g]) ∧ Below W.heap.size W w') := by
  by_cases h : k < 0 ∨ 126 < k
  · exact ⟨0, 1, .inl ⟨h, rfl, rfl⟩, fun W => close_form v k W h⟩
  · obtain ⟨n, rfl⟩ := Int.eq_ofNat_of_zero_le (show 0 ≤ k by omega)
    exact ⟨_, _, .inr ⟨by omega, by omega, fun W => r2close_any v n W hv (by omega)⟩, fun W => close_any v n W hv (by omega)⟩
theorem is2_any (v g : Int) (w : World) : Calls Try.prog 22 #[.int .i64 v, .int .i64 g, .int .i64 v, .int .i64 g] w fun e w' => e = .returned (.bool true) ∧ w = w' := by
  go_enter Try.func22, Try.ntmps22
  go_wp2_with (go_at_call 12; (with_reducible refine (num2_any _ _).mono ?_); rintro e w' ⟨rfl, rfl⟩)
  go_ret
  exact ⟨rfl, rfl⟩
end Go.Proofs.Ytdbgooobbemklaa
namespace Go.Proofs.Ytdbgooobbemklaa
open Go.RowKit

theorem lowest_g (m : Int) {d : Nat} (hd : d ≠ 0) : ∃ g : Nat, g = Nat.gcd m.natAbs d ∧ 0 < g ∧ m.tdiv (g : Int) * g = m ∧ d / g * g = d := by
  refine ⟨_, rfl, Nat.gcd_pos_of_pos_right _ (by omega), ?_, Nat.div_mul_cancel (Nat.gcd_dvd_right _ _)⟩
  exact Int.tdiv_mul_cancel (Int.ofNat_dvd_left.mpr (Nat.gcd_dvd_left _ _))
theorem half_low {m : Int} {d : Nat} {a : Int} {c : Nat} (hd : d ≠ 0) (h : 2 * (m.natAbs) ≤ d) (ha : a = m.tdiv (Nat.gcd m.natAbs d : Nat)) (hc : c = d / Nat.gcd m.natAbs d) : 2 * a.natAbs ≤ c ∧ c ≠ 0 ∧ a.natAbs ≤ m.natAbs ∧ c ≤ d := by
  obtain ⟨g, hg, g0, e1, e2⟩ := lowest_g m hd
  rw [← hg] at ha hc
  rw [← ha] at e1
  rw [← hc] at e2
  have e3 : a.natAbs * g = m.natAbs := by rw [← e1, Int.natAbs_mul]; simp
  have k : (2 * a.natAbs) * g ≤ c * g := by rw [Nat.mul_assoc]; omega
  refine ⟨Nat.le_of_mul_le_mul_right k g0, ?_, ?_, ?_⟩
  · rintro rfl; omega
  · rw [← e3]; exact Nat.le_mul_of_pos_right _ g0
  · rw [← e2]; exact Nat.le_mul_of_pos_right _ g0
theorem pow_odd : ∀ (n : Nat) (m : Nat), m % 2 = 1 → m ∣ 2 ^ n → m = 1
  | 0, m, _, h => by simpa using h
  | n + 1, m, hm, h => by
    rw [Nat.pow_succ] at h
    have c : Nat.Coprime m 2 := by unfold Nat.Coprime; rw [Nat.gcd_comm, Nat.gcd_rec, hm]; rfl
    exact pow_odd n m hm (Nat.Coprime.dvd_of_dvd_mul_right c h)
theorem odd_gcd2 {m : Int} (h : m % 2 = 1) : Nat.gcd m.natAbs 2 = 1 := by
  rw [Nat.gcd_comm, Nat.gcd_rec, show m.natAbs % 2 = 1 by omega]; rfl
theorem odd_gcd4 {m : Int} (h : m % 2 = 1) : Nat.gcd m.natAbs 4 = 1 := by
  rw [Nat.gcd_comm, Nat.gcd_rec]
  rcases (show m.natAbs % 4 = 1 ∨ m.natAbs % 4 = 3 by omega) with g | g <;> rw [g] <;> rfl
theorem odd_make {m : Int} (h : m % 2 = 1) : m = m.tdiv (Nat.gcd m.natAbs 2 : Nat) ∧ 2 = 2 / Nat.gcd m.natAbs 2 := by
  rw [odd_gcd2 h]
  exact ⟨by simp, rfl⟩
theorem odd_sq {m : Int} (h : m % 2 = 1) : (m * m) % 2 = 1 := by
  rw [Int.mul_emod, h]; rfl
theorem rsq_facts {a M N x : Int} {k : Nat} (ha : 0 < a) (hM : M = 2 ^ k) (hN : N = 4 * M) (c1 : N ≤ x * a) (c2 : (x - 1) * a < N) : ∃ (P : Int) (Q : Nat), P = M.tdiv (Nat.gcd M.natAbs a.natAbs : Nat) ∧ Q = a.natAbs / Nat.gcd M.natAbs a.natAbs ∧ 0 ≤ P ∧ Q ≠ 0 ∧ (x - 1) * Q < 4 * P ∧ 4 * P ≤ x * Q ∧ (∀ j : Int, 0 ≤ j → (2 * j + 1) * (2 * j + 1) * Q = P * 4 → j = 0) ∧ P.natAbs ≤ M.natAbs ∧ Q ≤ a.natAbs := by
  have p0 : 0 < M := by rw [hM]; exact Int.pow_pos (by decide)
  obtain ⟨g, hg, g0, e1, e2⟩ := lowest_g M (d := a.natAbs) (by omega)
  rw [← hg]
  generalize M.tdiv (g : Int) = P at *
  generalize a.natAbs / g = Q at *
  have e2 : (Q : Int) * g = a := by have : ((Q * g : Nat) : Int) = (a.natAbs : Int) := by rw [e2]
                                    rw [Int.natCast_mul] at this; omega
  have g1 : (0 : Int) < g := by omega
  have P0 : 0 ≤ P := by
    rcases Int.lt_or_le P 0 with h | h
    · have := Int.mul_neg_of_neg_of_pos h g1; omega
    · exact h
  have Q0 : Q ≠ 0 := by rintro rfl; simp at e2; omega
  refine ⟨P, Q, rfl, rfl, P0, Q0, ?_, ?_, ?_, ?_, ?_⟩
  · refine Int.lt_of_mul_lt_mul_right (a := g) ?_ (by omega)
    rw [Int.mul_assoc, e2, Int.mul_assoc, e1]; omega
  · refine Int.le_of_mul_le_mul_right (a := g) ?_ g1
    rw [Int.mul_assoc, e1, Int.mul_assoc, e2]; omega
  · intro j j0 h
    have h2 : (2 * j + 1) * (2 * j + 1) * a = 2 ^ (k + 2) := by
      rw [← e2, ← Int.mul_assoc, h, Int.mul_right_comm, e1, hM, Int.pow_add]; rfl
    have d : (2 * j + 1) ∣ (2 : Int) ^ (k + 2) := ⟨(2 * j + 1) * a, by rw [← h2, Int.mul_assoc]⟩
    have d2 : (2 * j + 1).natAbs ∣ 2 ^ (k + 2) := by have := Int.natAbs_dvd_natAbs.mpr d; rwa [Int.natAbs_pow] at this
    have := pow_odd _ _ (by omega) d2
    omega
  · have : M.natAbs = P.natAbs * g := by rw [← e1, Int.natAbs_mul]; simp
    rw [this]; exact Nat.le_mul_of_pos_right _ g0
  · have : a.natAbs = Q * g := by omega
    rw [this]; exact Nat.le_mul_of_pos_right _ g0
theorem odd_make4 {m : Int} (h : m % 2 = 1) : m = m.tdiv (Nat.gcd m.natAbs 4 : Nat) ∧ 4 = 4 / Nat.gcd m.natAbs 4 := by
  rw [odd_gcd4 h]
  exact ⟨by simp, rfl⟩
/-- P over Q's root, rounded down, lies where? -/
theorem rt_quo {P Q s : Int} (hQ : 0 < Q) (hs : Rt (P / Q) s) : s * s * Q ≤ P ∧ P < (s + 1) * (s + 1) * Q := by
  obtain ⟨s0, s1, s2⟩ := hs
  have e := Int.mul_ediv_add_emod P Q
  have r0 := Int.emod_nonneg P (show Q ≠ 0 by omega)
  have r1 := Int.emod_lt_of_pos P hQ
  have a := Int.mul_le_mul_of_nonneg_right s1 (show 0 ≤ Q by omega)
  have b := Int.mul_le_mul_of_nonneg_right (show P / Q + 1 ≤ (s + 1) * (s + 1) by omega) (show 0 ≤ Q by omega)
  rw [Int.add_mul, Int.one_mul, Int.mul_comm (P / Q) Q] at b
  rw [Int.mul_comm (P / Q) Q] at a
  exact ⟨by omega, by omega⟩
/-- The half below the root: one more. -/
theorem near_up {P Q x s : Int} (hQ : 0 < Q) (h1 : (x - 1) * Q < 4 * P) (h2 : 4 * P ≤ x * Q) (hs : Rt (P / Q) s) (g : (2 * s + 1) * (2 * s + 1) * Q < P * 4) : Nr x (s + 1) := by
  obtain ⟨a, b⟩ := rt_quo hQ hs
  obtain ⟨s0, _, _⟩ := hs
  refine ⟨by omega, ?_, fun _ => ?_⟩
  · have k : (x - 1) * Q < (2 * (s + 1)) * (2 * (s + 1)) * Q := by
      have e : (2 * (s + 1)) * (2 * (s + 1)) * Q = 4 * ((s + 1) * (s + 1) * Q) := by
        generalize s + 1 = t
        rw [Int.mul_assoc 2 t, Int.mul_left_comm t 2 t, ← Int.mul_assoc, Int.mul_assoc]; omega
      omega
    have k2 := Int.lt_of_mul_lt_mul_right k (show 0 ≤ Q by omega)
    have := sq_mono (a := 2 * (s + 1)) (b := 2 * (s + 1) + 1) (by omega) (by omega)
    omega
  · have k : (2 * s + 1) * (2 * s + 1) * Q < x * Q := by omega
    have k2 := Int.lt_of_mul_lt_mul_right k (show 0 ≤ Q by omega)
    rw [show 2 * (s + 1) - 1 = 2 * s + 1 by omega]
    exact k2
/-- The half not below the root: it stays. -/
theorem near_stay {P Q x s : Int} (hQ : 0 < Q) (h1 : (x - 1) * Q < 4 * P) (h2 : 4 * P ≤ x * Q) (hs : Rt (P / Q) s) (g : P * 4 ≤ (2 * s + 1) * (2 * s + 1) * Q) : Nr x s := by
  obtain ⟨a, b⟩ := rt_quo hQ hs
  obtain ⟨s0, _, _⟩ := hs
  refine ⟨s0, ?_, fun g0 => ?_⟩
  · have k : (x - 1) * Q < (2 * s + 1) * (2 * s + 1) * Q := by omega
    have k2 := Int.lt_of_mul_lt_mul_right k (show 0 ≤ Q by omega)
    omega
  · have e : (2 * s) * (2 * s) * Q = 4 * (s * s * Q) := by
      rw [Int.mul_assoc 2 s, Int.mul_left_comm s 2 s, ← Int.mul_assoc, Int.mul_assoc]; omega
    have k : (2 * s) * (2 * s) * Q ≤ x * Q := by omega
    have k2 := Int.le_of_mul_le_mul_right k hQ
    have := sq_succ (2 * s - 1)
    rw [show 2 * s - 1 + 1 = 2 * s by omega] at this
    omega
/-- No half is a whole number's root. -/
theorem no_tie {P k : Int} : ¬ (2 * k + 1) * (2 * k + 1) * 1 = P * 4 := by
  intro h
  rw [Int.mul_one] at h
  have : ((2 * k + 1) * (2 * k + 1)) % 2 = 1 := odd_sq (by omega)
  omega
end Go.Proofs.Ytdbgooobbemklaa
