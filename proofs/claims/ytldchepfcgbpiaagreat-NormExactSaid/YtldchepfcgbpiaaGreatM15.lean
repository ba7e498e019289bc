/-
  The document's own answer for package fx: sums, products, quotients, closings, told as words.
  The nearest whole number to the root of a rational number, by its half; odd numbers over 2 and 4.
  The document's own roots: the half below a root, the nearest whole number, roots and reciprocal roots of words.
-/
import Derived.Test.YtldchepfcgbpiaaGreatM11
import Derived.Test.YtldchepfcgbpiaaGreatM13
import Derived.Test.YtldchepfcgbpiaaGreatM14
namespace Go.Proofs.YtldchepfcgbpiaaGreat
open Go.RowKit

set_option maxRecDepth 100000 in
set_option maxHeartbeats 8000000 in
theorem mayf_any (f : Int) (w : World) : Calls Tryz.prog 6 #[.int .i64 f] w fun e w' => e = .returned (.bool (fb f)) ∧ w = w' := by
  cases g : fb f with
  | true =>
    obtain ⟨g1, g2⟩ := fb_bd g
    clear g
    go_enter Tryz.func6, Tryz.ntmps6
    go_wp2
    go_ret
    exact ⟨rfl, rfl⟩
  | false =>
    have h := fb_no g
    clear g
    by_cases g1 : f < 8
    · clear h
      go_enter Tryz.func6, Tryz.ntmps6
      go_wp2
      go_ret
      exact ⟨rfl, rfl⟩
    · have g2 : ¬ f ≤ 32 := by omega
      have g3 : 8 ≤ f := by omega
      clear h g1
      go_enter Tryz.func6, Tryz.ntmps6
      go_wp2
      go_ret
      exact ⟨rfl, rfl⟩
set_option maxRecDepth 100000 in
set_option maxHeartbeats 8000000 in
theorem r2word_any (x : Value) (z : Int) (w : World) (h : IsI w x z) : Calls Tryz.prog 35 #[x] w fun e w' => e = .returned (.tuple #[.int .i64 (tw z), .int .i64 (te z)]) ∧ Below w.heap.size w w' := by
  obtain ⟨bn, on, ln, cn, rfl, Hn⟩ := h.open
  clear h
  have SC := Lib.hid (fun (W : World) (h : IsI W (Iv bn (.slice on ln cn)) z) => ismall_any _ z W h)
  cases g : isS z with
  | false =>
    have gw : wd z = false := by
      have := isS_no g
      unfold wd; simp only [decide_eq_false_iff_not]; omega
    have H := Lib.hid (And.intro (tw_out gw) (te_out gw))
    have SC := fun (W : World) (h : IsI W (Iv bn (.slice on ln cn)) z) => SC.out W h
    rw [g] at SC
    have SC := Lib.hid SC
    clear g gw
    go_enter Tryz.func35, Tryz.ntmps35
    go_wp2_with (go_at_call 55; (with_reducible refine (SC.out _ ((IsI.mk Hn.out.1 Hn.out.2.1).below (by repeat (first | exact Below.refl _ _ | assumption | apply Below.drew | refine Below.setCell ?_ (by first | omega | (simp; done) | (simp; omega)) _ | refine Below.alloc ?_ (by first | omega | (simp; done) | (simp; omega)) _)))).mono ?_); rintro e w1 ⟨rfl, hb1⟩; have e10 : w1.cell? ⟨w.heap.size, 0, none⟩ = some (.bool bn) := cell_on hb1 (by first | (simp [go_sem, *]; done) | (simp [go_sem, World.cell?_alloc_some, *]; done) | fail); have e11 : w1.cell? ⟨w.heap.size, 1, none⟩ = some (Value.slice on ln cn) := cell_on hb1 (by first | (simp [go_sem, *]; done) | (simp [go_sem, World.cell?_alloc_some, *]; done) | fail); have s10 : w.heap.size < w1.heap.size := World.block_lt_of_cell? _ _ e10; have t10 : w.heap.size < w1.heap.size + 1 := Nat.lt_succ_of_lt s10; have q1 := hb1.size; (try simp at q1))
    go_ret2
    refine ⟨by rw [H.out.1, H.out.2] <;> rfl, ?_⟩
    repeat (first | exact Below.refl _ _ | assumption | apply Below.drew | refine Below.setCell ?_ (by first | omega | (simp; done) | (simp; omega)) _ | refine Below.alloc ?_ (by first | omega | (simp; done) | (simp; omega)) _ | refine Below.trans ?_ (hb1.mono (by first | omega | (simp; done) | (simp; omega))))
  | true =>
    have SC := fun (W : World) (h : IsI W (Iv bn (.slice on ln cn)) z) => SC.out W h
    rw [g, show sm z = z from if_pos g] at SC
    have SC := Lib.hid SC
    have MC := fun W : World => may_any z W
    cases gw : wd z with
    | true =>
      have H := Lib.hid (And.intro (tw_in gw) (te_in gw))
      rw [gw] at MC
      have MC := Lib.hid MC
      clear g gw
      go_enter Tryz.func35, Tryz.ntmps35
      go_wp2_with (first | (go_at_call 55; (with_reducible refine (SC.out _ ((IsI.mk Hn.out.1 Hn.out.2.1).below (by repeat (first | exact Below.refl _ _ | assumption | apply Below.drew | refine Below.setCell ?_ (by first | omega | (simp; done) | (simp; omega)) _ | refine Below.alloc ?_ (by first | omega | (simp; done) | (simp; omega)) _)))).mono ?_); rintro e w1 ⟨rfl, hb1⟩; have e10 : w1.cell? ⟨w.heap.size, 0, none⟩ = some (.bool bn) := cell_on hb1 (by first | (simp [go_sem, *]; done) | (simp [go_sem, World.cell?_alloc_some, *]; done) | fail); have e11 : w1.cell? ⟨w.heap.size, 1, none⟩ = some (Value.slice on ln cn) := cell_on hb1 (by first | (simp [go_sem, *]; done) | (simp [go_sem, World.cell?_alloc_some, *]; done) | fail); have s10 : w.heap.size < w1.heap.size := World.block_lt_of_cell? _ _ e10; have t10 : w.heap.size < w1.heap.size + 1 := Nat.lt_succ_of_lt s10; have q1 := hb1.size; (try simp at q1)) | (go_at_call 7; (with_reducible refine (MC.out _).mono ?_); rintro e w' ⟨rfl, rfl⟩))
      go_ret2
      refine ⟨by rw [H.out.1, H.out.2] <;> rfl, ?_⟩
      repeat (first | exact Below.refl _ _ | assumption | apply Below.drew | refine Below.setCell ?_ (by first | omega | (simp; done) | (simp; omega)) _ | refine Below.alloc ?_ (by first | omega | (simp; done) | (simp; omega)) _ | refine Below.trans ?_ (hb1.mono (by first | omega | (simp; done) | (simp; omega))))
    | false =>
      have H := Lib.hid (And.intro (tw_out gw) (te_out gw))
      rw [gw] at MC
      have MC := Lib.hid MC
      clear g gw
      go_enter Tryz.func35, Tryz.ntmps35
      go_wp2_with (first | (go_at_call 55; (with_reducible refine (SC.out _ ((IsI.mk Hn.out.1 Hn.out.2.1).below (by repeat (first | exact Below.refl _ _ | assumption | apply Below.drew | refine Below.setCell ?_ (by first | omega | (simp; done) | (simp; omega)) _ | refine Below.alloc ?_ (by first | omega | (simp; done) | (simp; omega)) _)))).mono ?_); rintro e w1 ⟨rfl, hb1⟩; have e10 : w1.cell? ⟨w.heap.size, 0, none⟩ = some (.bool bn) := cell_on hb1 (by first | (simp [go_sem, *]; done) | (simp [go_sem, World.cell?_alloc_some, *]; done) | fail); have e11 : w1.cell? ⟨w.heap.size, 1, none⟩ = some (Value.slice on ln cn) := cell_on hb1 (by first | (simp [go_sem, *]; done) | (simp [go_sem, World.cell?_alloc_some, *]; done) | fail); have s10 : w.heap.size < w1.heap.size := World.block_lt_of_cell? _ _ e10; have t10 : w.heap.size < w1.heap.size + 1 := Nat.lt_succ_of_lt s10; have q1 := hb1.size; (try simp at q1)) | (go_at_call 7; (with_reducible refine (MC.out _).mono ?_); rintro e w' ⟨rfl, rfl⟩))
      go_ret2
      refine ⟨by rw [H.out.1, H.out.2] <;> rfl, ?_⟩
      repeat (first | exact Below.refl _ _ | assumption | apply Below.drew | refine Below.setCell ?_ (by first | omega | (simp; done) | (simp; omega)) _ | refine Below.alloc ?_ (by first | omega | (simp; done) | (simp; omega)) _ | refine Below.trans ?_ (hb1.mono (by first | omega | (simp; done) | (simp; omega))))
end Go.Proofs.YtldchepfcgbpiaaGreat
namespace Go.Proofs.YtldchepfcgbpiaaGreat
open Go.RowKit

theorem odd_gcd2 {m : Int} (h : m % 2 = 1) : Nat.gcd m.natAbs 2 = 1 := by
  rw [Nat.gcd_comm, Nat.gcd_rec, show m.natAbs % 2 = 1 by omega]; rfl
theorem odd_gcd4 {m : Int} (h : m % 2 = 1) : Nat.gcd m.natAbs 4 = 1 := by
  rw [Nat.gcd_comm, Nat.gcd_rec]
  rcases (show m.natAbs % 4 = 1 ∨ m.natAbs % 4 = 3 by omega) with g | g <;> rw [g] <;> rfl
theorem odd_make {m : Int} (h : m % 2 = 1) : m = m.tdiv (Nat.gcd m.natAbs 2 : Nat) ∧ 2 = 2 / Nat.gcd m.natAbs 2 := by
  rw [odd_gcd2 h]
  exact ⟨by simp, rfl⟩
theorem odd_sq {m : Int} (h : m % 2 = 1) : (m * m) % 2 = 1 := by
  rw [Int.mul_emod, h]; rfl
theorem odd_make4 {m : Int} (h : m % 2 = 1) : m = m.tdiv (Nat.gcd m.natAbs 4 : Nat) ∧ 4 = 4 / Nat.gcd m.natAbs 4 := by
  rw [odd_gcd4 h]
  exact ⟨by simp, rfl⟩
end Go.Proofs.YtldchepfcgbpiaaGreat
namespace Go.Proofs.YtldchepfcgbpiaaGreat
open Go.RowKit
theorem half_gen {k M P M2 : Int} {Q n : Nat} (gk : k.natAbs < 2 ^ n) (gP : P.natAbs < 2 ^ n) (gQ : Q < 2 ^ n) (e : M = 2 * k + 1) (e2 : M2 = M * M) : (k * 2 ^ 1).natAbs < 2 ^ (n + 2) ∧ M.natAbs < 2 ^ (n + 2) ∧ M2.natAbs < 2 ^ ((n + 2) + (n + 2)) ∧ (M2 * Q).natAbs < 2 ^ (((n + 2) + (n + 2)) + n) ∧ (P * 4).natAbs < 2 ^ (n + 3) := by
  have q : (2 : Nat) ^ (n + 2) = 4 * 2 ^ n := by rw [Nat.pow_add]; omega
  have q3 : (2 : Nat) ^ (n + 3) = 8 * 2 ^ n := by rw [Nat.pow_add]; omega
  have m : M.natAbs < 2 ^ (n + 2) := by omega
  have m2 : M2.natAbs < 2 ^ ((n + 2) + (n + 2)) := by rw [e2]; exact nab_mul m m
  exact ⟨by omega, m, m2, nab_mul m2 (by simpa using gQ), by omega⟩
theorem half_sizes {k M P M2 : Int} {Q : Nat} (gk : k.natAbs < LOW) (gP : P.natAbs < LOW) (gQ : Q < LOW) (e : M = 2 * k + 1) (e2 : M2 = M * M) : (k * 2 ^ 1).natAbs < BIG ∧ M.natAbs < MID ∧ M.natAbs < BIG ∧ M2.natAbs < MID ∧ M2.natAbs < BIG ∧ (M2 * Q).natAbs < BIG ∧ (P * (4 : Nat)).natAbs < BIG := by
  unfold LOW at gk gP gQ
  obtain ⟨a, b, c, d, f⟩ := half_gen gk gP gQ e e2
  exact ⟨big_of a (by decide), mid_of b (by decide), big_of b (by decide), mid_of c (by decide), big_of c (by decide), big_of d (by decide), big_of f (by decide)⟩
set_option maxRecDepth 100000 in
set_option maxHeartbeats 8000000 in
theorem half_any (x y : Value) (k P c : Int) (Q : Nat) (w : World) (h : IsI w x k) (j : IsR w y P Q) (gk : k.natAbs < LOW) (gP : P.natAbs < LOW) (gQ : Q < LOW) (hc : c = sg ((2 * k + 1) * (2 * k + 1) * Q) (P * 4)) : Calls Tryz.prog 84 #[x, y] w fun e w' => e = .returned (.int .i64 c) ∧ Below w.heap.size w w' := by
  obtain ⟨bn, on, ln, cn, rfl, Hn⟩ := h.open
  obtain ⟨ba, oa1, la1, ca1, oa2, la2, ca2, rfl, Ha⟩ := j
  clear h
  obtain ⟨k2, hk2⟩ : ∃ k2 : Int, k2 = k * 2 ^ 1 := ⟨_, rfl⟩
  obtain ⟨M, hM⟩ : ∃ M : Int, M = k2 + 1 := ⟨_, rfl⟩
  obtain ⟨M2, hM2⟩ : ∃ M2 : Int, M2 = M * M := ⟨_, rfl⟩
  have e2 : M = 2 * k + 1 := by rw [hM, hk2]; omega
  have o1 : M % 2 = 1 := by omega
  have o2 : M2 % 2 = 1 := by rw [hM2]; exact odd_sq o1
  have hc2 : c = sg (M2 * Q) (P * 4) := by rw [hc, hM2, e2]
  have G := half_sizes gk gP gQ e2 hM2
  have LC : Hid (∀ (W : World) (x : Value), IsI W x k → Calls Tryz.prog 52 #[x, .int .i64 1] W (SomeI W k2)) := fun W x h => by rw [hk2]; exact ileft_any x k 1 W h (low_big gk).1 (by decide)
  have PL : Hid (∀ (W : World) (x y : Value), IsI W x k2 → IsI W y 1 → Calls Tryz.prog 49 #[x, y] W (SomeI W M)) := fun W x y h j => by rw [hM]; exact iplus_any x y k2 1 W h j (by rw [hk2]; exact G.1) one_big
  have N2 : Hid (∀ W : World, Calls Tryz.prog 38 #[.int .u64 2] W (SomeN W 2)) := fun W => nof_num 2 W (by decide)
  have MK : Hid (∀ (W : World) (x v : Value), IsI W x M → IsN W v 2 → Calls Tryz.prog 37 #[x, v] W (SomeR W M 2)) := fun W x v h j => by
    have := make_any x v M 2 W h j G.2.1 (mid_of (k := 2) (by decide) (by decide)) (by decide)
    rw [← (odd_make o1).1, ← (odd_make o1).2] at this
    exact this
  have TM : Hid (∀ (W : World) (x y : Value), IsR W x M 2 → IsR W y M 2 → Calls Tryz.prog 57 #[x, y] W (SomeR W M2 4)) := fun W x y h j => rtimes_any x y M M M2 2 2 4 M2 4 W h j G.2.2.1 G.2.2.1 (big_of (k := 2) (by decide) (by decide)) (big_of (k := 2) (by decide) (by decide)) hM2 rfl G.2.2.2.1 (mid_of (k := 3) (by decide) (by decide)) (by decide) (odd_make4 o2).1 (odd_make4 o2).2
  have CC : Hid (∀ (W : World) (x y : Value), IsR W x M2 4 → IsR W y P Q → Calls Tryz.prog 102 #[x, y] W fun e w' => e = .returned (.int .i64 c) ∧ Below W.heap.size W w') := fun W x y h j => by
    have := rcmp_any x y M2 P 4 Q W h j G.2.2.2.2.1 (low_big gP).1 (big_of (k := 3) (by decide) (by decide)) (low_big gQ).1 G.2.2.2.2.2.1 G.2.2.2.2.2.2
    rw [hc2]
    exact this
  clear G hc hc2 o1 o2 e2 hM2 hM hk2 gk gP gQ
  go_enter Tryz.func84, Tryz.ntmps84
  go_wp2_with (first | (go_at_call 52; (with_reducible refine (LC.out _ _ ((IsI.mk Hn.out.1 Hn.out.2.1).below (by repeat (first | exact Below.refl _ _ | assumption | apply Below.drew | refine Below.setCell ?_ (by first | omega | (simp; done) | (simp; omega)) _ | refine Below.alloc ?_ (by first | omega | (simp; done) | (simp; omega)) _)))).mono ?_); rintro e w1 ⟨vl, rfl, hv, hb1⟩; have e10 : w1.cell? ⟨w.heap.size + 1, 0, none⟩ = some (.bool ba) := cell_on hb1 (by first | (simp [go_sem, *]; done) | (simp [go_sem, World.cell?_alloc_some, *]; done) | fail); have e11 : w1.cell? ⟨w.heap.size + 1, 1, none⟩ = some (Value.slice oa1 la1 ca1) := cell_on hb1 (by first | (simp [go_sem, *]; done) | (simp [go_sem, World.cell?_alloc_some, *]; done) | fail); have e12 : w1.cell? ⟨w.heap.size + 1, 2, none⟩ = some (Value.slice oa2 la2 ca2) := cell_on hb1 (by first | (simp [go_sem, *]; done) | (simp [go_sem, World.cell?_alloc_some, *]; done) | fail); have s10 : w.heap.size + 1 < w1.heap.size := World.block_lt_of_cell? _ _ e10; have t10 : w.heap.size + 1 < w1.heap.size + 1 := Nat.lt_succ_of_lt s10; have q1 := hb1.size; (try simp at q1); obtain ⟨bl, ol, ll, cl, rfl, Hl⟩ := hv.open; clear hv) | (go_at_call 48; (with_reducible refine (ifrom_any 1 _ (by decide) (by decide)).mono ?_); rintro e w2 ⟨vf, rfl, hv, hb2⟩; have e20 : w2.cell? ⟨w.heap.size + 1, 0, none⟩ = some (.bool ba) := cell_on hb2 (by first | (simp [go_sem, *]; done) | (simp [go_sem, World.cell?_alloc_some, *]; done) | fail); have e21 : w2.cell? ⟨w.heap.size + 1, 1, none⟩ = some (Value.slice oa1 la1 ca1) := cell_on hb2 (by first | (simp [go_sem, *]; done) | (simp [go_sem, World.cell?_alloc_some, *]; done) | fail); have e22 : w2.cell? ⟨w.heap.size + 1, 2, none⟩ = some (Value.slice oa2 la2 ca2) := cell_on hb2 (by first | (simp [go_sem, *]; done) | (simp [go_sem, World.cell?_alloc_some, *]; done) | fail); have s20 : w.heap.size + 1 < w2.heap.size := World.block_lt_of_cell? _ _ e20; have t20 : w.heap.size + 1 < w2.heap.size + 1 := Nat.lt_succ_of_lt s20; have q2 := hb2.size; (try simp at q2); obtain ⟨bf, of, lf, cf, rfl, Hf⟩ := hv.open; clear hv) | (go_at_call 49; (with_reducible refine (PL.out _ _ _ ((IsI.mk Hl.out.1 Hl.out.2.1).below (by repeat (first | exact Below.refl _ _ | assumption | apply Below.drew | refine Below.setCell ?_ (by first | omega | (simp; done) | (simp; omega)) _ | refine Below.alloc ?_ (by first | omega | (simp; done) | (simp; omega)) _ | refine Below.trans ?_ (hb2.mono (by first | omega | (simp; done) | (simp; omega)))))) ((IsI.mk Hf.out.1 Hf.out.2.1).below (by repeat (first | exact Below.refl _ _ | assumption | apply Below.drew | refine Below.setCell ?_ (by first | omega | (simp; done) | (simp; omega)) _ | refine Below.alloc ?_ (by first | omega | (simp; done) | (simp; omega)) _)))).mono ?_); rintro e w3 ⟨vp, rfl, hv, hb3⟩; have e30 : w3.cell? ⟨w.heap.size + 1, 0, none⟩ = some (.bool ba) := cell_on hb3 (by first | (simp [go_sem, *]; done) | (simp [go_sem, World.cell?_alloc_some, *]; done) | fail); have e31 : w3.cell? ⟨w.heap.size + 1, 1, none⟩ = some (Value.slice oa1 la1 ca1) := cell_on hb3 (by first | (simp [go_sem, *]; done) | (simp [go_sem, World.cell?_alloc_some, *]; done) | fail); have e32 : w3.cell? ⟨w.heap.size + 1, 2, none⟩ = some (Value.slice oa2 la2 ca2) := cell_on hb3 (by first | (simp [go_sem, *]; done) | (simp [go_sem, World.cell?_alloc_some, *]; done) | fail); have s30 : w.heap.size + 1 < w3.heap.size := World.block_lt_of_cell? _ _ e30; have t30 : w.heap.size + 1 < w3.heap.size + 1 := Nat.lt_succ_of_lt s30; have q3 := hb3.size; (try simp at q3); obtain ⟨bp, op, lp, cp, rfl, Hp⟩ := hv.open; clear hv) | (go_at_call 38; (with_reducible refine (N2.out _).mono ?_); rintro e w4 ⟨vo, rfl, ho, hb4⟩; have e40 : w4.cell? ⟨w.heap.size + 1, 0, none⟩ = some (.bool ba) := cell_on hb4 (by first | (simp [go_sem, *]; done) | (simp [go_sem, World.cell?_alloc_some, *]; done) | fail); have e41 : w4.cell? ⟨w.heap.size + 1, 1, none⟩ = some (Value.slice oa1 la1 ca1) := cell_on hb4 (by first | (simp [go_sem, *]; done) | (simp [go_sem, World.cell?_alloc_some, *]; done) | fail); have e42 : w4.cell? ⟨w.heap.size + 1, 2, none⟩ = some (Value.slice oa2 la2 ca2) := cell_on hb4 (by first | (simp [go_sem, *]; done) | (simp [go_sem, World.cell?_alloc_some, *]; done) | fail); have s40 : w.heap.size + 1 < w4.heap.size := World.block_lt_of_cell? _ _ e40; have t40 : w.heap.size + 1 < w4.heap.size + 1 := Nat.lt_succ_of_lt s40; have q4 := hb4.size; (try simp at q4)) | (go_at_call 37; (with_reducible refine (MK.out _ _ _ ((IsI.mk Hp.out.1 Hp.out.2.1).below (by repeat (first | exact Below.refl _ _ | assumption | apply Below.drew | refine Below.setCell ?_ (by first | omega | (simp; done) | (simp; omega)) _ | refine Below.alloc ?_ (by first | omega | (simp; done) | (simp; omega)) _ | refine Below.trans ?_ (hb4.mono (by first | omega | (simp; done) | (simp; omega)))))) (ho.below (by repeat (first | exact Below.refl _ _ | assumption | apply Below.drew | refine Below.setCell ?_ (by first | omega | (simp; done) | (simp; omega)) _ | refine Below.alloc ?_ (by first | omega | (simp; done) | (simp; omega)) _)))).mono ?_); rintro e w5 ⟨bh, oh1, lh1, ch1, oh2, lh2, ch2, rfl, Hh, hb5⟩; have e50 : w5.cell? ⟨w.heap.size + 1, 0, none⟩ = some (.bool ba) := cell_on hb5 (by first | (simp [go_sem, *]; done) | (simp [go_sem, World.cell?_alloc_some, *]; done) | fail); have e51 : w5.cell? ⟨w.heap.size + 1, 1, none⟩ = some (Value.slice oa1 la1 ca1) := cell_on hb5 (by first | (simp [go_sem, *]; done) | (simp [go_sem, World.cell?_alloc_some, *]; done) | fail); have e52 : w5.cell? ⟨w.heap.size + 1, 2, none⟩ = some (Value.slice oa2 la2 ca2) := cell_on hb5 (by first | (simp [go_sem, *]; done) | (simp [go_sem, World.cell?_alloc_some, *]; done) | fail); have s50 : w.heap.size + 1 < w5.heap.size := World.block_lt_of_cell? _ _ e50; have t50 : w.heap.size + 1 < w5.heap.size + 1 := Nat.lt_succ_of_lt s50; have q5 := hb5.size; (try simp at q5)))
  go_region_held3 (fun w' => w'.cell? ⟨w.heap.size + 1, 0, none⟩ = some (.bool ba) ∧ w'.cell? ⟨w.heap.size + 1, 1, none⟩ = some (Value.slice oa1 la1 ca1) ∧ w'.cell? ⟨w.heap.size + 1, 2, none⟩ = some (Value.slice oa2 la2 ca2) ∧ w'.cell? ⟨w5.heap.size, 0, none⟩ = some (.bool bh) ∧ w'.cell? ⟨w5.heap.size, 1, none⟩ = some (Value.slice oh1 lh1 ch1) ∧ w'.cell? ⟨w5.heap.size, 2, none⟩ = some (Value.slice oh2 lh2 ch2)) (first | (simp [go_sem, *]; done) | (simp [go_sem, World.cell?_alloc_some, *]; done)) (first | (go_at_call 57; (with_reducible refine (TM.out _ _ _ (IsR.below (IsR.mk Hh) (by repeat (first | exact Below.refl _ _ | assumption | apply Below.drew | refine Below.setCell ?_ (by first | omega | (simp; done) | (simp; omega)) _ | refine Below.alloc ?_ (by first | omega | (simp; done) | (simp; omega)) _))) (IsR.below (IsR.mk Hh) (by repeat (first | exact Below.refl _ _ | assumption | apply Below.drew | refine Below.setCell ?_ (by first | omega | (simp; done) | (simp; omega)) _ | refine Below.alloc ?_ (by first | omega | (simp; done) | (simp; omega)) _)))).mono ?_); rintro e w6 ⟨bt, ot1, lt1, ct1, ot2, lt2, ct2, rfl, Ht, hb6⟩; have e60 : w6.cell? ⟨w.heap.size + 1, 0, none⟩ = some (.bool ba) := cell_on hb6 (by first | (simp [go_sem, *]; done) | (simp [go_sem, World.cell?_alloc_some, *]; done) | fail); have e61 : w6.cell? ⟨w.heap.size + 1, 1, none⟩ = some (Value.slice oa1 la1 ca1) := cell_on hb6 (by first | (simp [go_sem, *]; done) | (simp [go_sem, World.cell?_alloc_some, *]; done) | fail); have e62 : w6.cell? ⟨w.heap.size + 1, 2, none⟩ = some (Value.slice oa2 la2 ca2) := cell_on hb6 (by first | (simp [go_sem, *]; done) | (simp [go_sem, World.cell?_alloc_some, *]; done) | fail); have e63 : w6.cell? ⟨w5.heap.size, 0, none⟩ = some (.bool bh) := cell_on hb6 (by first | (simp [go_sem, *]; done) | (simp [go_sem, World.cell?_alloc_some, *]; done) | fail); have e64 : w6.cell? ⟨w5.heap.size, 1, none⟩ = some (Value.slice oh1 lh1 ch1) := cell_on hb6 (by first | (simp [go_sem, *]; done) | (simp [go_sem, World.cell?_alloc_some, *]; done) | fail); have e65 : w6.cell? ⟨w5.heap.size, 2, none⟩ = some (Value.slice oh2 lh2 ch2) := cell_on hb6 (by first | (simp [go_sem, *]; done) | (simp [go_sem, World.cell?_alloc_some, *]; done) | fail); have s60 : w.heap.size + 1 < w6.heap.size := World.block_lt_of_cell? _ _ e60; have t60 : w.heap.size + 1 < w6.heap.size + 1 := Nat.lt_succ_of_lt s60; have s63 : w5.heap.size < w6.heap.size := World.block_lt_of_cell? _ _ e63; have t63 : w5.heap.size < w6.heap.size + 1 := Nat.lt_succ_of_lt s63; have q6 := hb6.size; (try simp at q6)) | (go_at_call 102; (with_reducible refine (CC.out _ _ _ (IsR.below (IsR.mk Ht) (by repeat (first | exact Below.refl _ _ | assumption | apply Below.drew | refine Below.setCell ?_ (by first | omega | (simp; done) | (simp; omega)) _ | refine Below.alloc ?_ (by first | omega | (simp; done) | (simp; omega)) _))) (IsR.below (IsR.mk Ha) (by repeat (first | exact Below.refl _ _ | assumption | apply Below.drew | refine Below.setCell ?_ (by first | omega | (simp; done) | (simp; omega)) _ | refine Below.alloc ?_ (by first | omega | (simp; done) | (simp; omega)) _ | refine Below.trans ?_ (hb6.mono (by first | omega | (simp; done) | (simp; omega))) | refine Below.trans ?_ (hb5.mono (by first | omega | (simp; done) | (simp; omega))) | refine Below.trans ?_ (hb4.mono (by first | omega | (simp; done) | (simp; omega))) | refine Below.trans ?_ (hb3.mono (by first | omega | (simp; done) | (simp; omega))) | refine Below.trans ?_ (hb2.mono (by first | omega | (simp; done) | (simp; omega))) | refine Below.trans ?_ (hb1.mono (by first | omega | (simp; done) | (simp; omega))))))).mono ?_); rintro e w7 ⟨rfl, hb7⟩; have e70 : w7.cell? ⟨w.heap.size + 1, 0, none⟩ = some (.bool ba) := cell_on hb7 (by first | (simp [go_sem, *]; done) | (simp [go_sem, World.cell?_alloc_some, *]; done) | fail); have e71 : w7.cell? ⟨w.heap.size + 1, 1, none⟩ = some (Value.slice oa1 la1 ca1) := cell_on hb7 (by first | (simp [go_sem, *]; done) | (simp [go_sem, World.cell?_alloc_some, *]; done) | fail); have e72 : w7.cell? ⟨w.heap.size + 1, 2, none⟩ = some (Value.slice oa2 la2 ca2) := cell_on hb7 (by first | (simp [go_sem, *]; done) | (simp [go_sem, World.cell?_alloc_some, *]; done) | fail); have e73 : w7.cell? ⟨w5.heap.size, 0, none⟩ = some (.bool bh) := cell_on hb7 (by first | (simp [go_sem, *]; done) | (simp [go_sem, World.cell?_alloc_some, *]; done) | fail); have e74 : w7.cell? ⟨w5.heap.size, 1, none⟩ = some (Value.slice oh1 lh1 ch1) := cell_on hb7 (by first | (simp [go_sem, *]; done) | (simp [go_sem, World.cell?_alloc_some, *]; done) | fail); have e75 : w7.cell? ⟨w5.heap.size, 2, none⟩ = some (Value.slice oh2 lh2 ch2) := cell_on hb7 (by first | (simp [go_sem, *]; done) | (simp [go_sem, World.cell?_alloc_some, *]; done) | fail); have s70 : w.heap.size + 1 < w7.heap.size := World.block_lt_of_cell? _ _ e70; have t70 : w.heap.size + 1 < w7.heap.size + 1 := Nat.lt_succ_of_lt s70; have s73 : w5.heap.size < w7.heap.size := World.block_lt_of_cell? _ _ e73; have t73 : w5.heap.size < w7.heap.size + 1 := Nat.lt_succ_of_lt s73; have q7 := hb7.size; (try simp at q7)))
  all_goals
    go_wp2_with fail
    go_ret
    refine ⟨rfl, ?_⟩
    repeat (first | exact Below.refl _ _ | assumption | apply Below.drew | refine Below.setCell ?_ (by first | omega | (simp; done) | (simp; omega)) _ | refine Below.alloc ?_ (by first | omega | (simp; done) | (simp; omega)) _ | refine Below.trans ?_ (hb7.mono (by first | omega | (simp; done) | (simp; omega))) | refine Below.trans ?_ (hb6.mono (by first | omega | (simp; done) | (simp; omega))) | refine Below.trans ?_ (hb5.mono (by first | omega | (simp; done) | (simp; omega))) | refine Below.trans ?_ (hb4.mono (by first | omega | (simp; done) | (simp; omega))) | refine Below.trans ?_ (hb3.mono (by first | omega | (simp; done) | (simp; omega))) | refine Below.trans ?_ (hb2.mono (by first | omega | (simp; done) | (simp; omega))) | refine Below.trans ?_ (hb1.mono (by first | omega | (simp; done) | (simp; omega))))
end Go.Proofs.YtldchepfcgbpiaaGreat
