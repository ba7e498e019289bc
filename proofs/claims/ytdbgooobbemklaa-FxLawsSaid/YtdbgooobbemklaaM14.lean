/-
  The document's own roots: the half below a root, the nearest whole number, roots and reciprocal roots of words.
  The statements' loops over a list of pairs: what an element's cells hold; WideDowns.
  A list of pairs that came in, opened to the cells of its elements.
  A list of package root's statements that came in, opened to the cells of its elements.
  A list of package fx's statements that came in, opened to the cells of its elements.
  FxLaws' arithmetic: whole quotients; a quotient's half, a product's half over a power of 2, in lowest terms.
  FxLaws' contracts, told for one element.
-/
import Derived.LoopTactic
import Derived.Deep.Slices
import Derived.Deep.Fields
import Derived.ProofKit
import Derived.Carry
import Derived.Test.YtdbgooobbemklaaM02
import Derived.Test.YtdbgooobbemklaaM03
import Derived.Test.YtdbgooobbemklaaM10
import Derived.Test.YtdbgooobbemklaaM11
import Derived.Test.YtdbgooobbemklaaM12
import Derived.Test.YtdbgooobbemklaaM13
namespace Go.Proofs.Ytdbgooobbemklaa
open Go.RowKit
theorem zero_big : (0 : Int).natAbs < BIG := big_of (k := 1) (by decide) (by decide)
theorem pow_nab {f : Nat} (hf : f ≤ 32) : ((2 : Int) ^ f).natAbs < 2 ^ 33 := by
  rw [Int.natAbs_pow]
  exact Nat.lt_of_le_of_lt (Nat.pow_le_pow_right (by decide) hf) (by decide)
theorem half_gen {k M P M2 : Int} {Q n : Nat} (gk : k.natAbs < 2 ^ n) (gP : P.natAbs < 2 ^ n) (gQ : Q < 2 ^ n) (e : M = 2 * k + 1) (e2 : M2 = M * M) : (k * 2 ^ 1).natAbs < 2 ^ (n + 2) ∧ M.natAbs < 2 ^ (n + 2) ∧ M2.natAbs < 2 ^ ((n + 2) + (n + 2)) ∧ (M2 * Q).natAbs < 2 ^ (((n + 2) + (n + 2)) + n) ∧ (P * 4).natAbs < 2 ^ (n + 3) := by
  have q : (2 : Nat) ^ (n + 2) = 4 * 2 ^ n := by rw [Nat.pow_add]; omega
  have q3 : (2 : Nat) ^ (n + 3) = 8 * 2 ^ n := by rw [Nat.pow_add]; omega
  have m : M.natAbs < 2 ^ (n + 2) := by omega
  have m2 : M2.natAbs < 2 ^ ((n + 2) + (n + 2)) := by rw [e2]; exact nab_mul m m
  exact ⟨by omega, m, m2, nab_mul m2 (by simpa using gQ), by omega⟩
theorem half_sizes {k M P M2 : Int} {Q : Nat} (gk : k.natAbs < LOW) (gP : P.natAbs < LOW) (gQ : Q < LOW) (e : M = 2 * k + 1) (e2 : M2 = M * M) : (k * 2 ^ 1).natAbs < BIG ∧ M.natAbs < MID ∧ M.natAbs < BIG ∧ M2.natAbs < MID ∧ M2.natAbs < BIG ∧ (M2 * Q).natAbs < BIG ∧ (P * (4 : Nat)).natAbs < BIG := by
  unfold LOW at gk gP gQ
  obtain ⟨a, b, c, d, f⟩ := half_gen gk gP gQ e e2
  exact ⟨big_of a (by decide), mid_of b (by decide), big_of b (by decide), mid_of c (by decide), big_of c (by decide), big_of d (by decide), big_of f (by decide)⟩
set_option maxRecDepth 100000 in
set_option maxHeartbeats 8000000 in
theorem half_any (x y : Value) (k P c : Int) (Q : Nat) (w : World) (h : IsI w x k) (j : IsR w y P Q) (gk : k.natAbs < LOW) (gP : P.natAbs < LOW) (gQ : Q < LOW) (hc : c = sg ((2 * k + 1) * (2 * k + 1) * Q) (P * 4)) : Calls Try.prog 112 #[x, y] w fun e w' => e = .returned (.int .i64 c) ∧ Below w.heap.size w w' := by
  obtain ⟨bn, on, ln, cn, rfl, Hn⟩ := h.open
  obtain ⟨ba, oa1, la1, ca1, oa2, la2, ca2, rfl, Ha⟩ := j
  clear h
  obtain ⟨k2, hk2⟩ : ∃ k2 : Int, k2 = k * 2 ^ 1 := ⟨_, rfl⟩
  obtain ⟨M, hM⟩ : ∃ M : Int, M = k2 + 1 := ⟨_, rfl⟩
  obtain ⟨M2, hM2⟩ : ∃ M2 : Int, M2 = M * M := ⟨_, rfl⟩
  have e2 : M = 2 * k + 1 := by rw [hM, hk2]; omega
  have o1 : M % 2 = 1 := by omega
  have o2 : M2 % 2 = 1 := by rw [hM2]; exact odd_sq o1
  have hc2 : c = sg (M2 * Q) (P * 4) := by rw [hc, hM2, e2]
  have G := half_sizes gk gP gQ e2 hM2
  have LC : Hid (∀ (W : World) (x : Value), IsI W x k → Calls Try.prog 34 #[x, .int .i64 1] W (SomeI W k2)) := fun W x h => by rw [hk2]; exact ileft_any x k 1 W h (low_big gk).1 (by decide)
  have PL : Hid (∀ (W : World) (x y : Value), IsI W x k2 → IsI W y 1 → Calls Try.prog 56 #[x, y] W (SomeI W M)) := fun W x y h j => by rw [hM]; exact iplus_any x y k2 1 W h j (by rw [hk2]; exact G.1) one_big
  have N2 : Hid (∀ W : World, Calls Try.prog 43 #[.int .u64 2] W (SomeN W 2)) := fun W => nof_num 2 W (by decide)
  have MK : Hid (∀ (W : World) (x v : Value), IsI W x M → IsN W v 2 → Calls Try.prog 41 #[x, v] W (SomeR W M 2)) := fun W x v h j => by
    have := make_any x v M 2 W h j G.2.1 (mid_of (k := 2) (by decide) (by decide)) (by decide)
    rw [← (odd_make o1).1, ← (odd_make o1).2] at this
    exact this
  have TM : Hid (∀ (W : World) (x y : Value), IsR W x M 2 → IsR W y M 2 → Calls Try.prog 143 #[x, y] W (SomeR W M2 4)) := fun W x y h j => rtimes_any x y M M M2 2 2 4 M2 4 W h j G.2.2.1 G.2.2.1 (big_of (k := 2) (by decide) (by decide)) (big_of (k := 2) (by decide) (by decide)) hM2 rfl G.2.2.2.1 (mid_of (k := 3) (by decide) (by decide)) (by decide) (odd_make4 o2).1 (odd_make4 o2).2
  have CC : Hid (∀ (W : World) (x y : Value), IsR W x M2 4 → IsR W y P Q → Calls Try.prog 37 #[x, y] W fun e w' => e = .returned (.int .i64 c) ∧ Below W.heap.size W w') := fun W x y h j => by
    have := rcmp_any x y M2 P 4 Q W h j G.2.2.2.2.1 (low_big gP).1 (big_of (k := 3) (by decide) (by decide)) (low_big gQ).1 G.2.2.2.2.2.1 G.2.2.2.2.2.2
    rw [hc2]
    exact this
  clear G hc hc2 o1 o2 e2 hM2 hM hk2 gk gP gQ
  go_enter Try.func112, Try.ntmps112
  go_wp2_with (first | (go_at_call 34; (with_reducible refine (LC.out _ _ ((IsI.mk Hn.out.1 Hn.out.2.1).below (by repeat (first | exact Below.refl _ _ | assumption | apply Below.drew | refine Below.setCell ?_ (by first | omega | (simp; done) | (simp; omega)) _ | refine Below.alloc ?_ (by first | omega | (simp; done) | (simp; omega)) _)))).mono ?_); rintro e w1 ⟨vl, rfl, hv, hb1⟩; have e10 : w1.cell? ⟨w.heap.size + 1, 0, none⟩ = some (.bool ba) := cell_on hb1 (by first | (simp [go_sem, *]; done) | (simp [go_sem, World.cell?_alloc_some, *]; done) | fail); have e11 : w1.cell? ⟨w.heap.size + 1, 1, none⟩ = some (Value.slice oa1 la1 ca1) := cell_on hb1 (by first | (simp [go_sem, *]; done) | (simp [go_sem, World.cell?_alloc_some, *]; done) | fail); have e12 : w1.cell? ⟨w.heap.size + 1, 2, none⟩ = some (Value.slice oa2 la2 ca2) := cell_on hb1 (by first | (simp [go_sem, *]; done) | (simp [go_sem, World.cell?_alloc_some, *]; done) | fail); have s10 : w.heap.size + 1 < w1.heap.size := World.block_lt_of_cell? _ _ e10; have t10 : w.heap.size + 1 < w1.heap.size + 1 := Nat.lt_succ_of_lt s10; have q1 := hb1.size; (try simp at q1); obtain ⟨bl, ol, ll, cl, rfl, Hl⟩ := hv.open; clear hv) | (go_at_call 33; (with_reducible refine (ifrom_any 1 _ (by decide) (by decide)).mono ?_); rintro e w2 ⟨vf, rfl, hv, hb2⟩; have e20 : w2.cell? ⟨w.heap.size + 1, 0, none⟩ = some (.bool ba) := cell_on hb2 (by first | (simp [go_sem, *]; done) | (simp [go_sem, World.cell?_alloc_some, *]; done) | fail); have e21 : w2.cell? ⟨w.heap.size + 1, 1, none⟩ = some (Value.slice oa1 la1 ca1) := cell_on hb2 (by first | (simp [go_sem, *]; done) | (simp [go_sem, World.cell?_alloc_some, *]; done) | fail); have e22 : w2.cell? ⟨w.heap.size + 1, 2, none⟩ = some (Value.slice oa2 la2 ca2) := cell_on hb2 (by first | (simp [go_sem, *]; done) | (simp [go_sem, World.cell?_alloc_some, *]; done) | fail); have s20 : w.heap.size + 1 < w2.heap.size := World.block_lt_of_cell? _ _ e20; have t20 : w.heap.size + 1 < w2.heap.size + 1 := Nat.lt_succ_of_lt s20; have q2 := hb2.size; (try simp at q2); obtain ⟨bf, of, lf, cf, rfl, Hf⟩ := hv.open; clear hv) | (go_at_call 56; (with_reducible refine (PL.out _ _ _ ((IsI.mk Hl.out.1 Hl.out.2.1).below (by repeat (first | exact Below.refl _ _ | assumption | apply Below.drew | refine Below.setCell ?_ (by first | omega | (simp; done) | (simp; omega)) _ | refine Below.alloc ?_ (by first | omega | (simp; done) | (simp; omega)) _ | refine Below.trans ?_ (hb2.mono (by first | omega | (simp; done) | (simp; omega)))))) ((IsI.mk Hf.out.1 Hf.out.2.1).below (by repeat (first | exact Below.refl _ _ | assumption | apply Below.drew | refine Below.setCell ?_ (by first | omega | (simp; done) | (simp; omega)) _ | refine Below.alloc ?_ (by first | omega | (simp; done) | (simp; omega)) _)))).mono ?_); rintro e w3 ⟨vp, rfl, hv, hb3⟩; have e30 : w3.cell? ⟨w.heap.size + 1, 0, none⟩ = some (.bool ba) := cell_on hb3 (by first | (simp [go_sem, *]; done) | (simp [go_sem, World.cell?_alloc_some, *]; done) | fail); have e31 : w3.cell? ⟨w.heap.size + 1, 1, none⟩ = some (Value.slice oa1 la1 ca1) := cell_on hb3 (by first | (simp [go_sem, *]; done) | (simp [go_sem, World.cell?_alloc_some, *]; done) | fail); have e32 : w3.cell? ⟨w.heap.size + 1, 2, none⟩ = some (Value.slice oa2 la2 ca2) := cell_on hb3 (by first | (simp [go_sem, *]; done) | (simp [go_sem, World.cell?_alloc_some, *]; done) | fail); have s30 : w.heap.size + 1 < w3.heap.size := World.block_lt_of_cell? _ _ e30; have t30 : w.heap.size + 1 < w3.heap.size + 1 := Nat.lt_succ_of_lt s30; have q3 := hb3.size; (try simp at q3); obtain ⟨bp, op, lp, cp, rfl, Hp⟩ := hv.open; clear hv) | (go_at_call 43; (with_reducible refine (N2.out _).mono ?_); rintro e w4 ⟨vo, rfl, ho, hb4⟩; have e40 : w4.cell? ⟨w.heap.size + 1, 0, none⟩ = some (.bool ba) := cell_on hb4 (by first | (simp [go_sem, *]; done) | (simp [go_sem, World.cell?_alloc_some, *]; done) | fail); have e41 : w4.cell? ⟨w.heap.size + 1, 1, none⟩ = some (Value.slice oa1 la1 ca1) := cell_on hb4 (by first | (simp [go_sem, *]; done) | (simp [go_sem, World.cell?_alloc_some, *]; done) | fail); have e42 : w4.cell? ⟨w.heap.size + 1, 2, none⟩ = some (Value.slice oa2 la2 ca2) := cell_on hb4 (by first | (simp [go_sem, *]; done) | (simp [go_sem, World.cell?_alloc_some, *]; done) | fail); have s40 : w.heap.size + 1 < w4.heap.size := World.block_lt_of_cell? _ _ e40; have t40 : w.heap.size + 1 < w4.heap.size + 1 := Nat.lt_succ_of_lt s40; have q4 := hb4.size; (try simp at q4)) | (go_at_call 41; (with_reducible refine (MK.out _ _ _ ((IsI.mk Hp.out.1 Hp.out.2.1).below (by repeat (first | exact Below.refl _ _ | assumption | apply Below.drew | refine Below.setCell ?_ (by first | omega | (simp; done) | (simp; omega)) _ | refine Below.alloc ?_ (by first | omega | (simp; done) | (simp; omega)) _ | refine Below.trans ?_ (hb4.mono (by first | omega | (simp; done) | (simp; omega)))))) (ho.below (by repeat (first | exact Below.refl _ _ | assumption | apply Below.drew | refine Below.setCell ?_ (by first | omega | (simp; done) | (simp; omega)) _ | refine Below.alloc ?_ (by first | omega | (simp; done) | (simp; omega)) _)))).mono ?_); rintro e w5 ⟨bh, oh1, lh1, ch1, oh2, lh2, ch2, rfl, Hh, hb5⟩; have e50 : w5.cell? ⟨w.heap.size + 1, 0, none⟩ = some (.bool ba) := cell_on hb5 (by first | (simp [go_sem, *]; done) | (simp [go_sem, World.cell?_alloc_some, *]; done) | fail); have e51 : w5.cell? ⟨w.heap.size + 1, 1, none⟩ = some (Value.slice oa1 la1 ca1) := cell_on hb5 (by first | (simp [go_sem, *]; done) | (simp [go_sem, World.cell?_alloc_some, *]; done) | fail); have e52 : w5.cell? ⟨w.heap.size + 1, 2, none⟩ = some (Value.slice oa2 la2 ca2) := cell_on hb5 (by first | (simp [go_sem, *]; done) | (simp [go_sem, World.cell?_alloc_some, *]; done) | fail); have s50 : w.heap.size + 1 < w5.heap.size := World.block_lt_of_cell? _ _ e50; have t50 : w.heap.size + 1 < w5.heap.size + 1 := Nat.lt_succ_of_lt s50; have q5 := hb5.size; (try simp at q5)))
  go_region_held3 (fun w' => w'.cell? ⟨w.heap.size + 1, 0, none⟩ = some (.bool ba) ∧ w'.cell? ⟨w.heap.size + 1, 1, none⟩ = some (Value.slice oa1 la1 ca1) ∧ w'.cell? ⟨w.heap.size + 1, 2, none⟩ = some (Value.slice oa2 la2 ca2) ∧ w'.cell? ⟨w5.heap.size, 0, none⟩ = some (.bool bh) ∧ w'.cell? ⟨w5.heap.size, 1, none⟩ = some (Value.slice oh1 lh1 ch1) ∧ w'.cell? ⟨w5.heap.size, 2, none⟩ = some (Value.slice oh2 lh2 ch2)) (first | (simp [go_sem, *]; done) | (simp [go_sem, World.cell?_alloc_some, *]; done)) (first | (go_at_call 143; (with_reducible refine (TM.out _ _ _ (IsR.below (IsR.mk Hh) (by repeat (first | exact Below.refl _ _ | assumption | apply Below.drew | refine Below.setCell ?_ (by first | omega | (simp; done) | (simp; omega)) _ | refine Below.alloc ?_ (by first | omega | (simp; done) | (simp; omega)) _))) (IsR.below (IsR.mk Hh) (by repeat (first | exact Below.refl _ _ | assumption | apply Below.drew | refine Below.setCell ?_ (by first | omega | (simp; done) | (simp; omega)) _ | refine Below.alloc ?_ (by first | omega | (simp; done) | (simp; omega)) _)))).mono ?_); rintro e w6 ⟨bt, ot1, lt1, ct1, ot2, lt2, ct2, rfl, Ht, hb6⟩; have e60 : w6.cell? ⟨w.heap.size + 1, 0, none⟩ = some (.bool ba) := cell_on hb6 (by first | (simp [go_sem, *]; done) | (simp [go_sem, World.cell?_alloc_some, *]; done) | fail); have e61 : w6.cell? ⟨w.heap.size + 1, 1, none⟩ = some (Value.slice oa1 la1 ca1) := cell_on hb6 (by first | (simp [go_sem, *]; done) | (simp [go_sem, World.cell?_alloc_some, *]; done) | fail); have e62 : w6.cell? ⟨w.heap.size + 1, 2, none⟩ = some (Value.slice oa2 la2 ca2) := cell_on hb6 (by first | (simp [go_sem, *]; done) | (simp [go_sem, World.cell?_alloc_some, *]; done) | fail); have e63 : w6.cell? ⟨w5.heap.size, 0, none⟩ = some (.bool bh) := cell_on hb6 (by first | (simp [go_sem, *]; done) | (simp [go_sem, World.cell?_alloc_some, *]; done) | fail); have e64 : w6.cell? ⟨w5.heap.size, 1, none⟩ = some (Value.slice oh1 lh1 ch1) := cell_on hb6 (by first | (simp [go_sem, *]; done) | (simp [go_sem, World.cell?_alloc_some, *]; done) | fail); have e65 : w6.cell? ⟨w5.heap.size, 2, none⟩ = some (Value.slice oh2 lh2 ch2) := cell_on hb6 (by first | (simp [go_sem, *]; done) | (simp [go_sem, World.cell?_alloc_some, *]; done) | fail); have s60 : w.heap.size + 1 < w6.heap.size := World.block_lt_of_cell? _ _ e60; have t60 : w.heap.size + 1 < w6.heap.size + 1 := Nat.lt_succ_of_lt s60; have s63 : w5.heap.size < w6.heap.size := World.block_lt_of_cell? _ _ e63; have t63 : w5.heap.size < w6.heap.size + 1 := Nat.lt_succ_of_lt s63; have q6 := hb6.size; (try simp at q6)) | (go_at_call 37; (with_reducible refine (CC.out _ _ _ (IsR.below (IsR.mk Ht) (by repeat (first | exact Below.refl _ _ | assumption | apply Below.drew | refine Below.setCell ?_ (by first | omega | (simp; done) | (simp; omega)) _ | refine Below.alloc ?_ (by first | omega | (simp; done) | (simp; omega)) _))) (IsR.below (IsR.mk Ha) (by repeat (first | exact Below.refl _ _ | assumption | apply Below.drew | refine Below.setCell ?_ (by first | omega | (simp; done) | (simp; omega)) _ | refine Below.alloc ?_ (by first | omega | (simp; done) | (simp; omega)) _ | refine Below.trans ?_ (hb6.mono (by first | omega | (simp; done) | (simp; omega))) | refine Below.trans ?_ (hb5.mono (by first | omega | (simp; done) | (simp; omega))) | refine Below.trans ?_ (hb4.mono (by first | omega | (simp; done) | (simp; omega))) | refine Below.trans ?_ (hb3.mono (by first | omega | (simp; done) | (simp; omega))) | refine Below.trans ?_ (hb2.mono (by first | omega | (simp; done) | (simp; omega))) | refine Below.trans ?_ (hb1.mono (by first | omega | (simp; done) | (simp; omega))))))).mono ?_); rintro e w7 ⟨rfl, hb7⟩; have e70 : w7.cell? ⟨w.heap.size + 1, 0, none⟩ = some (.bool ba) := cell_on hb7 (by first | (simp [go_sem, *]; done) | (simp [go_sem, World.cell?_alloc_some, *]; done) | fail); have e71 : w7.cell? ⟨w.heap.size + 1, 1, none⟩ = some (Value.slice oa1 la1 ca1) := cell_on hb7 (by first | (simp [go_sem, *]; done) | (simp [go_sem, World.cell?_alloc_some, *]; done) | fail); have e72 : w7.cell? ⟨w.heap.size + 1, 2, none⟩ = some (Value.slice oa2 la2 ca2) := cell_on hb7 (by first | (simp [go_sem, *]; done) | (simp [go_sem, World.cell?_alloc_some, *]; done) | fail); have e73 : w7.cell? ⟨w5.heap.size, 0, none⟩ = some (.bool bh) := cell_on hb7 (by first | (simp [go_sem, *]; done) | (simp [go_sem, World.cell?_alloc_some, *]; done) | fail); have e74 : w7.cell? ⟨w5.heap.size, 1, none⟩ = some (Value.slice oh1 lh1 ch1) := cell_on hb7 (by first | (simp [go_sem, *]; done) | (simp [go_sem, World.cell?_alloc_some, *]; done) | fail); have e75 : w7.cell? ⟨w5.heap.size, 2, none⟩ = some (Value.slice oh2 lh2 ch2) := cell_on hb7 (by first | (simp [go_sem, *]; done) | (simp [go_sem, World.cell?_alloc_some, *]; done) | fail); have s70 : w.heap.size + 1 < w7.heap.size := World.block_lt_of_cell? _ _ e70; have t70 : w.heap.size + 1 < w7.heap.size + 1 := Nat.lt_succ_of_lt s70; have s73 : w5.heap.size < w7.heap.size := World.block_lt_of_cell? _ _ e73; have t73 : w5.heap.size < w7.heap.size + 1 := Nat.lt_succ_of_lt s73; have q7 := hb7.size; (try simp at q7)))
  all_goals
    go_wp2_with fail
    go_ret
    refine ⟨rfl, ?_⟩
    repeat (first | exact Below.refl _ _ | assumption | apply Below.drew | refine Below.setCell ?_ (by first | omega | (simp; done) | (simp; omega)) _ | refine Below.alloc ?_ (by first | omega | (simp; done) | (simp; omega)) _ | refine Below.trans ?_ (hb7.mono (by first | omega | (simp; done) | (simp; omega))) | refine Below.trans ?_ (hb6.mono (by first | omega | (simp; done) | (simp; omega))) | refine Below.trans ?_ (hb5.mono (by first | omega | (simp; done) | (simp; omega))) | refine Below.trans ?_ (hb4.mono (by first | omega | (simp; done) | (simp; omega))) | refine Below.trans ?_ (hb3.mono (by first | omega | (simp; done) | (simp; omega))) | refine Below.trans ?_ (hb2.mono (by first | omega | (simp; done) | (simp; omega))) | refine Below.trans ?_ (hb1.mono (by first | omega | (simp; done) | (simp; omega))))
set_option maxRecDepth 100000 in
set_option maxHeartbeats 8000000 in
theorem rootnear_any (x : Value) (P r X : Int) (Q : Nat) (w : World) (h : IsR w x P Q) (P0 : 0 ≤ P) (Q0 : Q ≠ 0) (gP : P.natAbs < LOW) (gQ : Q < LOW) (h1 : (X - 1) * Q < 4 * P) (h2 : 4 * P ≤ X * Q) (hr : Nr X r) (ht : ∀ j : Int, 0 ≤ j → (2 * j + 1) * (2 * j + 1) * Q = P * 4 → j = 0) : Calls Try.prog 78 #[x] w (SomeI w r) := by
  obtain ⟨ba, oa1, la1, ca1, oa2, la2, ca2, rfl, Ha⟩ := h
  have Qp : (0 : Int) < Q := by omega
  obtain ⟨z, hz⟩ : ∃ z : Int, z = dn P Q := ⟨_, rfl⟩
  have ez : z = P / Q := by rw [hz]; exact dn_floor P0 Qp
  have z0 : 0 ≤ z := by rw [ez]; exact Int.ediv_nonneg P0 (by omega)
  have zP : z ≤ P := by rw [ez]; exact Int.ediv_le_self _ P0
  obtain ⟨s, hs⟩ := rt_ex z0
  have s0 := hs.1
  have sz : s ≤ z := by
    rcases Int.lt_or_eq_of_le s0 with g | g
    · have := Int.mul_le_mul_of_nonneg_left (show 1 ≤ s by omega) s0; have := hs.2.1; omega
    · omega
  have gz : z.natAbs < LOW := Nat.lt_of_le_of_lt (by omega) gP
  have gs : s.natAbs < LOW := Nat.lt_of_le_of_lt (by omega) gP
  have FL : Hid (∀ (W : World) (x : Value), IsR W x P Q → Calls Try.prog 111 #[x] W (SomeI W z)) := fun W x h => by rw [hz]; exact rfloor_any x P Q W h (low_big gP).2.2.2.1 (low_big gQ).2.2.2.1 Q0
  have RO : Hid (∀ (W : World) (x : Value), IsI W x z → Calls Try.prog 110 #[x, .int .i64 2] W (SomeI W s)) := fun W x h => iroot_any x z s W h hs gz
  have HF : ∀ c : Int, c = sg ((2 * s + 1) * (2 * s + 1) * Q) (P * 4) → ∀ (W : World) (x y : Value), IsI W x s → IsR W y P Q → Calls Try.prog 112 #[x, y] W fun e w' => e = .returned (.int .i64 c) ∧ Below W.heap.size W w' := fun c hc W x y h j => half_any x y s P c Q W h j gs gP gQ hc
  have hs' : Rt (P / Q) s := by rw [← ez]; exact hs
  rcases Int.lt_trichotomy ((2 * s + 1) * (2 * s + 1) * Q) (P * 4) with g | g | g
  · have er := nr_same hr (near_up Qp h1 h2 hs' g)
    have HF := Lib.hid (HF (-1) (sg_lt g).symm)
    have PL : Hid (∀ (W : World) (x y : Value), IsI W x s → IsI W y 1 → Calls Try.prog 56 #[x, y] W (SomeI W r)) := fun W x y h j => by rw [er]; exact iplus_any x y s 1 W h j (low_big gs).1 one_big
    clear hr er ht h1 h2 hs hs' g gs gz gP gQ sz s0 zP z0 ez hz Qp P0 Q0
    go_enter Try.func78, Try.ntmps78
    go_wp2_with (first | (go_at_call 111; (with_reducible refine (FL.out _ _ (IsR.below (IsR.mk Ha) (by repeat (first | exact Below.refl _ _ | assumption | apply Below.drew | refine Below.setCell ?_ (by first | omega | (simp; done) | (simp; omega)) _ | refine Below.alloc ?_ (by first | omega | (simp; done) | (simp; omega)) _)))).mono ?_); rintro e w1 ⟨vz, rfl, hv, hb1⟩; have e10 : w1.cell? ⟨w.heap.size, 0, none⟩ = some (.bool ba) := cell_on hb1 (by first | (simp [go_sem, *]; done) | (simp [go_sem, World.cell?_alloc_some, *]; done) | fail); have e11 : w1.cell? ⟨w.heap.size, 1, none⟩ = some (Value.slice oa1 la1 ca1) := cell_on hb1 (by first | (simp [go_sem, *]; done) | (simp [go_sem, World.cell?_alloc_some, *]; done) | fail); have e12 : w1.cell? ⟨w.heap.size, 2, none⟩ = some (Value.slice oa2 la2 ca2) := cell_on hb1 (by first | (simp [go_sem, *]; done) | (simp [go_sem, World.cell?_alloc_some, *]; done) | fail); have e13 : w1.cell? ⟨w.heap.size + 1, 0, none⟩ = some (.bool false) := cell_on hb1 (by first | (simp [go_sem, *]; done) | (simp [go_sem, World.cell?_alloc_some, *]; done) | fail); have e14 : w1.cell? ⟨w.heap.size + 1, 1, none⟩ = some (.slice none 0 0) := cell_on hb1 (by first | (simp [go_sem, *]; done) | (simp [go_sem, World.cell?_alloc_some, *]; done) | fail); have s10 : w.heap.size < w1.heap.size := World.block_lt_of_cell? _ _ e10; have t10 : w.heap.size < w1.heap.size + 1 := Nat.lt_succ_of_lt s10; have s13 : w.heap.size + 1 < w1.heap.size := World.block_lt_of_cell? _ _ e13; have t13 : w.heap.size + 1 < w1.heap.size + 1 := Nat.lt_succ_of_lt s13; have y13 : w1.frozen? ⟨w.heap.size + 1, 0, none⟩ = false := frozen_on hb1 (v := .bool false) (by first | (simp [go_sem, *]; done) | (simp [go_sem, World.cell?_alloc_some, *]; done) | fail) (by first | (simp [go_sem, *]; done) | (simp [go_sem, frozen?_alloc_cells, *]; done) | fail); have y14 : w1.frozen? ⟨w.heap.size + 1, 1, none⟩ = false := frozen_on hb1 (v := .slice none 0 0) (by first | (simp [go_sem, *]; done) | (simp [go_sem, World.cell?_alloc_some, *]; done) | fail) (by first | (simp [go_sem, *]; done) | (simp [go_sem, frozen?_alloc_cells, *]; done) | fail); have q1 := hb1.size; (try simp at q1); obtain ⟨bz, oz, lz, cz, rfl, Hz⟩ := hv.open; clear hv) | (go_at_call 110; (with_reducible refine (RO.out _ _ ((IsI.mk Hz.out.1 Hz.out.2.1).below (by repeat (first | exact Below.refl _ _ | assumption | apply Below.drew | refine Below.setCell ?_ (by first | omega | (simp; done) | (simp; omega)) _ | refine Below.alloc ?_ (by first | omega | (simp; done) | (simp; omega)) _)))).mono ?_); rintro e w2 ⟨vk, rfl, hv, hb2⟩; have e20 : w2.cell? ⟨w.heap.size, 0, none⟩ = some (.bool ba) := cell_on hb2 (by first | (simp [go_sem, *]; done) | (simp [go_sem, World.cell?_alloc_some, *]; done) | fail); have e21 : w2.cell? ⟨w.heap.size, 1, none⟩ = some (Value.slice oa1 la1 ca1) := cell_on hb2 (by first | (simp [go_sem, *]; done) | (simp [go_sem, World.cell?_alloc_some, *]; done) | fail); have e22 : w2.cell? ⟨w.heap.size, 2, none⟩ = some (Value.slice oa2 la2 ca2) := cell_on hb2 (by first | (simp [go_sem, *]; done) | (simp [go_sem, World.cell?_alloc_some, *]; done) | fail); have e23 : w2.cell? ⟨w.heap.size + 1, 0, none⟩ = some (.bool false) := cell_on hb2 (by first | (simp [go_sem, *]; done) | (simp [go_sem, World.cell?_alloc_some, *]; done) | fail); have e24 : w2.cell? ⟨w.heap.size + 1, 1, none⟩ = some (.slice none 0 0) := cell_on hb2 (by first | (simp [go_sem, *]; done) | (simp [go_sem, World.cell?_alloc_some, *]; done) | fail); have s20 : w.heap.size < w2.heap.size := World.block_lt_of_cell? _ _ e20; have t20 : w.heap.size < w2.heap.size + 1 := Nat.lt_succ_of_lt s20; have s23 : w.heap.size + 1 < w2.heap.size := World.block_lt_of_cell? _ _ e23; have t23 : w.heap.size + 1 < w2.heap.size + 1 := Nat.lt_succ_of_lt s23; have y23 : w2.frozen? ⟨w.heap.size + 1, 0, none⟩ = false := frozen_on hb2 (v := .bool false) (by first | (simp [go_sem, *]; done) | (simp [go_sem, World.cell?_alloc_some, *]; done) | fail) (by first | (simp [go_sem, *]; done) | (simp [go_sem, frozen?_alloc_cells, *]; done) | fail); have y24 : w2.frozen? ⟨w.heap.size + 1, 1, none⟩ = false := frozen_on hb2 (v := .slice none 0 0) (by first | (simp [go_sem, *]; done) | (simp [go_sem, World.cell?_alloc_some, *]; done) | fail) (by first | (simp [go_sem, *]; done) | (simp [go_sem, frozen?_alloc_cells, *]; done) | fail); have q2 := hb2.size; (try simp at q2); obtain ⟨bk, ok, lk, ck, rfl, Hk⟩ := hv.open; clear hv) | (go_at_call 112; (with_reducible refine (HF.out _ _ _ ((IsI.mk Hk.out.1 Hk.out.2.1).below (by repeat (first | exact Below.refl _ _ | assumption | apply Below.drew | refine Below.setCell ?_ (by first | omega | (simp; done) | (simp; omega)) _ | refine Below.alloc ?_ (by first | omega | (simp; done) | (simp; omega)) _))) (IsR.below (IsR.mk Ha) (by repeat (first | exact Below.refl _ _ | assumption | apply Below.drew | refine Below.setCell ?_ (by first | omega | (simp; done) | (simp; omega)) _ | refine Below.alloc ?_ (by first | omega | (simp; done) | (simp; omega)) _ | refine Below.trans ?_ (hb2.mono (by first | omega | (simp; done) | (simp; omega))) | refine Below.trans ?_ (hb1.mono (by first | omega | (simp; done) | (simp; omega))))))).mono ?_); rintro e w3 ⟨rfl, hb3⟩; have e30 : w3.cell? ⟨w.heap.size + 1, 0, none⟩ = some (.bool false) := cell_on hb3 (by first | (simp [go_sem, *]; done) | (simp [go_sem, World.cell?_alloc_some, *]; done) | fail); have e31 : w3.cell? ⟨w.heap.size + 1, 1, none⟩ = some (.slice none 0 0) := cell_on hb3 (by first | (simp [go_sem, *]; done) | (simp [go_sem, World.cell?_alloc_some, *]; done) | fail); have e32 : w3.cell? ⟨w2.heap.size, 0, none⟩ = some (.bool bk) := cell_on hb3 (by first | (simp [go_sem, *]; done) | (simp [go_sem, World.cell?_alloc_some, *]; done) | fail); have e33 : w3.cell? ⟨w2.heap.size, 1, none⟩ = some (Value.slice ok lk ck) := cell_on hb3 (by first | (simp [go_sem, *]; done) | (simp [go_sem, World.cell?_alloc_some, *]; done) | fail); have s30 : w.heap.size + 1 < w3.heap.size := World.block_lt_of_cell? _ _ e30; have t30 : w.heap.size + 1 < w3.heap.size + 1 := Nat.lt_succ_of_lt s30; have s32 : w2.heap.size < w3.heap.size := World.block_lt_of_cell? _ _ e32; have t32 : w2.heap.size < w3.heap.size + 1 := Nat.lt_succ_of_lt s32; have y30 : w3.frozen? ⟨w.heap.size + 1, 0, none⟩ = false := frozen_on hb3 (v := .bool false) (by first | (simp [go_sem, *]; done) | (simp [go_sem, World.cell?_alloc_some, *]; done) | fail) (by first | (simp [go_sem, *]; done) | (simp [go_sem, frozen?_alloc_cells, *]; done) | fail); have y31 : w3.frozen? ⟨w.heap.size + 1, 1, none⟩ = false := frozen_on hb3 (v := .slice none 0 0) (by first | (simp [go_sem, *]; done) | (simp [go_sem, World.cell?_alloc_some, *]; done) | fail) (by first | (simp [go_sem, *]; done) | (simp [go_sem, frozen?_alloc_cells, *]; done) | fail); have q3 := hb3.size; (try simp at q3)))
    go_region_held3 (fun w' => w'.cell? ⟨w2.heap.size, 0, none⟩ = some (.bool bk) ∧ w'.cell? ⟨w2.heap.size, 1, none⟩ = some (Value.slice ok lk ck)) (first | (simp [go_sem, *]; done) | (simp [go_sem, World.cell?_alloc_some, *]; done)) (first | (go_at_call 33; (with_reducible refine (ifrom_any 1 _ (by decide) (by decide)).mono ?_); rintro e w4 ⟨vf, rfl, hv, hb4⟩; have e40 : w4.cell? ⟨w.heap.size + 1, 0, none⟩ = some (.bool false) := cell_on hb4 (by first | (simp [go_sem, *]; done) | (simp [go_sem, World.cell?_alloc_some, *]; done) | fail); have e41 : w4.cell? ⟨w.heap.size + 1, 1, none⟩ = some (.slice none 0 0) := cell_on hb4 (by first | (simp [go_sem, *]; done) | (simp [go_sem, World.cell?_alloc_some, *]; done) | fail); have e42 : w4.cell? ⟨w2.heap.size, 0, none⟩ = some (.bool bk) := cell_on hb4 (by first | (simp [go_sem, *]; done) | (simp [go_sem, World.cell?_alloc_some, *]; done) | fail); have e43 : w4.cell? ⟨w2.heap.size, 1, none⟩ = some (Value.slice ok lk ck) := cell_on hb4 (by first | (simp [go_sem, *]; done) | (simp [go_sem, World.cell?_alloc_some, *]; done) | fail); have s40 : w.heap.size + 1 < w4.heap.size := World.block_lt_of_cell? _ _ e40; have t40 : w.heap.size + 1 < w4.heap.size + 1 := Nat.lt_succ_of_lt s40; have s42 : w2.heap.size < w4.heap.size := World.block_lt_of_cell? _ _ e42; have t42 : w2.heap.size < w4.heap.size + 1 := Nat.lt_succ_of_lt s42; have y40 : w4.frozen? ⟨w.heap.size + 1, 0, none⟩ = false := frozen_on hb4 (v := .bool false) (by first | (simp [go_sem, *]; done) | (simp [go_sem, World.cell?_alloc_some, *]; done) | fail) (by first | (simp [go_sem, *]; done) | (simp [go_sem, frozen?_alloc_cells, *]; done) | fail); have y41 : w4.frozen? ⟨w.heap.size + 1, 1, none⟩ = false := frozen_on hb4 (v := .slice none 0 0) (by first | (simp [go_sem, *]; done) | (simp [go_sem, World.cell?_alloc_some, *]; done) | fail) (by first | (simp [go_sem, *]; done) | (simp [go_sem, frozen?_alloc_cells, *]; done) | fail); have q4 := hb4.size; (try simp at q4); obtain ⟨bf, of, lf, cf, rfl, Hf⟩ := hv.open; clear hv) | (go_at_call 56; (with_reducible refine (PL.out _ _ _ ((IsI.mk Hk.out.1 Hk.out.2.1).below (by repeat (first | exact Below.refl _ _ | assumption | apply Below.drew | refine Below.setCell ?_ (by first | omega | (simp; done) | (simp; omega)) _ | refine Below.alloc ?_ (by first | omega | (simp; done) | (simp; omega)) _ | refine Below.trans ?_ (hb4.mono (by first | omega | (simp; done) | (simp; omega))) | refine Below.trans ?_ (hb3.mono (by first | omega | (simp; done) | (simp; omega)))))) ((IsI.mk Hf.out.1 Hf.out.2.1).below (by repeat (first | exact Below.refl _ _ | assumption | apply Below.drew | refine Below.setCell ?_ (by first | omega | (simp; done) | (simp; omega)) _ | refine Below.alloc ?_ (by first | omega | (simp; done) | (simp; omega)) _)))).mono ?_); rintro e w5 ⟨vp, rfl, hv, hb5⟩; have e50 : w5.cell? ⟨w.heap.size + 1, 0, none⟩ = some (.bool false) := cell_on hb5 (by first | (simp [go_sem, *]; done) | (simp [go_sem, World.cell?_alloc_some, *]; done) | fail); have e51 : w5.cell? ⟨w.heap.size + 1, 1, none⟩ = some (.slice none 0 0) := cell_on hb5 (by first | (simp [go_sem, *]; done) | (simp [go_sem, World.cell?_alloc_some, *]; done) | fail); have e52 : w5.cell? ⟨w2.heap.size, 0, none⟩ = some (.bool bk) := cell_on hb5 (by first | (simp [go_sem, *]; done) | (simp [go_sem, World.cell?_alloc_some, *]; done) | fail); have e53 : w5.cell? ⟨w2.heap.size, 1, none⟩ = some (Value.slice ok lk ck) := cell_on hb5 (by first | (simp [go_sem, *]; done) | (simp [go_sem, World.cell?_alloc_some, *]; done) | fail); have s50 : w.heap.size + 1 < w5.heap.size := World.block_lt_of_cell? _ _ e50; have t50 : w.heap.size + 1 < w5.heap.size + 1 := Nat.lt_succ_of_lt s50; have s52 : w2.heap.size < w5.heap.size := World.block_lt_of_cell? _ _ e52; have t52 : w2.heap.size < w5.heap.size + 1 := Nat.lt_succ_of_lt s52; have y50 : w5.frozen? ⟨w.heap.size + 1, 0, none⟩ = false := frozen_on hb5 (v := .bool false) (by first | (simp [go_sem, *]; done) | (simp [go_sem, World.cell?_alloc_some, *]; done) | fail) (by first | (simp [go_sem, *]; done) | (simp [go_sem, frozen?_alloc_cells, *]; done) | fail); have y51 : w5.frozen? ⟨w.heap.size + 1, 1, none⟩ = false := frozen_on hb5 (v := .slice none 0 0) (by first | (simp [go_sem, *]; done) | (simp [go_sem, World.cell?_alloc_some, *]; done) | fail) (by first | (simp [go_sem, *]; done) | (simp [go_sem, frozen?_alloc_cells, *]; done) | fail); have q5 := hb5.size; (try simp at q5); obtain ⟨bp, op, lp, cp, rfl, Hp⟩ := hv.open; clear hv))
    all_goals
      go_wp2_with fail
      refine bodyPost_ret (v := Iv bp (.slice op lp cp)) (by simp [results, Try.results78, go_sem, *]) rfl ⟨_, rfl, ?_, ?_⟩
      · exact IsI.put (v0 := .bool false) (v1 := .slice none 0 0) ((IsI.mk Hp.out.1 Hp.out.2.1).below (by repeat (first | exact Below.refl _ _ | assumption | apply Below.drew | refine Below.setCell ?_ (by first | omega | (simp; done) | (simp; omega)) _ | refine Below.alloc ?_ (by first | omega | (simp; done) | (simp; omega)) _))) e50 (by simp) e51 (by simp)
      · repeat (first | exact Below.refl _ _ | assumption | apply Below.drew | refine Below.setCell ?_ (by first | omega | (simp; done) | (simp; omega)) _ | refine Below.alloc ?_ (by first | omega | (simp; done) | (simp; omega)) _ | refine Below.trans ?_ (hb5.mono (by first | omega | (simp; done) | (simp; omega))) | refine Below.trans ?_ (hb4.mono (by first | omega | (simp; done) | (simp; omega))) | refine Below.trans ?_ (hb3.mono (by first | omega | (simp; done) | (simp; omega))) | refine Below.trans ?_ (hb2.mono (by first | omega | (simp; done) | (simp; omega))) | refine Below.trans ?_ (hb1.mono (by first | omega | (simp; done) | (simp; omega))))
  · have er := nr_same hr (near_stay Qp h1 h2 hs' (by omega))
    have sn := ht s s0 g
    subst sn
    subst er
    have HF := Lib.hid (HF 0 (by rw [g]; exact (sg_eq _).symm))
    have RI : Hid (∀ (W : World) (x : Value), IsI W x 0 → Calls Try.prog 113 #[x, .int .i64 1] W (SomeI W 0)) := fun W x h => iright_any x 0 1 W h zero_big (by decide)
    have LE : Hid (∀ (W : World) (x : Value), IsI W x 0 → Calls Try.prog 34 #[x, .int .i64 1] W (SomeI W 0)) := fun W x h => ileft_any x 0 1 W h zero_big (by decide)
    have CM : Hid (∀ (W : World) (x y : Value), IsI W x 0 → IsI W y 0 → Calls Try.prog 35 #[x, y] W fun e w' => e = .returned (.int .i64 0) ∧ Below W.heap.size W w') := fun W x y h j => icmp_any x y 0 0 W h j zero_big zero_big
    clear hr ht h1 h2 hs hs' g gs gz gP gQ sz s0 zP z0 ez hz Qp P0 Q0
    go_enter Try.func78, Try.ntmps78
    go_wp2_with (first | (go_at_call 111; (with_reducible refine (FL.out _ _ (IsR.below (IsR.mk Ha) (by repeat (first | exact Below.refl _ _ | assumption | apply Below.drew | refine Below.setCell ?_ (by first | omega | (simp; done) | (simp; omega)) _ | refine Below.alloc ?_ (by first | omega | (simp; done) | (simp; omega)) _)))).mono ?_); rintro e w1 ⟨vz, rfl, hv, hb1⟩; have e10 : w1.cell? ⟨w.heap.size, 0, none⟩ = some (.bool ba) := cell_on hb1 (by first | (simp [go_sem, *]; done) | (simp [go_sem, World.cell?_alloc_some, *]; done) | fail); have e11 : w1.cell? ⟨w.heap.size, 1, none⟩ = some (Value.slice oa1 la1 ca1) := cell_on hb1 (by first | (simp [go_sem, *]; done) | (simp [go_sem, World.cell?_alloc_some, *]; done) | fail); have e12 : w1.cell? ⟨w.heap.size, 2, none⟩ = some (Value.slice oa2 la2 ca2) := cell_on hb1 (by first | (simp [go_sem, *]; done) | (simp [go_sem, World.cell?_alloc_some, *]; done) | fail); have e13 : w1.cell? ⟨w.heap.size + 1, 0, none⟩ = some (.bool false) := cell_on hb1 (by first | (simp [go_sem, *]; done) | (simp [go_sem, World.cell?_alloc_some, *]; done) | fail); have e14 : w1.cell? ⟨w.heap.size + 1, 1, none⟩ = some (.slice none 0 0) := cell_on hb1 (by first | (simp [go_sem, *]; done) | (simp [go_sem, World.cell?_alloc_some, *]; done) | fail); have s10 : w.heap.size < w1.heap.size := World.block_lt_of_cell? _ _ e10; have t10 : w.heap.size < w1.heap.size + 1 := Nat.lt_succ_of_lt s10; have s13 : w.heap.size + 1 < w1.heap.size := World.block_lt_of_cell? _ _ e13; have t13 : w.heap.size + 1 < w1.heap.size + 1 := Nat.lt_succ_of_lt s13; have y13 : w1.frozen? ⟨w.heap.size + 1, 0, none⟩ = false := frozen_on hb1 (v := .bool false) (by first | (simp [go_sem, *]; done) | (simp [go_sem, World.cell?_alloc_some, *]; done) | fail) (by first | (simp [go_sem, *]; done) | (simp [go_sem, frozen?_alloc_cells, *]; done) | fail); have y14 : w1.frozen? ⟨w.heap.size + 1, 1, none⟩ = false := frozen_on hb1 (v := .slice none 0 0) (by first | (simp [go_sem, *]; done) | (simp [go_sem, World.cell?_alloc_some, *]; done) | fail) (by first | (simp [go_sem, *]; done) | (simp [go_sem, frozen?_alloc_cells, *]; done) | fail); have q1 := hb1.size; (try simp at q1); obtain ⟨bz, oz, lz, cz, rfl, Hz⟩ := hv.open; clear hv) | (go_at_call 110; (with_reducible refine (RO.out _ _ ((IsI.mk Hz.out.1 Hz.out.2.1).below (by repeat (first | exact Below.refl _ _ | assumption | apply Below.drew | refine Below.setCell ?_ (by first | omega | (simp; done) | (simp; omega)) _ | refine Below.alloc ?_ (by first | omega | (simp; done) | (simp; omega)) _)))).mono ?_); rintro e w2 ⟨vk, rfl, hv, hb2⟩; have e20 : w2.cell? ⟨w.heap.size, 0, none⟩ = some (.bool ba) := cell_on hb2 (by first | (simp [go_sem, *]; done) | (simp [go_sem, World.cell?_alloc_some, *]; done) | fail); have e21 : w2.cell? ⟨w.heap.size, 1, none⟩ = some (Value.slice oa1 la1 ca1) := cell_on hb2 (by first | (simp [go_sem, *]; done) | (simp [go_sem, World.cell?_alloc_some, *]; done) | fail); have e22 : w2.cell? ⟨w.heap.size, 2, none⟩ = some (Value.slice oa2 la2 ca2) := cell_on hb2 (by first | (simp [go_sem, *]; done) | (simp [go_sem, World.cell?_alloc_some, *]; done) | fail); have e23 : w2.cell? ⟨w.heap.size + 1, 0, none⟩ = some (.bool false) := cell_on hb2 (by first | (simp [go_sem, *]; done) | (simp [go_sem, World.cell?_alloc_some, *]; done) | fail); have e24 : w2.cell? ⟨w.heap.size + 1, 1, none⟩ = some (.slice none 0 0) := cell_on hb2 (by first | (simp [go_sem, *]; done) | (simp [go_sem, World.cell?_alloc_some, *]; done) | fail); have s20 : w.heap.size < w2.heap.size := World.block_lt_of_cell? _ _ e20; have t20 : w.heap.size < w2.heap.size + 1 := Nat.lt_succ_of_lt s20; have s23 : w.heap.size + 1 < w2.heap.size := World.block_lt_of_cell? _ _ e23; have t23 : w.heap.size + 1 < w2.heap.size + 1 := Nat.lt_succ_of_lt s23; have y23 : w2.frozen? ⟨w.heap.size + 1, 0, none⟩ = false := frozen_on hb2 (v := .bool false) (by first | (simp [go_sem, *]; done) | (simp [go_sem, World.cell?_alloc_some, *]; done) | fail) (by first | (simp [go_sem, *]; done) | (simp [go_sem, frozen?_alloc_cells, *]; done) | fail); have y24 : w2.frozen? ⟨w.heap.size + 1, 1, none⟩ = false := frozen_on hb2 (v := .slice none 0 0) (by first | (simp [go_sem, *]; done) | (simp [go_sem, World.cell?_alloc_some, *]; done) | fail) (by first | (simp [go_sem, *]; done) | (simp [go_sem, frozen?_alloc_cells, *]; done) | fail); have q2 := hb2.size; (try simp at q2); obtain ⟨bk, ok, lk, ck, rfl, Hk⟩ := hv.open; clear hv) | (go_at_call 112; (with_reducible refine (HF.out _ _ _ ((IsI.mk Hk.out.1 Hk.out.2.1).below (by repeat (first | exact Below.refl _ _ | assumption | apply Below.drew | refine Below.setCell ?_ (by first | omega | (simp; done) | (simp; omega)) _ | refine Below.alloc ?_ (by first | omega | (simp; done) | (simp; omega)) _))) (IsR.below (IsR.mk Ha) (by repeat (first | exact Below.refl _ _ | assumption | apply Below.drew | refine Below.setCell ?_ (by first | omega | (simp; done) | (simp; omega)) _ | refine Below.alloc ?_ (by first | omega | (simp; done) | (simp; omega)) _ | refine Below.trans ?_ (hb2.mono (by first | omega | (simp; done) | (simp; omega))) | refine Below.trans ?_ (hb1.mono (by first | omega | (simp; done) | (simp; omega))))))).mono ?_); rintro e w3 ⟨rfl, hb3⟩; have e30 : w3.cell? ⟨w.heap.size + 1, 0, none⟩ = some (.bool false) := cell_on hb3 (by first | (simp [go_sem, *]; done) | (simp [go_sem, World.cell?_alloc_some, *]; done) | fail); have e31 : w3.cell? ⟨w.heap.size + 1, 1, none⟩ = some (.slice none 0 0) := cell_on hb3 (by first | (simp [go_sem, *]; done) | (simp [go_sem, World.cell?_alloc_some, *]; done) | fail); have e32 : w3.cell? ⟨w2.heap.size, 0, none⟩ = some (.bool bk) := cell_on hb3 (by first | (simp [go_sem, *]; done) | (simp [go_sem, World.cell?_alloc_some, *]; done) | fail); have e33 : w3.cell? ⟨w2.heap.size, 1, none⟩ = some (Value.slice ok lk ck) := cell_on hb3 (by first | (simp [go_sem, *]; done) | (simp [go_sem, World.cell?_alloc_some, *]; done) | fail); have s30 : w.heap.size + 1 < w3.heap.size := World.block_lt_of_cell? _ _ e30; have t30 : w.heap.size + 1 < w3.heap.size + 1 := Nat.lt_succ_of_lt s30; have s32 : w2.heap.size < w3.heap.size := World.block_lt_of_cell? _ _ e32; have t32 : w2.heap.size < w3.heap.size + 1 := Nat.lt_succ_of_lt s32; have y30 : w3.frozen? ⟨w.heap.size + 1, 0, none⟩ = false := frozen_on hb3 (v := .bool false) (by first | (simp [go_sem, *]; done) | (simp [go_sem, World.cell?_alloc_some, *]; done) | fail) (by first | (simp [go_sem, *]; done) | (simp [go_sem, frozen?_alloc_cells, *]; done) | fail); have y31 : w3.frozen? ⟨w.heap.size + 1, 1, none⟩ = false := frozen_on hb3 (v := .slice none 0 0) (by first | (simp [go_sem, *]; done) | (simp [go_sem, World.cell?_alloc_some, *]; done) | fail) (by first | (simp [go_sem, *]; done) | (simp [go_sem, frozen?_alloc_cells, *]; done) | fail); have q3 := hb3.size; (try simp at q3)))
    go_region_held3 (fun w' => w'.cell? ⟨w2.heap.size, 0, none⟩ = some (.bool bk) ∧ w'.cell? ⟨w2.heap.size, 1, none⟩ = some (Value.slice ok lk ck)) (first | (simp [go_sem, *]; done) | (simp [go_sem, World.cell?_alloc_some, *]; done)) (first | (go_at_call 113; (with_reducible refine (RI.out _ _ ((IsI.mk Hk.out.1 Hk.out.2.1).below (by repeat (first | exact Below.refl _ _ | assumption | apply Below.drew | refine Below.setCell ?_ (by first | omega | (simp; done) | (simp; omega)) _ | refine Below.alloc ?_ (by first | omega | (simp; done) | (simp; omega)) _ | refine Below.trans ?_ (hb3.mono (by first | omega | (simp; done) | (simp; omega))))))).mono ?_); rintro e w4 ⟨vg, rfl, hv, hb4⟩; have e40 : w4.cell? ⟨w.heap.size + 1, 0, none⟩ = some (.bool false) := cell_on hb4 (by first | (simp [go_sem, *]; done) | (simp [go_sem, World.cell?_alloc_some, *]; done) | fail); have e41 : w4.cell? ⟨w.heap.size + 1, 1, none⟩ = some (.slice none 0 0) := cell_on hb4 (by first | (simp [go_sem, *]; done) | (simp [go_sem, World.cell?_alloc_some, *]; done) | fail); have e42 : w4.cell? ⟨w2.heap.size, 0, none⟩ = some (.bool bk) := cell_on hb4 (by first | (simp [go_sem, *]; done) | (simp [go_sem, World.cell?_alloc_some, *]; done) | fail); have e43 : w4.cell? ⟨w2.heap.size, 1, none⟩ = some (Value.slice ok lk ck) := cell_on hb4 (by first | (simp [go_sem, *]; done) | (simp [go_sem, World.cell?_alloc_some, *]; done) | fail); have s40 : w.heap.size + 1 < w4.heap.size := World.block_lt_of_cell? _ _ e40; have t40 : w.heap.size + 1 < w4.heap.size + 1 := Nat.lt_succ_of_lt s40; have s42 : w2.heap.size < w4.heap.size := World.block_lt_of_cell? _ _ e42; have t42 : w2.heap.size < w4.heap.size + 1 := Nat.lt_succ_of_lt s42; have y40 : w4.frozen? ⟨w.heap.size + 1, 0, none⟩ = false := frozen_on hb4 (v := .bool false) (by first | (simp [go_sem, *]; done) | (simp [go_sem, World.cell?_alloc_some, *]; done) | fail) (by first | (simp [go_sem, *]; done) | (simp [go_sem, frozen?_alloc_cells, *]; done) | fail); have y41 : w4.frozen? ⟨w.heap.size + 1, 1, none⟩ = false := frozen_on hb4 (v := .slice none 0 0) (by first | (simp [go_sem, *]; done) | (simp [go_sem, World.cell?_alloc_some, *]; done) | fail) (by first | (simp [go_sem, *]; done) | (simp [go_sem, frozen?_alloc_cells, *]; done) | fail); have q4 := hb4.size; (try simp at q4); obtain ⟨bg, og, lg, cg, rfl, Hg⟩ := hv.open; clear hv) | (go_at_call 34; (with_reducible refine (LE.out _ _ ((IsI.mk Hg.out.1 Hg.out.2.1).below (by repeat (first | exact Below.refl _ _ | assumption | apply Below.drew | refine Below.setCell ?_ (by first | omega | (simp; done) | (simp; omega)) _ | refine Below.alloc ?_ (by first | omega | (simp; done) | (simp; omega)) _)))).mono ?_); rintro e w5 ⟨vp, rfl, hv, hb5⟩; have e50 : w5.cell? ⟨w.heap.size + 1, 0, none⟩ = some (.bool false) := cell_on hb5 (by first | (simp [go_sem, *]; done) | (simp [go_sem, World.cell?_alloc_some, *]; done) | fail); have e51 : w5.cell? ⟨w.heap.size + 1, 1, none⟩ = some (.slice none 0 0) := cell_on hb5 (by first | (simp [go_sem, *]; done) | (simp [go_sem, World.cell?_alloc_some, *]; done) | fail); have e52 : w5.cell? ⟨w2.heap.size, 0, none⟩ = some (.bool bk) := cell_on hb5 (by first | (simp [go_sem, *]; done) | (simp [go_sem, World.cell?_alloc_some, *]; done) | fail); have e53 : w5.cell? ⟨w2.heap.size, 1, none⟩ = some (Value.slice ok lk ck) := cell_on hb5 (by first | (simp [go_sem, *]; done) | (simp [go_sem, World.cell?_alloc_some, *]; done) | fail); have s50 : w.heap.size + 1 < w5.heap.size := World.block_lt_of_cell? _ _ e50; have t50 : w.heap.size + 1 < w5.heap.size + 1 := Nat.lt_succ_of_lt s50; have s52 : w2.heap.size < w5.heap.size := World.block_lt_of_cell? _ _ e52; have t52 : w2.heap.size < w5.heap.size + 1 := Nat.lt_succ_of_lt s52; have y50 : w5.frozen? ⟨w.heap.size + 1, 0, none⟩ = false := frozen_on hb5 (v := .bool false) (by first | (simp [go_sem, *]; done) | (simp [go_sem, World.cell?_alloc_some, *]; done) | fail) (by first | (simp [go_sem, *]; done) | (simp [go_sem, frozen?_alloc_cells, *]; done) | fail); have y51 : w5.frozen? ⟨w.heap.size + 1, 1, none⟩ = false := frozen_on hb5 (v := .slice none 0 0) (by first | (simp [go_sem, *]; done) | (simp [go_sem, World.cell?_alloc_some, *]; done) | fail) (by first | (simp [go_sem, *]; done) | (simp [go_sem, frozen?_alloc_cells, *]; done) | fail); have q5 := hb5.size; (try simp at q5); obtain ⟨bp, op, lp, cp, rfl, Hp⟩ := hv.open; clear hv) | (go_at_call 35; (with_reducible refine (CM.out _ _ _ ((IsI.mk Hp.out.1 Hp.out.2.1).below (by repeat (first | exact Below.refl _ _ | assumption | apply Below.drew | refine Below.setCell ?_ (by first | omega | (simp; done) | (simp; omega)) _ | refine Below.alloc ?_ (by first | omega | (simp; done) | (simp; omega)) _))) ((IsI.mk Hk.out.1 Hk.out.2.1).below (by repeat (first | exact Below.refl _ _ | assumption | apply Below.drew | refine Below.setCell ?_ (by first | omega | (simp; done) | (simp; omega)) _ | refine Below.alloc ?_ (by first | omega | (simp; done) | (simp; omega)) _ | refine Below.trans ?_ (hb5.mono (by first | omega | (simp; done) | (simp; omega))) | refine Below.trans ?_ (hb4.mono (by first | omega | (simp; done) | (simp; omega))) | refine Below.trans ?_ (hb3.mono (by first | omega | (simp; done) | (simp; omega))))))).mono ?_); rintro e w6 ⟨rfl, hb6⟩; have e60 : w6.cell? ⟨w.heap.size + 1, 0, none⟩ = some (.bool false) := cell_on hb6 (by first | (simp [go_sem, *]; done) | (simp [go_sem, World.cell?_alloc_some, *]; done) | fail); have e61 : w6.cell? ⟨w.heap.size + 1, 1, none⟩ = some (.slice none 0 0) := cell_on hb6 (by first | (simp [go_sem, *]; done) | (simp [go_sem, World.cell?_alloc_some, *]; done) | fail); have e62 : w6.cell? ⟨w2.heap.size, 0, none⟩ = some (.bool bk) := cell_on hb6 (by first | (simp [go_sem, *]; done) | (simp [go_sem, World.cell?_alloc_some, *]; done) | fail); have e63 : w6.cell? ⟨w2.heap.size, 1, none⟩ = some (Value.slice ok lk ck) := cell_on hb6 (by first | (simp [go_sem, *]; done) | (simp [go_sem, World.cell?_alloc_some, *]; done) | fail); have s60 : w.heap.size + 1 < w6.heap.size := World.block_lt_of_cell? _ _ e60; have t60 : w.heap.size + 1 < w6.heap.size + 1 := Nat.lt_succ_of_lt s60; have s62 : w2.heap.size < w6.heap.size := World.block_lt_of_cell? _ _ e62; have t62 : w2.heap.size < w6.heap.size + 1 := Nat.lt_succ_of_lt s62; have y60 : w6.frozen? ⟨w.heap.size + 1, 0, none⟩ = false := frozen_on hb6 (v := .bool false) (by first | (simp [go_sem, *]; done) | (simp [go_sem, World.cell?_alloc_some, *]; done) | fail) (by first | (simp [go_sem, *]; done) | (simp [go_sem, frozen?_alloc_cells, *]; done) | fail); have y61 : w6.frozen? ⟨w.heap.size + 1, 1, none⟩ = false := frozen_on hb6 (v := .slice none 0 0) (by first | (simp [go_sem, *]; done) | (simp [go_sem, World.cell?_alloc_some, *]; done) | fail) (by first | (simp [go_sem, *]; done) | (simp [go_sem, frozen?_alloc_cells, *]; done) | fail); have q6 := hb6.size; (try simp at q6)))
    all_goals
      go_wp2_with fail
      refine bodyPost_ret (v := Iv bk (.slice ok lk ck)) (by simp [results, Try.results78, go_sem, *]) rfl ⟨_, rfl, ?_, ?_⟩
      · exact IsI.put (v0 := .bool false) (v1 := .slice none 0 0) ((IsI.mk Hk.out.1 Hk.out.2.1).below (by repeat (first | exact Below.refl _ _ | assumption | apply Below.drew | refine Below.setCell ?_ (by first | omega | (simp; done) | (simp; omega)) _ | refine Below.alloc ?_ (by first | omega | (simp; done) | (simp; omega)) _ | refine Below.trans ?_ (hb6.mono (by first | omega | (simp; done) | (simp; omega))) | refine Below.trans ?_ (hb5.mono (by first | omega | (simp; done) | (simp; omega))) | refine Below.trans ?_ (hb4.mono (by first | omega | (simp; done) | (simp; omega))) | refine Below.trans ?_ (hb3.mono (by first | omega | (simp; done) | (simp; omega)))))) e60 (by simp) e61 (by simp)
      · repeat (first | exact Below.refl _ _ | assumption | apply Below.drew | refine Below.setCell ?_ (by first | omega | (simp; done) | (simp; omega)) _ | refine Below.alloc ?_ (by first | omega | (simp; done) | (simp; omega)) _ | refine Below.trans ?_ (hb6.mono (by first | omega | (simp; done) | (simp; omega))) | refine Below.trans ?_ (hb5.mono (by first | omega | (simp; done) | (simp; omega))) | refine Below.trans ?_ (hb4.mono (by first | omega | (simp; done) | (simp; omega))) | refine Below.trans ?_ (hb3.mono (by first | omega | (simp; done) | (simp; omega))) | refine Below.trans ?_ (hb2.mono (by first | omega | (simp; done) | (simp; omega))) | refine Below.trans ?_ (hb1.mono (by first | omega | (simp; done) | (simp; omega))))
  · have er := nr_same hr (near_stay Qp h1 h2 hs' (by omega))
    subst er
    have HF := Lib.hid (HF 1 (sg_gt g).symm)
    clear hr ht h1 h2 hs hs' g gs gz gP gQ sz s0 zP z0 ez hz Qp P0 Q0
    go_enter Try.func78, Try.ntmps78
    go_wp2_with (first | (go_at_call 111; (with_reducible refine (FL.out _ _ (IsR.below (IsR.mk Ha) (by repeat (first | exact Below.refl _ _ | assumption | apply Below.drew | refine Below.setCell ?_ (by first | omega | (simp; done) | (simp; omega)) _ | refine Below.alloc ?_ (by first | omega | (simp; done) | (simp; omega)) _)))).mono ?_); rintro e w1 ⟨vz, rfl, hv, hb1⟩; have e10 : w1.cell? ⟨w.heap.size, 0, none⟩ = some (.bool ba) := cell_on hb1 (by first | (simp [go_sem, *]; done) | (simp [go_sem, World.cell?_alloc_some, *]; done) | fail); have e11 : w1.cell? ⟨w.heap.size, 1, none⟩ = some (Value.slice oa1 la1 ca1) := cell_on hb1 (by first | (simp [go_sem, *]; done) | (simp [go_sem, World.cell?_alloc_some, *]; done) | fail); have e12 : w1.cell? ⟨w.heap.size, 2, none⟩ = some (Value.slice oa2 la2 ca2) := cell_on hb1 (by first | (simp [go_sem, *]; done) | (simp [go_sem, World.cell?_alloc_some, *]; done) | fail); have e13 : w1.cell? ⟨w.heap.size + 1, 0, none⟩ = some (.bool false) := cell_on hb1 (by first | (simp [go_sem, *]; done) | (simp [go_sem, World.cell?_alloc_some, *]; done) | fail); have e14 : w1.cell? ⟨w.heap.size + 1, 1, none⟩ = some (.slice none 0 0) := cell_on hb1 (by first | (simp [go_sem, *]; done) | (simp [go_sem, World.cell?_alloc_some, *]; done) | fail); have s10 : w.heap.size < w1.heap.size := World.block_lt_of_cell? _ _ e10; have t10 : w.heap.size < w1.heap.size + 1 := Nat.lt_succ_of_lt s10; have s13 : w.heap.size + 1 < w1.heap.size := World.block_lt_of_cell? _ _ e13; have t13 : w.heap.size + 1 < w1.heap.size + 1 := Nat.lt_succ_of_lt s13; have y13 : w1.frozen? ⟨w.heap.size + 1, 0, none⟩ = false := frozen_on hb1 (v := .bool false) (by first | (simp [go_sem, *]; done) | (simp [go_sem, World.cell?_alloc_some, *]; done) | fail) (by first | (simp [go_sem, *]; done) | (simp [go_sem, frozen?_alloc_cells, *]; done) | fail); have y14 : w1.frozen? ⟨w.heap.size + 1, 1, none⟩ = false := frozen_on hb1 (v := .slice none 0 0) (by first | (simp [go_sem, *]; done) | (simp [go_sem, World.cell?_alloc_some, *]; done) | fail) (by first | (simp [go_sem, *]; done) | (simp [go_sem, frozen?_alloc_cells, *]; done) | fail); have q1 := hb1.size; (try simp at q1); obtain ⟨bz, oz, lz, cz, rfl, Hz⟩ := hv.open; clear hv) | (go_at_call 110; (with_reducible refine (RO.out _ _ ((IsI.mk Hz.out.1 Hz.out.2.1).below (by repeat (first | exact Below.refl _ _ | assumption | apply Below.drew | refine Below.setCell ?_ (by first | omega | (simp; done) | (simp; omega)) _ | refine Below.alloc ?_ (by first | omega | (simp; done) | (simp; omega)) _)))).mono ?_); rintro e w2 ⟨vk, rfl, hv, hb2⟩; have e20 : w2.cell? ⟨w.heap.size, 0, none⟩ = some (.bool ba) := cell_on hb2 (by first | (simp [go_sem, *]; done) | (simp [go_sem, World.cell?_alloc_some, *]; done) | fail); have e21 : w2.cell? ⟨w.heap.size, 1, none⟩ = some (Value.slice oa1 la1 ca1) := cell_on hb2 (by first | (simp [go_sem, *]; done) | (simp [go_sem, World.cell?_alloc_some, *]; done) | fail); have e22 : w2.cell? ⟨w.heap.size, 2, none⟩ = some (Value.slice oa2 la2 ca2) := cell_on hb2 (by first | (simp [go_sem, *]; done) | (simp [go_sem, World.cell?_alloc_some, *]; done) | fail); have e23 : w2.cell? ⟨w.heap.size + 1, 0, none⟩ = some (.bool false) := cell_on hb2 (by first | (simp [go_sem, *]; done) | (simp [go_sem, World.cell?_alloc_some, *]; done) | fail); have e24 : w2.cell? ⟨w.heap.size + 1, 1, none⟩ = some (.slice none 0 0) := cell_on hb2 (by first | (simp [go_sem, *]; done) | (simp [go_sem, World.cell?_alloc_some, *]; done) | fail); have s20 : w.heap.size < w2.heap.size := World.block_lt_of_cell? _ _ e20; have t20 : w.heap.size < w2.heap.size + 1 := Nat.lt_succ_of_lt s20; have s23 : w.heap.size + 1 < w2.heap.size := World.block_lt_of_cell? _ _ e23; have t23 : w.heap.size + 1 < w2.heap.size + 1 := Nat.lt_succ_of_lt s23; have y23 : w2.frozen? ⟨w.heap.size + 1, 0, none⟩ = false := frozen_on hb2 (v := .bool false) (by first | (simp [go_sem, *]; done) | (simp [go_sem, World.cell?_alloc_some, *]; done) | fail) (by first | (simp [go_sem, *]; done) | (simp [go_sem, frozen?_alloc_cells, *]; done) | fail); have y24 : w2.frozen? ⟨w.heap.size + 1, 1, none⟩ = false := frozen_on hb2 (v := .slice none 0 0) (by first | (simp [go_sem, *]; done) | (simp [go_sem, World.cell?_alloc_some, *]; done) | fail) (by first | (simp [go_sem, *]; done) | (simp [go_sem, frozen?_alloc_cells, *]; done) | fail); have q2 := hb2.size; (try simp at q2); obtain ⟨bk, ok, lk, ck, rfl, Hk⟩ := hv.open; clear hv) | (go_at_call 112; (with_reducible refine (HF.out _ _ _ ((IsI.mk Hk.out.1 Hk.out.2.1).below (by repeat (first | exact Below.refl _ _ | assumption | apply Below.drew | refine Below.setCell ?_ (by first | omega | (simp; done) | (simp; omega)) _ | refine Below.alloc ?_ (by first | omega | (simp; done) | (simp; omega)) _))) (IsR.below (IsR.mk Ha) (by repeat (first | exact Below.refl _ _ | assumption | apply Below.drew | refine Below.setCell ?_ (by first | omega | (simp; done) | (simp; omega)) _ | refine Below.alloc ?_ (by first | omega | (simp; done) | (simp; omega)) _ | refine Below.trans ?_ (hb2.mono (by first | omega | (simp; done) | (simp; omega))) | refine Below.trans ?_ (hb1.mono (by first | omega | (simp; done) | (simp; omega))))))).mono ?_); rintro e w3 ⟨rfl, hb3⟩; have e30 : w3.cell? ⟨w.heap.size + 1, 0, none⟩ = some (.bool false) := cell_on hb3 (by first | (simp [go_sem, *]; done) | (simp [go_sem, World.cell?_alloc_some, *]; done) | fail); have e31 : w3.cell? ⟨w.heap.size + 1, 1, none⟩ = some (.slice none 0 0) := cell_on hb3 (by first | (simp [go_sem, *]; done) | (simp [go_sem, World.cell?_alloc_some, *]; done) | fail); have e32 : w3.cell? ⟨w2.heap.size, 0, none⟩ = some (.bool bk) := cell_on hb3 (by first | (simp [go_sem, *]; done) | (simp [go_sem, World.cell?_alloc_some, *]; done) | fail); have e33 : w3.cell? ⟨w2.heap.size, 1, none⟩ = some (Value.slice ok lk ck) := cell_on hb3 (by first | (simp [go_sem, *]; done) | (simp [go_sem, World.cell?_alloc_some, *]; done) | fail); have s30 : w.heap.size + 1 < w3.heap.size := World.block_lt_of_cell? _ _ e30; have t30 : w.heap.size + 1 < w3.heap.size + 1 := Nat.lt_succ_of_lt s30; have s32 : w2.heap.size < w3.heap.size := World.block_lt_of_cell? _ _ e32; have t32 : w2.heap.size < w3.heap.size + 1 := Nat.lt_succ_of_lt s32; have y30 : w3.frozen? ⟨w.heap.size + 1, 0, none⟩ = false := frozen_on hb3 (v := .bool false) (by first | (simp [go_sem, *]; done) | (simp [go_sem, World.cell?_alloc_some, *]; done) | fail) (by first | (simp [go_sem, *]; done) | (simp [go_sem, frozen?_alloc_cells, *]; done) | fail); have y31 : w3.frozen? ⟨w.heap.size + 1, 1, none⟩ = false := frozen_on hb3 (v := .slice none 0 0) (by first | (simp [go_sem, *]; done) | (simp [go_sem, World.cell?_alloc_some, *]; done) | fail) (by first | (simp [go_sem, *]; done) | (simp [go_sem, frozen?_alloc_cells, *]; done) | fail); have q3 := hb3.size; (try simp at q3)))
    refine bodyPost_ret (v := Iv bk (.slice ok lk ck)) (by simp [results, Try.results78, go_sem, *]) rfl ⟨_, rfl, ?_, ?_⟩
    · exact IsI.put (v0 := .bool false) (v1 := .slice none 0 0) ((IsI.mk Hk.out.1 Hk.out.2.1).below (by repeat (first | exact Below.refl _ _ | assumption | apply Below.drew | refine Below.setCell ?_ (by first | omega | (simp; done) | (simp; omega)) _ | refine Below.alloc ?_ (by first | omega | (simp; done) | (simp; omega)) _ | refine Below.trans ?_ (hb3.mono (by first | omega | (simp; done) | (simp; omega)))))) e30 (by simp) e31 (by simp)
    · repeat (first | exact Below.refl _ _ | assumption | apply Below.drew | refine Below.setCell ?_ (by first | omega | (simp; done) | (simp; omega)) _ | refine Below.alloc ?_ (by first | omega | (simp; done) | (simp; omega)) _ | refine Below.trans ?_ (hb3.mono (by first | omega | (simp; done) | (simp; omega))) | refine Below.trans ?_ (hb2.mono (by first | omega | (simp; done) | (simp; omega))) | refine Below.trans ?_ (hb1.mono (by first | omega | (simp; done) | (simp; omega))))
set_option maxRecDepth 100000 in
set_option maxHeartbeats 8000000 in
theorem r2sqrt_any (a r : Int) (f : Nat) (w : World) (g0 : 0 ≤ a) (gw : wd a = true) (hf : f ≤ 32) (hr : Nr (a * 2 ^ (f + 2)) r) : Calls Try.prog 45 #[.int .i64 a, .int .i64 f] w fun e w' => e = .returned (.tuple #[.int .i64 (tw r), .int .i64 (te r)]) ∧ Below w.heap.size w w' := by
  obtain ⟨z, hz⟩ : ∃ z : Int, z = a * 2 ^ f := ⟨_, rfl⟩
  have A := wd_bd gw
  have z0 : 0 ≤ z := by rw [hz]; exact Int.mul_nonneg g0 (Int.le_of_lt (Int.pow_pos (by decide)))
  have gz : z.natAbs < LOW := by rw [hz]; exact low_of (nab_mul (k := 47) (m := 33) (by omega) (pow_nab hf)) (by decide)
  have ex : a * 2 ^ (f + 2) = 4 * z := by rw [hz, Int.pow_add, ← Int.mul_assoc]; omega
  rw [ex] at hr
  have FA := Lib.hid (fun W : World => ifrom_any a W (by omega) (by omega))
  have LE : Hid (∀ (W : World) (x : Value), IsI W x a → Calls Try.prog 34 #[x, .int .i64 f] W (SomeI W z)) := fun W x h => by rw [hz]; exact ileft_any x a f W h (big_of (k := 47) (by omega) (by decide)) (by omega)
  have RN : Hid (∀ (W : World) (x : Value), IsR W x z 1 → Calls Try.prog 78 #[x] W (SomeI W r)) := fun W x h => rootnear_any x z r (4 * z) 1 W h z0 (by decide) gz (low_of (k := 1) (by decide) (by decide)) (by simp; omega) (by simp) hr (fun j _ h => absurd h no_tie)
  clear hr ex gz z0 A hz hf gw g0
  go_enter Try.func45, Try.ntmps45
  go_wp2_with (first | (go_at_call 33; (with_reducible refine (FA.out _).mono ?_); rintro e w1 ⟨vf, rfl, hv, hb1⟩; have q1 := hb1.size; (try simp at q1); obtain ⟨bf, of, lf, cf, rfl, Hf⟩ := hv.open; clear hv) | (go_at_call 34; (with_reducible refine (LE.out _ _ ((IsI.mk Hf.out.1 Hf.out.2.1).below (by repeat (first | exact Below.refl _ _ | assumption | apply Below.drew | refine Below.setCell ?_ (by first | omega | (simp; done) | (simp; omega)) _ | refine Below.alloc ?_ (by first | omega | (simp; done) | (simp; omega)) _)))).mono ?_); rintro e w2 ⟨vl, rfl, hv, hb2⟩; have q2 := hb2.size; (try simp at q2); obtain ⟨bl, ol, ll, cl, rfl, Hl⟩ := hv.open; clear hv) | (go_at_call 74; (with_reducible refine (rfrom_any _ z _ ((IsI.mk Hl.out.1 Hl.out.2.1).below (by repeat (first | exact Below.refl _ _ | assumption | apply Below.drew | refine Below.setCell ?_ (by first | omega | (simp; done) | (simp; omega)) _ | refine Below.alloc ?_ (by first | omega | (simp; done) | (simp; omega)) _)))).mono ?_); rintro e w3 ⟨bq, oq1, lq1, cq1, oq2, lq2, cq2, rfl, Hq, hb3⟩; have q3 := hb3.size; (try simp at q3)) | (go_at_call 78; (with_reducible refine (RN.out _ _ (IsR.below (IsR.mk Hq) (by repeat (first | exact Below.refl _ _ | assumption | apply Below.drew | refine Below.setCell ?_ (by first | omega | (simp; done) | (simp; omega)) _ | refine Below.alloc ?_ (by first | omega | (simp; done) | (simp; omega)) _)))).mono ?_); rintro e w4 ⟨vn, rfl, hv, hb4⟩; have q4 := hb4.size; (try simp at q4); obtain ⟨bn, on, ln, cn, rfl, Hn⟩ := hv.open; clear hv) | (go_at_call 55; (with_reducible refine (r2word_any _ r _ ((IsI.mk Hn.out.1 Hn.out.2.1).below (by repeat (first | exact Below.refl _ _ | assumption | apply Below.drew | refine Below.setCell ?_ (by first | omega | (simp; done) | (simp; omega)) _ | refine Below.alloc ?_ (by first | omega | (simp; done) | (simp; omega)) _)))).mono ?_); rintro e w5 ⟨rfl, hb5⟩; have q5 := hb5.size; (try simp at q5)))
  go_ret2
  refine ⟨rfl, ?_⟩
  repeat (first | exact Below.refl _ _ | assumption | apply Below.drew | refine Below.setCell ?_ (by first | omega | (simp; done) | (simp; omega)) _ | refine Below.alloc ?_ (by first | omega | (simp; done) | (simp; omega)) _ | refine Below.trans ?_ (hb5.mono (by first | omega | (simp; done) | (simp; omega))) | refine Below.trans ?_ (hb4.mono (by first | omega | (simp; done) | (simp; omega))) | refine Below.trans ?_ (hb3.mono (by first | omega | (simp; done) | (simp; omega))) | refine Below.trans ?_ (hb2.mono (by first | omega | (simp; done) | (simp; omega))) | refine Below.trans ?_ (hb1.mono (by first | omega | (simp; done) | (simp; omega))))
set_option maxRecDepth 100000 in
set_option maxHeartbeats 8000000 in
theorem r2over_far (x y : Value) (a b p : Int) (q : Nat) (f : Nat) (w : World) (ha : IsI w x a) (hb : IsI w y b) (ga : a.natAbs < BIG) (hf : f ≤ 126) (RC : ∀ (W : World) (x y : Value), IsI W x (a * 2 ^ f) → IsI W y b → Calls Try.prog 93 #[x, y] W (SomeR W p q)) : Calls Try.prog 59 #[x, y, .int .i64 f] w (SomeR w p q) := by
  obtain ⟨bn, on, ln, cn, rfl, Hn⟩ := ha.open
  obtain ⟨bd, od, ld, cd, rfl, Hd⟩ := hb.open
  have RC := Lib.hid RC
  have LC := Lib.hid (fun W v h => ileft_any v a f W h ga (by omega))
  clear ha hb ga hf
  generalize a * 2 ^ f = m at *
  go_enter Try.func59, Try.ntmps59
  go_wp2
  go_region_held3 (fun w' => w'.cell? ⟨w.heap.size, 0, none⟩ = some (.bool bn) ∧ w'.cell? ⟨w.heap.size, 1, none⟩ = some (Value.slice on ln cn) ∧ w'.cell? ⟨w.heap.size + 1, 0, none⟩ = some (.bool bd) ∧ w'.cell? ⟨w.heap.size + 1, 1, none⟩ = some (Value.slice od ld cd)) (first | (simp [go_sem, *]; done) | (simp [go_sem, World.cell?_alloc_some, *]; done)) (first | (go_at_call 34; (with_reducible refine (LC.out _ _ ((IsI.mk Hn.out.1 Hn.out.2.1).below (by repeat (first | exact Below.refl _ _ | assumption | apply Below.drew | refine Below.setCell ?_ (by first | omega | (simp; done) | (simp; omega)) _ | refine Below.alloc ?_ (by first | omega | (simp; done) | (simp; omega)) _)))).mono ?_); rintro e w1 ⟨vl, rfl, hv, hb1⟩; have e10 : w1.cell? ⟨w.heap.size, 0, none⟩ = some (.bool bn) := cell_on hb1 (by first | (simp [go_sem, *]; done) | (simp [go_sem, World.cell?_alloc_some, *]; done) | fail); have e11 : w1.cell? ⟨w.heap.size, 1, none⟩ = some (Value.slice on ln cn) := cell_on hb1 (by first | (simp [go_sem, *]; done) | (simp [go_sem, World.cell?_alloc_some, *]; done) | fail); have e12 : w1.cell? ⟨w.heap.size + 1, 0, none⟩ = some (.bool bd) := cell_on hb1 (by first | (simp [go_sem, *]; done) | (simp [go_sem, World.cell?_alloc_some, *]; done) | fail); have e13 : w1.cell? ⟨w.heap.size + 1, 1, none⟩ = some (Value.slice od ld cd) := cell_on hb1 (by first | (simp [go_sem, *]; done) | (simp [go_sem, World.cell?_alloc_some, *]; done) | fail); have e14 : w1.cell? ⟨w.heap.size + 1 + 1, 0, none⟩ = some (.bool false) := cell_on hb1 (by first | (simp [go_sem, *]; done) | (simp [go_sem, World.cell?_alloc_some, *]; done) | fail); have e15 : w1.cell? ⟨w.heap.size + 1 + 1, 1, none⟩ = some (.slice none 0 0) := cell_on hb1 (by first | (simp [go_sem, *]; done) | (simp [go_sem, World.cell?_alloc_some, *]; done) | fail); have e16 : w1.cell? ⟨w.heap.size + 1 + 1, 2, none⟩ = some (.slice none 0 0) := cell_on hb1 (by first | (simp [go_sem, *]; done) | (simp [go_sem, World.cell?_alloc_some, *]; done) | fail); have s10 : w.heap.size < w1.heap.size := World.block_lt_of_cell? _ _ e10; have t10 : w.heap.size < w1.heap.size + 1 := Nat.lt_succ_of_lt s10; have s12 : w.heap.size + 1 < w1.heap.size := World.block_lt_of_cell? _ _ e12; have t12 : w.heap.size + 1 < w1.heap.size + 1 := Nat.lt_succ_of_lt s12; have s14 : w.heap.size + 1 + 1 < w1.heap.size := World.block_lt_of_cell? _ _ e14; have t14 : w.heap.size + 1 + 1 < w1.heap.size + 1 := Nat.lt_succ_of_lt s14; have y14 : w1.frozen? ⟨w.heap.size + 1 + 1, 0, none⟩ = false := frozen_on hb1 (v := .bool false) (by first | (simp [go_sem, *]; done) | (simp [go_sem, World.cell?_alloc_some, *]; done) | fail) (by first | (simp [go_sem, *]; done) | (simp [go_sem, frozen?_alloc_cells, *]; done) | fail); have y15 : w1.frozen? ⟨w.heap.size + 1 + 1, 1, none⟩ = false := frozen_on hb1 (v := .slice none 0 0) (by first | (simp [go_sem, *]; done) | (simp [go_sem, World.cell?_alloc_some, *]; done) | fail) (by first | (simp [go_sem, *]; done) | (simp [go_sem, frozen?_alloc_cells, *]; done) | fail); have y16 : w1.frozen? ⟨w.heap.size + 1 + 1, 2, none⟩ = false := frozen_on hb1 (v := .slice none 0 0) (by first | (simp [go_sem, *]; done) | (simp [go_sem, World.cell?_alloc_some, *]; done) | fail) (by first | (simp [go_sem, *]; done) | (simp [go_sem, frozen?_alloc_cells, *]; done) | fail); have q1 := hb1.size; (try simp at q1); obtain ⟨bl, ol, ll, cl, rfl, Hl⟩ := hv.open; clear hv) | (go_at_call 93; (with_reducible refine (RC.out _ _ _ ((IsI.mk Hl.out.1 Hl.out.2.1).below (by repeat (first | exact Below.refl _ _ | assumption | apply Below.drew | refine Below.setCell ?_ (by first | omega | (simp; done) | (simp; omega)) _ | refine Below.alloc ?_ (by first | omega | (simp; done) | (simp; omega)) _))) ((IsI.mk Hd.out.1 Hd.out.2.1).below (by repeat (first | exact Below.refl _ _ | assumption | apply Below.drew | refine Below.setCell ?_ (by first | omega | (simp; done) | (simp; omega)) _ | refine Below.alloc ?_ (by first | omega | (simp; done) | (simp; omega)) _ | refine Below.trans ?_ (hb1.mono (by first | omega | (simp; done) | (simp; omega))))))).mono ?_); rintro e w2 ⟨bv, o1, l1, c1, o2, l2, c2, rfl, hv, hb2⟩; have e20 : w2.cell? ⟨w.heap.size, 0, none⟩ = some (.bool bn) := cell_on hb2 (by first | (simp [go_sem, *]; done) | (simp [go_sem, World.cell?_alloc_some, *]; done) | fail); have e21 : w2.cell? ⟨w.heap.size, 1, none⟩ = some (Value.slice on ln cn) := cell_on hb2 (by first | (simp [go_sem, *]; done) | (simp [go_sem, World.cell?_alloc_some, *]; done) | fail); have e22 : w2.cell? ⟨w.heap.size + 1, 0, none⟩ = some (.bool bd) := cell_on hb2 (by first | (simp [go_sem, *]; done) | (simp [go_sem, World.cell?_alloc_some, *]; done) | fail); have e23 : w2.cell? ⟨w.heap.size + 1, 1, none⟩ = some (Value.slice od ld cd) := cell_on hb2 (by first | (simp [go_sem, *]; done) | (simp [go_sem, World.cell?_alloc_some, *]; done) | fail); have e24 : w2.cell? ⟨w.heap.size + 1 + 1, 0, none⟩ = some (.bool false) := cell_on hb2 (by first | (simp [go_sem, *]; done) | (simp [go_sem, World.cell?_alloc_some, *]; done) | fail); have e25 : w2.cell? ⟨w.heap.size + 1 + 1, 1, none⟩ = some (.slice none 0 0) := cell_on hb2 (by first | (simp [go_sem, *]; done) | (simp [go_sem, World.cell?_alloc_some, *]; done) | fail); have e26 : w2.cell? ⟨w.heap.size + 1 + 1, 2, none⟩ = some (.slice none 0 0) := cell_on hb2 (by first | (simp [go_sem, *]; done) | (simp [go_sem, World.cell?_alloc_some, *]; done) | fail); have s20 : w.heap.size < w2.heap.size := World.block_lt_of_cell? _ _ e20; have t20 : w.heap.size < w2.heap.size + 1 := Nat.lt_succ_of_lt s20; have s22 : w.heap.size + 1 < w2.heap.size := World.block_lt_of_cell? _ _ e22; have t22 : w.heap.size + 1 < w2.heap.size + 1 := Nat.lt_succ_of_lt s22; have s24 : w.heap.size + 1 + 1 < w2.heap.size := World.block_lt_of_cell? _ _ e24; have t24 : w.heap.size + 1 + 1 < w2.heap.size + 1 := Nat.lt_succ_of_lt s24; have y24 : w2.frozen? ⟨w.heap.size + 1 + 1, 0, none⟩ = false := frozen_on hb2 (v := .bool false) (by first | (simp [go_sem, *]; done) | (simp [go_sem, World.cell?_alloc_some, *]; done) | fail) (by first | (simp [go_sem, *]; done) | (simp [go_sem, frozen?_alloc_cells, *]; done) | fail); have y25 : w2.frozen? ⟨w.heap.size + 1 + 1, 1, none⟩ = false := frozen_on hb2 (v := .slice none 0 0) (by first | (simp [go_sem, *]; done) | (simp [go_sem, World.cell?_alloc_some, *]; done) | fail) (by first | (simp [go_sem, *]; done) | (simp [go_sem, frozen?_alloc_cells, *]; done) | fail); have y26 : w2.frozen? ⟨w.heap.size + 1 + 1, 2, none⟩ = false := frozen_on hb2 (v := .slice none 0 0) (by first | (simp [go_sem, *]; done) | (simp [go_sem, World.cell?_alloc_some, *]; done) | fail) (by first | (simp [go_sem, *]; done) | (simp [go_sem, frozen?_alloc_cells, *]; done) | fail); have q2 := hb2.size; (try simp at q2)))
  all_goals
    go_wp2_with fail
    refine bodyPost_ret (v := .agg #[.bool bv, .slice o1 l1 c1, .slice o2 l2 c2]) (by simp [results, Try.results59, go_sem, *]) rfl ⟨bv, o1, l1, c1, o2, l2, c2, rfl, ⟨hv.out.1, IsN.store3 hv.out.2.1 e24 e25 e26, IsN.store3 hv.out.2.2 e24 e25 e26⟩, ?_⟩
    repeat (first | exact Below.refl _ _ | assumption | apply Below.drew | refine Below.setCell ?_ (by first | omega | (simp; done) | (simp; omega)) _ | refine Below.alloc ?_ (by first | omega | (simp; done) | (simp; omega)) _ | refine Below.trans ?_ (hb2.mono (by first | omega | (simp; done) | (simp; omega))) | refine Below.trans ?_ (hb1.mono (by first | omega | (simp; done) | (simp; omega))))
set_option maxRecDepth 100000 in
set_option maxHeartbeats 8000000 in
theorem r2rsqrt_any (a r : Int) (f : Nat) (w : World) (g0 : 0 < a) (gw : wd a = true) (hf : f ≤ 32) (hr : Nr (cl (2 ^ (3 * f + 2)) a) r) : Calls Try.prog 46 #[.int .i64 a, .int .i64 f] w fun e w' => e = .returned (.tuple #[.int .i64 (tw r), .int .i64 (te r)]) ∧ Below w.heap.size w w' := by
  have A := wd_bd gw
  have ci := cl_is (n := 2 ^ (3 * f + 2)) (Int.le_of_lt (Int.pow_pos (by decide))) g0
  obtain ⟨P, Q, hP, hQ, P0, Q0, c1, c2, ht, bP, bQ⟩ := rsq_facts (k := 3 * f) g0 (show (1 : Int) * 2 ^ (3 * f) = 2 ^ (3 * f) by rw [Int.one_mul]) (show (2 : Int) ^ (3 * f + 2) = 4 * (1 * 2 ^ (3 * f)) by rw [Int.pow_add, Int.one_mul, Int.mul_comm]; rfl) ci.1 ci.2.1
  have gM : ((1 : Int) * 2 ^ (3 * f)).natAbs < 2 ^ 97 := by
    rw [Int.one_mul, Int.natAbs_pow]
    exact Nat.lt_of_le_of_lt (Nat.pow_le_pow_right (by decide) (show 3 * f ≤ 96 by omega)) (by decide)
  have gP : P.natAbs < LOW := low_of (k := 97) (by omega) (by decide)
  have gQ : Q < LOW := low_of (k := 47) (by omega) (by decide)
  have gA : a.natAbs < LOW := low_of (k := 47) (by omega) (by decide)
  have FA := Lib.hid (fun W : World => ifrom_any a W (by omega) (by omega))
  have F1 := Lib.hid (show ∀ W : World, Calls Try.prog 33 #[.int .i64 1] W (SomeI W 1) from fun W : World => ifrom_any 1 W (by decide) (by decide))
  have RC : ∀ (W : World) (x y : Value), IsI W x (1 * 2 ^ (3 * f)) → IsI W y a → Calls Try.prog 93 #[x, y] W (SomeR W P Q) := fun W x y h j => by
    have := refrat_any x y (1 * 2 ^ (3 * f)) a W h j (low_big (low_of gM (by decide))).2.2.2.1 (low_big gA).2.2.2.1 (by omega)
    rw [if_neg (by omega), ← hP, ← hQ] at this
    exact this
  have OC : Hid (∀ (W : World) (x y : Value), IsI W x 1 → IsI W y a → Calls Try.prog 59 #[x, y, .int .i64 (3 * (f : Int))] W (SomeR W P Q)) := fun W x y h j => by
    have := r2over_far x y 1 a P Q (3 * f) W h j one_big (by omega) RC
    rw [show ((3 * f : Nat) : Int) = 3 * (f : Int) by omega] at this
    exact this
  have RN : Hid (∀ (W : World) (x : Value), IsR W x P Q → Calls Try.prog 78 #[x] W (SomeI W r)) := fun W x h => rootnear_any x P r _ Q W h P0 Q0 gP gQ c1 c2 hr ht
  have f1 : (f : Int) ≤ 32 := by omega
  have e3 : wrap64 (3 * (f : Int)) = 3 * (f : Int) := IntWalk.wrap64_in _ ⟨by omega, by omega⟩
  clear hr ht c1 c2 P0 Q0 gP gQ gA gM hP hQ RC bP bQ ci A gw g0 hf
  go_enter Try.func46, Try.ntmps46
  go_wp2_with (first | (go_at_call 33; (with_reducible refine (F1.out _).mono ?_); rintro e w1 ⟨vf, rfl, hv, hb1⟩; have q1 := hb1.size; (try simp at q1); obtain ⟨bf, of, lf, cf, rfl, Hf⟩ := hv.open; clear hv) | (go_at_call 33; (with_reducible refine (FA.out _).mono ?_); rintro e w2 ⟨vg, rfl, hv, hb2⟩; have q2 := hb2.size; (try simp at q2); obtain ⟨bg, og, lg, cg, rfl, Hg⟩ := hv.open; clear hv) | (go_at_call 59; (with_reducible refine (OC.out _ _ _ ((IsI.mk Hf.out.1 Hf.out.2.1).below (by repeat (first | exact Below.refl _ _ | assumption | apply Below.drew | refine Below.setCell ?_ (by first | omega | (simp; done) | (simp; omega)) _ | refine Below.alloc ?_ (by first | omega | (simp; done) | (simp; omega)) _ | refine Below.trans ?_ (hb2.mono (by first | omega | (simp; done) | (simp; omega)))))) ((IsI.mk Hg.out.1 Hg.out.2.1).below (by repeat (first | exact Below.refl _ _ | assumption | apply Below.drew | refine Below.setCell ?_ (by first | omega | (simp; done) | (simp; omega)) _ | refine Below.alloc ?_ (by first | omega | (simp; done) | (simp; omega)) _)))).mono ?_); rintro e w3 ⟨bq, oq1, lq1, cq1, oq2, lq2, cq2, rfl, Hq, hb3⟩; have q3 := hb3.size; (try simp at q3)) | (go_at_call 78; (with_reducible refine (RN.out _ _ (IsR.below (IsR.mk Hq) (by repeat (first | exact Below.refl _ _ | assumption | apply Below.drew | refine Below.setCell ?_ (by first | omega | (simp; done) | (simp; omega)) _ | refine Below.alloc ?_ (by first | omega | (simp; done) | (simp; omega)) _)))).mono ?_); rintro e w4 ⟨vn, rfl, hv, hb4⟩; have q4 := hb4.size; (try simp at q4); obtain ⟨bn, on, ln, cn, rfl, Hn⟩ := hv.open; clear hv) | (go_at_call 55; (with_reducible refine (r2word_any _ r _ ((IsI.mk Hn.out.1 Hn.out.2.1).below (by repeat (first | exact Below.refl _ _ | assumption | apply Below.drew | refine Below.setCell ?_ (by first | omega | (simp; done) | (simp; omega)) _ | refine Below.alloc ?_ (by first | omega | (simp; done) | (simp; omega)) _)))).mono ?_); rintro e w5 ⟨rfl, hb5⟩; have q5 := hb5.size; (try simp at q5)))
  go_ret2
  refine ⟨rfl, ?_⟩
  repeat (first | exact Below.refl _ _ | assumption | apply Below.drew | refine Below.setCell ?_ (by first | omega | (simp; done) | (simp; omega)) _ | refine Below.alloc ?_ (by first | omega | (simp; done) | (simp; omega)) _ | refine Below.trans ?_ (hb5.mono (by first | omega | (simp; done) | (simp; omega))) | refine Below.trans ?_ (hb4.mono (by first | omega | (simp; done) | (simp; omega))) | refine Below.trans ?_ (hb3.mono (by first | omega | (simp; done) | (simp; omega))) | refine Below.trans ?_ (hb2.mono (by first | omega | (simp; done) | (simp; omega))) | refine Below.trans ?_ (hb1.mono (by first | omega | (simp; done) | (simp; omega))))
end Go.Proofs.Ytdbgooobbemklaa
namespace Go.Proofs.Ytdbgooobbemklaa
open Go.RowKit

/-- An element of the list: two wide numbers, two words, a count. -/
structure El where
  a : Int
  b : Int
  x : Int
  y : Int
  n : Int
def El.ok (e : El) : Prop := R e.a ∧ R e.b ∧ (-9223372036854775808 ≤ e.x ∧ e.x ≤ 9223372036854775807) ∧ (-9223372036854775808 ≤ e.y ∧ e.y ≤ 9223372036854775807) ∧ (-9223372036854775808 ≤ e.n ∧ e.n ≤ 9223372036854775807)
/-- Its seven cells. -/
def TwoAt (w : World) (b o : Nat) (e : El) : Prop :=
  w.cell? ⟨b, o, none⟩ = some (.int .i64 (hi e.a)) ∧ w.cell? ⟨b, o + 1, none⟩ = some (.int .u64 (lo e.a)) ∧
  w.cell? ⟨b, o + 2, none⟩ = some (.int .i64 (hi e.b)) ∧ w.cell? ⟨b, o + 3, none⟩ = some (.int .u64 (lo e.b)) ∧
  w.cell? ⟨b, o + 4, none⟩ = some (.int .i64 e.x) ∧ w.cell? ⟨b, o + 5, none⟩ = some (.int .i64 e.y) ∧ w.cell? ⟨b, o + 6, none⟩ = some (.int .i64 e.n)
theorem TwoAt.below {w w' : World} {B b o : Nat} {e : El} (h : TwoAt w b o e) (hb : Below B w w') (hB : b < B) : TwoAt w' b o e := by
  obtain ⟨h1, h2, h3, h4, h5, h6, h7⟩ := h
  exact ⟨(hb.cell (p := ⟨b, o, none⟩) hB).trans h1, (hb.cell (p := ⟨b, o + 1, none⟩) hB).trans h2, (hb.cell (p := ⟨b, o + 2, none⟩) hB).trans h3, (hb.cell (p := ⟨b, o + 3, none⟩) hB).trans h4, (hb.cell (p := ⟨b, o + 4, none⟩) hB).trans h5, (hb.cell (p := ⟨b, o + 5, none⟩) hB).trans h6, (hb.cell (p := ⟨b, o + 6, none⟩) hB).trans h7⟩

end Go.Proofs.Ytdbgooobbemklaa
namespace Go.Proofs.Ytdbgooobbemklaa
open Go.ChangeShapes Go.WideShapes Go.ChangeAt Go.RowKit Go.Deep

theorem Try.own : ownKnob Try.prog.godebug = none := by kernel_rfl
theorem Try.laidOut : laidOutB Try.prog = true := by kernel_rfl
theorem wf_u64 {x : Int} (h : (Lit.int .u64 x).wf = true) : 0 ≤ x ∧ x ≤ 18446744073709551615 := by
  simp [Lit.wf, IntKind.min, IntKind.max, IntKind.signed, IntKind.bits] at h
  exact ⟨by omega, by omega⟩
theorem wf_i64 {x : Int} (h : (Lit.int .i64 x).wf = true) : -9223372036854775808 ≤ x ∧ x ≤ 9223372036854775807 := by
  simp [Lit.wf, IntKind.min, IntKind.max, IntKind.signed, IntKind.bits] at h
  exact ⟨by omega, by omega⟩
theorem c1 : Try.prog.cellsOf 2 = 1 := by kernel_rfl
theorem c2 : Try.prog.cellsOf 23 = 1 := by kernel_rfl
theorem c3 : Try.prog.cellsOf 3 = 1 := by kernel_rfl
theorem cW : Try.prog.cellsOf 25 = 2 := by kernel_rfl

section
variable {H : Type} {enc : TypeId × Value → H} {w : World} {base : Nat} {spare : Nat → Bool} {held : Bool}
set_option maxRecDepth 100000 in
theorem open_wide {fuel : Nat} {cs : List Value} {x : DataW H × List MemPlace} (h : DataW.trod enc Try.prog w base spare held fuel 25 cs = some x) : ∃ a, R a ∧ cs = [.int .i64 (hi a), .int .u64 (lo a)] := by
  obtain ⟨xs, n, _, _, hl, hxl, hf⟩ := DataW.trod_struct Try.underlying25 h
  rw [cW] at hl
  match cs, hl with
  | [u, v], _ =>
    have hxl2 : xs.length = 2 := hxl
    match xs, hxl2 with
    | [x0, x1], _ =>
      have h0 : DataW.trod enc Try.prog w base spare held n 2 ((([u, v] : List Value).drop 0).take (Try.prog.cellsOf 2)) = some x0 := hf 0 _ rfl
      have h1 : DataW.trod enc Try.prog w base spare held n 23 ((([u, v] : List Value).drop 1).take (Try.prog.cellsOf 23)) = some x1 := hf 1 _ rfl
      simp only [c1, c2, List.drop_zero, List.drop_succ_cons, List.take_succ_cons, List.take_zero] at h0 h1
      obtain ⟨hh, e0, _, w0⟩ := DataW.trod_int Try.underlying2 h0
      obtain ⟨ll, e1, _, w1⟩ := DataW.trod_int Try.underlying23 h1
      simp only [List.cons.injEq, and_true] at e0 e1
      subst e0 e1
      obtain ⟨l0, l1⟩ := wf_u64 w1
      obtain ⟨h2, h3⟩ := wf_i64 w0
      refine ⟨hh * 18446744073709551616 + ll, ⟨?_, ?_⟩, ?_⟩
      · rw [hi_mk _ _ l0 l1]; exact h2
      · rw [hi_mk _ _ l0 l1]; exact h3
      · rw [hi_mk _ _ l0 l1, lo_mk _ _ l0 l1]

end
end Go.Proofs.Ytdbgooobbemklaa
namespace Go.Proofs.Ytdbgooobbemklaa
open Go.ChangeShapes Go.WideShapes Go.ChangeAt Go.RowKit Go.Deep

theorem cOne : Try.prog.cellsOf 69 = 2 := by kernel_rfl

section
variable {H : Type} {enc : TypeId × Value → H} {w : World} {base : Nat} {spare : Nat → Bool} {held : Bool}
set_option maxRecDepth 100000 in
theorem open_rl {fuel : Nat} {cs : List Value} {x : DataW H × List MemPlace} (h : DataW.trod enc Try.prog w base spare held fuel 69 cs = some x) :
    ∃ e : Rl, e.ok ∧ cs = [.int .i64 e.a, .int .i64 e.f] := by
  obtain ⟨xs, n, _, _, hl, hxl, hf⟩ := DataW.trod_struct Try.underlying69 h
  rw [cOne] at hl
  match cs, hl with
  | [v0, v1], _ =>
    have hxl2 : xs.length = 2 := hxl
    match xs, hxl2 with
    | [x0, x1], _ =>
      have h0 : DataW.trod enc Try.prog w base spare held n 2 ((([v0, v1] : List Value).drop 0).take (Try.prog.cellsOf 2)) = some x0 := hf 0 _ rfl
      have h1 : DataW.trod enc Try.prog w base spare held n 3 ((([v0, v1] : List Value).drop 1).take (Try.prog.cellsOf 3)) = some x1 := hf 1 _ rfl
      simp only [c1, c3, List.drop_zero, List.drop_succ_cons, List.take_succ_cons, List.take_zero] at h0 h1
      obtain ⟨a, e0, _, wa⟩ := DataW.trod_int Try.underlying2 h0
      obtain ⟨f, e1, _, wf⟩ := DataW.trod_int Try.underlying3 h1
      simp only [List.cons.injEq, and_true] at e0 e1
      subst e0 e1
      exact ⟨⟨a, f⟩, ⟨wf_i64 wa, wf_i64 wf⟩, rfl⟩

/-- The list: nil or empty, or its elements' cells. -/
theorem open_rls {fuel : Nat} {v : Value} {x : DataW H × List MemPlace} (h : DataW.trod enc Try.prog w base spare held fuel 67 [v] = some x) :
    (∃ o cap, v = .slice o 0 cap) ∨ ∃ (b off len cap : Nat) (es : Nat → Rl), v = .slice (some ⟨b, off, none⟩) len cap ∧ len ≤ 9223372036854775807 ∧ b < w.heap.size ∧
      (∀ i, i < len → RlAt w b (off + i * 2) (es i)) ∧ (∀ i, i < len → (es i).ok) := by
  rcases open_slice Try.underlying67 h with ⟨hcs, _⟩ | ⟨a, len, cap, m, n, D, Pl, hcs, _, hl, hm, hmm, _, hi⟩
  · left
    simp only [List.cons.injEq, and_true] at hcs
    exact ⟨_, _, hcs⟩
  · simp only [List.cons.injEq, and_true] at hcs
    subst hcs
    by_cases h0 : len = 0
    · subst h0; exact .inl ⟨_, _, rfl⟩
    right
    have hle : len ≤ m := by rw [hmm]; split <;> omega
    rw [cOne] at hi
    have hall : ∀ i, i < len → ∃ e : Rl, e.ok ∧ ∀ j, j < 2 → w.cell? ((a.add (i * 2)).add j) = ([Value.int .i64 e.a, .int .i64 e.f] : List Value)[j]? := by
      intro i hik
      obtain ⟨cs', hc, ht⟩ := hi i (by omega)
      obtain ⟨e, he, rfl⟩ := open_rl ht
      exact ⟨e, he, (World.cells?_some hc).2.2⟩
    let es : Nat → Rl := fun i => if h : i < len then (hall i h).choose else ⟨0, 0⟩
    have hes : ∀ i, i < len → (es i).ok ∧ ∀ j, j < 2 → w.cell? ((a.add (i * 2)).add j) = ([Value.int .i64 (es i).a, .int .i64 (es i).f] : List Value)[j]? := by
      intro i hik
      have := (hall i hik).choose_spec
      simp only [es, dif_pos hik]
      exact this
    obtain ⟨b, off, spot⟩ := a
    have hspot : spot = none := by
      have := (hes 0 (by omega)).2 0 (by decide)
      simpa [Addr.add] using World.cell?_spot this
    subst hspot
    have cell : ∀ i, i < len → ∀ j, j < 2 → w.cell? ⟨b, off + i * 2 + j, none⟩ = ([Value.int .i64 (es i).a, .int .i64 (es i).f] : List Value)[j]? := by
      intro i hik j hj
      rw [← (hes i hik).2 j hj, Go.WideShapes.add_plain, Go.WideShapes.add_plain]
    refine ⟨b, off, len, cap, es, rfl, by unfold maxLen at hm; omega, ?_, fun i hik => ⟨?_, ?_⟩, fun i hik => (hes i hik).1⟩
    · exact World.block_lt_of_cell? w _ (by have := cell 0 (by omega) 0 (by decide); simpa using this)
    · exact cell i hik 0 (by decide)
    · exact cell i hik 1 (by decide)
end
end Go.Proofs.Ytdbgooobbemklaa
namespace Go.Proofs.Ytdbgooobbemklaa
open Go.ChangeShapes Go.WideShapes Go.ChangeAt Go.RowKit Go.Deep

theorem cF : Try.prog.cellsOf 27 = 8 := by kernel_rfl

section
variable {H : Type} {enc : TypeId × Value → H} {w : World} {base : Nat} {spare : Nat → Bool} {held : Bool}
set_option maxRecDepth 100000 in
theorem open_fl {fuel : Nat} {cs : List Value} {x : DataW H × List MemPlace} (h : DataW.trod enc Try.prog w base spare held fuel 27 cs = some x) :
    ∃ e : Fl, e.ok ∧ cs = [.int .i64 e.a, .int .i64 e.b, .int .i64 e.f, .int .i64 e.n, .int .i64 e.d, .int .i64 (hi e.v), .int .u64 (lo e.v), .int .i64 e.k] := by
  obtain ⟨xs, n, _, _, hl, hxl, hf⟩ := DataW.trod_struct Try.underlying27 h
  rw [cF] at hl
  match cs, hl with
  | [v0, v1, v2, v3, v4, v5, v6, v7], _ =>
    have hxl2 : xs.length = 7 := hxl
    match xs, hxl2 with
    | [x0, x1, x2, x3, x4, x5, x6], _ =>
      have h0 : DataW.trod enc Try.prog w base spare held n 2 ((([v0, v1, v2, v3, v4, v5, v6, v7] : List Value).drop 0).take (Try.prog.cellsOf 2)) = some x0 := hf 0 _ rfl
      have h1 : DataW.trod enc Try.prog w base spare held n 2 ((([v0, v1, v2, v3, v4, v5, v6, v7] : List Value).drop 1).take (Try.prog.cellsOf 2)) = some x1 := hf 1 _ rfl
      have h2 : DataW.trod enc Try.prog w base spare held n 3 ((([v0, v1, v2, v3, v4, v5, v6, v7] : List Value).drop 2).take (Try.prog.cellsOf 3)) = some x2 := hf 2 _ rfl
      have h3 : DataW.trod enc Try.prog w base spare held n 2 ((([v0, v1, v2, v3, v4, v5, v6, v7] : List Value).drop 3).take (Try.prog.cellsOf 2)) = some x3 := hf 3 _ rfl
      have h4 : DataW.trod enc Try.prog w base spare held n 2 ((([v0, v1, v2, v3, v4, v5, v6, v7] : List Value).drop 4).take (Try.prog.cellsOf 2)) = some x4 := hf 4 _ rfl
      have h5 : DataW.trod enc Try.prog w base spare held n 25 ((([v0, v1, v2, v3, v4, v5, v6, v7] : List Value).drop 5).take (Try.prog.cellsOf 25)) = some x5 := hf 5 _ rfl
      have h6 : DataW.trod enc Try.prog w base spare held n 3 ((([v0, v1, v2, v3, v4, v5, v6, v7] : List Value).drop 7).take (Try.prog.cellsOf 3)) = some x6 := hf 6 _ rfl
      simp only [cW, c1, c3, List.drop_zero, List.drop_succ_cons, List.take_succ_cons, List.take_zero] at h0 h1 h2 h3 h4 h5 h6
      obtain ⟨a, e0, _, wa⟩ := DataW.trod_int Try.underlying2 h0
      obtain ⟨b, e1, _, wb⟩ := DataW.trod_int Try.underlying2 h1
      obtain ⟨f, e2, _, wf⟩ := DataW.trod_int Try.underlying3 h2
      obtain ⟨m, e3, _, wm⟩ := DataW.trod_int Try.underlying2 h3
      obtain ⟨d, e4, _, wd⟩ := DataW.trod_int Try.underlying2 h4
      obtain ⟨v, rv, e5⟩ := open_wide h5
      obtain ⟨k, e6, _, wk⟩ := DataW.trod_int Try.underlying3 h6
      simp only [List.cons.injEq, and_true] at e0 e1 e2 e3 e4 e5 e6
      obtain ⟨rfl, rfl⟩ := e5
      subst e0 e1 e2 e3 e4 e6
      exact ⟨⟨a, b, f, m, d, v, k⟩, ⟨wf_i64 wa, wf_i64 wb, wf_i64 wf, wf_i64 wm, wf_i64 wd, rv, wf_i64 wk⟩, rfl⟩

/-- The list: nil or empty, or its elements' cells. -/
theorem open_fls {fuel : Nat} {v : Value} {x : DataW H × List MemPlace} (h : DataW.trod enc Try.prog w base spare held fuel 22 [v] = some x) :
    (∃ o cap, v = .slice o 0 cap) ∨ ∃ (b off len cap : Nat) (es : Nat → Fl), v = .slice (some ⟨b, off, none⟩) len cap ∧ len ≤ 9223372036854775807 ∧ b < w.heap.size ∧
      (∀ i, i < len → FlAt w b (off + i * 8) (es i)) ∧ (∀ i, i < len → (es i).ok) := by
  rcases open_slice Try.underlying22 h with ⟨hcs, _⟩ | ⟨a, len, cap, m, n, D, Pl, hcs, _, hl, hm, hmm, _, hi⟩
  · left
    simp only [List.cons.injEq, and_true] at hcs
    exact ⟨_, _, hcs⟩
  · simp only [List.cons.injEq, and_true] at hcs
    subst hcs
    by_cases h0 : len = 0
    · subst h0; exact .inl ⟨_, _, rfl⟩
    right
    have hle : len ≤ m := by rw [hmm]; split <;> omega
    rw [cF] at hi
    have hall : ∀ i, i < len → ∃ e : Fl, e.ok ∧ ∀ j, j < 8 → w.cell? ((a.add (i * 8)).add j) = ([Value.int .i64 e.a, .int .i64 e.b, .int .i64 e.f, .int .i64 e.n, .int .i64 e.d, .int .i64 (Go.Proofs.Ytdbgooobbemklaa.hi e.v), .int .u64 (lo e.v), .int .i64 e.k] : List Value)[j]? := by
      intro i hik
      obtain ⟨cs', hc, ht⟩ := hi i (by omega)
      obtain ⟨e, he, rfl⟩ := open_fl ht
      exact ⟨e, he, (World.cells?_some hc).2.2⟩
    let es : Nat → Fl := fun i => if h : i < len then (hall i h).choose else ⟨0, 0, 0, 0, 0, 0, 0⟩
    have hes : ∀ i, i < len → (es i).ok ∧ ∀ j, j < 8 → w.cell? ((a.add (i * 8)).add j) = ([Value.int .i64 (es i).a, .int .i64 (es i).b, .int .i64 (es i).f, .int .i64 (es i).n, .int .i64 (es i).d, .int .i64 (Go.Proofs.Ytdbgooobbemklaa.hi (es i).v), .int .u64 (lo (es i).v), .int .i64 (es i).k] : List Value)[j]? := by
      intro i hik
      have := (hall i hik).choose_spec
      simp only [es, dif_pos hik]
      exact this
    obtain ⟨b, off, spot⟩ := a
    have hspot : spot = none := by
      have := (hes 0 (by omega)).2 0 (by decide)
      simpa [Addr.add] using World.cell?_spot this
    subst hspot
    have cell : ∀ i, i < len → ∀ j, j < 8 → w.cell? ⟨b, off + i * 8 + j, none⟩ = ([Value.int .i64 (es i).a, .int .i64 (es i).b, .int .i64 (es i).f, .int .i64 (es i).n, .int .i64 (es i).d, .int .i64 (Go.Proofs.Ytdbgooobbemklaa.hi (es i).v), .int .u64 (lo (es i).v), .int .i64 (es i).k] : List Value)[j]? := by
      intro i hik j hj
      rw [← (hes i hik).2 j hj, Go.WideShapes.add_plain, Go.WideShapes.add_plain]
    refine ⟨b, off, len, cap, es, rfl, by unfold maxLen at hm; omega, ?_, fun i hik => ⟨?_, ?_, ?_, ?_, ?_, ?_, ?_, ?_⟩, fun i hik => (hes i hik).1⟩
    · exact World.block_lt_of_cell? w _ (by have := cell 0 (by omega) 0 (by decide); simpa using this)
    · exact cell i hik 0 (by decide)
    · exact cell i hik 1 (by decide)
    · exact cell i hik 2 (by decide)
    · exact cell i hik 3 (by decide)
    · exact cell i hik 4 (by decide)
    · exact cell i hik 5 (by decide)
    · exact cell i hik 6 (by decide)
    · exact cell i hik 7 (by decide)
end
end Go.Proofs.Ytdbgooobbemklaa
namespace Go.Proofs.Ytdbgooobbemklaa
open Go.RowKit

theorem rd_whole (a : Int) {d : Int} (h : d ≠ 0) : rd (a * d) d = a := by
  have H := (half_math (a * d) d h).1
  generalize rd (a * d) d = q at *
  rw [← Int.sub_mul, Int.natAbs_mul] at H
  have H : 2 * ((a - q).natAbs * d.natAbs) ≤ 1 * d.natAbs := by omega
  rw [← Nat.mul_assoc] at H
  have := Nat.le_of_mul_le_mul_right H (show 0 < d.natAbs by omega)
  omega
theorem sg_at {a b : Int} (h : a ≤ b) : ¬ 0 < sg a b := by
  rcases Int.lt_or_eq_of_le h with g | g
  · rw [sg_lt g]; decide
  · rw [g, sg_eq]; decide
/-- A quotient's half. -/
theorem law_quo {a N b d : Int} (hb : b ≠ 0) (h : d = rd (a * N) b) : ¬ 0 < sg (((d * b - a * N).natAbs : Int) * 2 ^ 1) (b.natAbs : Int) := by
  refine sg_at ?_
  have H := (half_math (a * N) b hb).1
  rw [← h] at H
  omega
/-- What is left between a rounded quotient and the quotient in lowest terms. -/
theorem last_half {M X : Int} {D : Nat} (hD : D ≠ 0) (h : 2 * (M - X * D).natAbs ≤ D) : ∃ (P : Int) (Q : Nat) (m : Int), P = M.tdiv (Nat.gcd M.natAbs D : Nat) ∧ Q = D / Nat.gcd M.natAbs D ∧ m = X * ((Q : Nat) : Int) + (-P) * ((1 : Nat) : Int) ∧ Q ≠ 0 ∧ P.natAbs ≤ M.natAbs ∧ Q ≤ D ∧ 2 * m.natAbs ≤ Q := by
  obtain ⟨g, hg, g0, e1, e2⟩ := lowest_g M hD
  rw [← hg]
  generalize M.tdiv (g : Int) = P at *
  generalize D / g = Q at *
  have Q0 : Q ≠ 0 := by rintro rfl; simp at e2; omega
  refine ⟨P, Q, _, rfl, rfl, rfl, Q0, ?_, ?_, ?_⟩
  · have : M.natAbs = P.natAbs * g := by rw [← e1, Int.natAbs_mul]; simp
    rw [this]; exact Nat.le_mul_of_pos_right _ g0
  · rw [← e2]; exact Nat.le_mul_of_pos_right _ g0
  · have e3 : M - X * D = (P - X * Q) * g := by
      rw [Int.sub_mul, e1, Int.mul_assoc, ← e2, Int.natCast_mul]
    have e4 : (M - X * D).natAbs = (P - X * Q).natAbs * g := by rw [e3, Int.natAbs_mul]; simp
    rw [e4, ← e2, ← Nat.mul_assoc] at h
    have := Nat.le_of_mul_le_mul_right h g0
    have e5 : X * ((Q : Nat) : Int) + (-P) * ((1 : Nat) : Int) = -(P - X * Q) := by simp; omega
    rw [e5, Int.natAbs_neg]
    exact this
/-- A product's half, over a power of 2, in lowest terms. -/
theorem law_prod {M X : Int} {D : Nat} (hD : D ≠ 0) (h : X = rd M D) : ∃ (P : Int) (Q : Nat) (m : Int) (A : Int) (C : Nat), P = M.tdiv (Nat.gcd M.natAbs D : Nat) ∧ Q = D / Nat.gcd M.natAbs D ∧ m = X * ((Q : Nat) : Int) + (-P) * ((1 : Nat) : Int) ∧ Q ≠ 0 ∧ P.natAbs ≤ M.natAbs ∧ Q ≤ D ∧ m.natAbs ≤ D ∧ A = m.tdiv (Nat.gcd m.natAbs Q : Nat) ∧ C = Q / Nat.gcd m.natAbs Q ∧ A.natAbs ≤ D ∧ C ≤ D ∧ ¬ 0 < sg (((A.natAbs : Nat) : Int) * (2 : Nat)) (1 * ((C : Nat) : Int)) := by
  have H := (half_math M D (by omega)).1
  rw [← h] at H
  obtain ⟨P, Q, m, h1, h2, h3, h4, h5, h6, h7⟩ := last_half (M := M) (X := X) hD (by omega)
  have K := half_low h4 h7 rfl rfl
  exact ⟨P, Q, m, _, _, h1, h2, h3, h4, h5, h6, by omega, rfl, rfl, by omega, by omega, sg_at (by omega)⟩
end Go.Proofs.Ytdbgooobbemklaa
namespace Go.Proofs.Ytdbgooobbemklaa
open Go.RowKit
theorem pab_on {W W' : World} {B : Nat} {p : Fl} (hb : Below W.heap.size W W') (h : W.cell? ⟨B, 0, none⟩ = some (.int .i64 p.a) ∧ W.cell? ⟨B, 1, none⟩ = some (.int .i64 p.b)) : W'.cell? ⟨B, 0, none⟩ = some (.int .i64 p.a) ∧ W'.cell? ⟨B, 1, none⟩ = some (.int .i64 p.b) := ⟨cell_on hb h.1, cell_on hb h.2⟩
theorem nab2 {x y : Int} {k m : Nat} (hx : x.natAbs < 2 ^ k) (hy : y.natAbs < 2 ^ m) : (x * y).natAbs < 2 ^ (k + m) := by
  rw [Int.natAbs_mul, Nat.pow_add]; exact Nat.mul_lt_mul'' hx hy
theorem nab3 {t : Nat} (tb : t < 25) : ((2 : Int) ^ (8 + t)).natAbs < 2 ^ 33 := by
  rw [Int.natAbs_pow]
  exact Nat.lt_of_le_of_lt (Nat.pow_le_pow_right (by decide) (show 8 + t ≤ 32 by omega)) (by decide)
theorem pow_wrap {t : Nat} (tb : t < 25) : wrap64 (2 ^ (8 + t)) = 2 ^ (8 + t) := by
  have p0 : (0 : Int) < 2 ^ (8 + t) := Int.pow_pos (by decide)
  have p1 : (2 : Int) ^ (8 + t) ≤ 2 ^ 32 := by have := Nat.pow_le_pow_right (show 0 < 2 by decide) (show 8 + t ≤ 32 by omega); exact_mod_cast this
  exact IntWalk.wrap64_in _ ⟨by omega, by omega⟩
theorem laws_ex {a b : Int} {t : Nat} (ga : wd a = true) (gb : wd b = true) (tb : t < 25) : ∃ O m me d de : Int, O = 2 ^ (8 + t) ∧ (∀ W : World, Calls Try.prog 25 #[.int .i64 a, .int .i64 O, .int .i64 (8 + (t : Int))] W fun e w' => e = .returned (.tuple #[.int .i64 (a), .int .i64 (0)]) ∧ Below W.heap.size W w') ∧ (∀ W : World, Calls Try.prog 26 #[.int .i64 a, .int .i64 O, .int .i64 (8 + (t : Int))] W fun e w' => e = .returned (.tuple #[.int .i64 (a), .int .i64 (0)]) ∧ Below W.heap.size W w') ∧ (∀ W : World, Calls Try.prog 25 #[.int .i64 a, .int .i64 b, .int .i64 (8 + (t : Int))] W fun e w' => e = .returned (.tuple #[.int .i64 (m), .int .i64 (me)]) ∧ Below W.heap.size W w') ∧ (∀ W : World, Calls Try.prog 25 #[.int .i64 b, .int .i64 a, .int .i64 (8 + (t : Int))] W fun e w' => e = .returned (.tuple #[.int .i64 (m), .int .i64 (me)]) ∧ Below W.heap.size W w') ∧ (a ≠ 0 → ∀ W : World, Calls Try.prog 26 #[.int .i64 a, .int .i64 a, .int .i64 (8 + (t : Int))] W fun e w' => e = .returned (.tuple #[.int .i64 (O), .int .i64 (0)]) ∧ Below W.heap.size W w') ∧ (b ≠ 0 → ∀ W : World, Calls Try.prog 26 #[.int .i64 a, .int .i64 b, .int .i64 (8 + (t : Int))] W fun e w' => e = .returned (.tuple #[.int .i64 (d), .int .i64 (de)]) ∧ Below W.heap.size W w') ∧ (me = 0 → m = rd (a * b) (2 ^ (8 + t)) ∧ wd m = true) ∧ (b ≠ 0 → de = 0 → d = rd (a * 2 ^ (8 + t)) b ∧ wd d = true) := by
  have cf : ((8 + t : Nat) : Int) = 8 + (t : Int) := by omega
  have gf : fb ((8 + t : Nat) : Int) = true := fb_mk (by omega)
  have p0 : (0 : Int) < 2 ^ (8 + t) := Int.pow_pos (by decide)
  have p1 : (2 : Int) ^ (8 + t) ≤ 2 ^ 32 := by have := Nat.pow_le_pow_right (show 0 < 2 by decide) (show 8 + t ≤ 32 by omega); exact_mod_cast this
  have gO : wd ((2 : Int) ^ (8 + t)) = true := wd_mk (by omega)
  have e1 : rd (a * 2 ^ (8 + t)) (2 ^ (8 + t)) = a := rd_whole a (by omega)
  have z : ∀ v : Int, te v = 0 → wd v = true := fun v h => by
    cases g : wd v with
    | true => rfl
    | false => rw [te_out g] at h; exact absurd h (by decide)
  refine ⟨_, tw (rd (a * b) (2 ^ (8 + t))), te (rd (a * b) (2 ^ (8 + t))), tw (rd (a * 2 ^ (8 + t)) b), te (rd (a * 2 ^ (8 + t)) b), rfl, ?_, ?_, ?_, ?_, ?_, ?_, ?_, ?_⟩
  · intro W
    have := fxmul_any a (2 ^ (8 + t)) (8 + t) W ga gO gf
    rw [e1, tw_in ga, te_in ga, cf] at this
    exact this
  · intro W
    have := fxdiv_any a (2 ^ (8 + t)) (8 + t) W ga gO gf (by omega)
    rw [e1, tw_in ga, te_in ga, cf] at this
    exact this
  · intro W
    have := fxmul_any a b (8 + t) W ga gb gf
    rw [cf] at this
    exact this
  · intro W
    have := fxmul_any b a (8 + t) W gb ga gf
    rw [cf, Int.mul_comm b a] at this
    exact this
  · intro h W
    have := fxdiv_any a a (8 + t) W ga ga gf h
    rw [Int.mul_comm a, rd_whole _ h, tw_in gO, te_in gO, cf] at this
    exact this
  · intro h W
    have := fxdiv_any a b (8 + t) W ga gb gf h
    rw [cf] at this
    exact this
  · intro h
    have g := z _ h
    rw [tw_in g]
    exact ⟨rfl, g⟩
  · intro _ h
    have g := z _ h
    rw [tw_in g]
    exact ⟨rfl, g⟩
theorem quo_ex {a b d : Int} {t : Nat} (ga : wd a = true) (gb : wd b = true) (gd : wd d = true) (tb : t < 25) (hb : b ≠ 0) (h : d = rd (a * 2 ^ (8 + t)) b) : ∃ db aN r r1 r2 b1 c : Int, ¬ 0 < c ∧ (∀ W : World, Calls Try.prog 33 #[.int .i64 d] W (SomeI W d)) ∧ (∀ W : World, Calls Try.prog 33 #[.int .i64 b] W (SomeI W b)) ∧ (∀ W : World, Calls Try.prog 33 #[.int .i64 a] W (SomeI W a)) ∧ (∀ (W : World) (x y : Value), IsI W x d → IsI W y b → Calls Try.prog 32 #[x, y] W (SomeI W db)) ∧ (∀ (W : World) (x : Value), IsI W x a → Calls Try.prog 34 #[x, .int .i64 (8 + (t : Int))] W (SomeI W aN)) ∧ (∀ (W : World) (x y : Value), IsI W x db → IsI W y aN → Calls Try.prog 31 #[x, y] W (SomeI W r)) ∧ (∀ (W : World) (x : Value), IsI W x r → Calls Try.prog 36 #[x] W (SomeI W r1)) ∧ (∀ (W : World) (x : Value), IsI W x r1 → Calls Try.prog 34 #[x, .int .i64 1] W (SomeI W r2)) ∧ (∀ (W : World) (x : Value), IsI W x b → Calls Try.prog 36 #[x] W (SomeI W b1)) ∧ (∀ (W : World) (x y : Value), IsI W x r2 → IsI W y b1 → Calls Try.prog 35 #[x, y] W fun e w' => e = .returned (.int .i64 c) ∧ Below W.heap.size W w') := by
  have A := wd_bd ga
  have B := wd_bd gb
  have D := wd_bd gd
  have cf : ((8 + t : Nat) : Int) = 8 + (t : Int) := by omega
  have q := law_quo hb h
  have m1 : (d * b).natAbs < 2 ^ (47 + 47) := nab2 (by omega) (by omega)
  have m2 : (a * 2 ^ (8 + t)).natAbs < 2 ^ (47 + 33) := nab2 (by omega) (nab3 tb)
  have m3 : (d * b - a * 2 ^ (8 + t)).natAbs < 2 ^ 95 := by omega
  refine ⟨d * b, a * 2 ^ (8 + t), d * b - a * 2 ^ (8 + t), ((d * b - a * 2 ^ (8 + t)).natAbs : Nat), ((d * b - a * 2 ^ (8 + t)).natAbs : Nat) * 2 ^ 1, (b.natAbs : Nat), _, q, fun W => ifrom_any d W (by omega) (by omega), fun W => ifrom_any b W (by omega) (by omega), fun W => ifrom_any a W (by omega) (by omega), ?_, ?_, ?_, ?_, ?_, ?_, ?_⟩
  · exact fun W x y h j => itimes_any x y d b W h j (big_of (k := 47) (by omega) (by decide)) (big_of (k := 47) (by omega) (by decide))
  · intro W x h
    have := ileft_any x a (8 + t) W h (big_of (k := 47) (by omega) (by decide)) (by omega)
    rw [cf] at this
    exact this
  · exact fun W x y h j => iless_any x y _ _ W h j (big_of m1 (by decide)) (big_of m2 (by decide))
  · exact fun W x h => iabs_any x _ W h
  · exact fun W x h => ileft_any x _ 1 W h (big_of (k := 95) (by omega) (by decide)) (by decide)
  · exact fun W x h => iabs_any x _ W h
  · exact fun W x y h j => icmp_any x y _ _ W h j (big_of (k := 96) (by omega) (by decide)) (big_of (k := 47) (by omega) (by decide))
theorem prod_ex {a b m : Int} {t : Nat} (ga : wd a = true) (gb : wd b = true) (gm : wd m = true) (tb : t < 25) (h : m = rd (a * b) (2 ^ (8 + t))) : ∃ (ab P A A1 c : Int) (D Q C : Nat), ¬ 0 < c ∧ (∀ W : World, Calls Try.prog 40 #[.int .i64 m] W (SomeR W m 1)) ∧ (∀ W : World, Calls Try.prog 33 #[.int .i64 b] W (SomeI W b)) ∧ (∀ W : World, Calls Try.prog 33 #[.int .i64 a] W (SomeI W a)) ∧ (∀ (W : World) (x y : Value), IsI W x a → IsI W y b → Calls Try.prog 32 #[x, y] W (SomeI W ab)) ∧ (∀ (W : World) (v : Value), IsN W v 1 → Calls Try.prog 42 #[v, .int .i64 (8 + (t : Int))] W (SomeN W D)) ∧ (∀ (W : World) (x v : Value), IsI W x ab → IsN W v D → Calls Try.prog 41 #[x, v] W (SomeR W P Q)) ∧ (∀ (W : World) (x y : Value), IsR W x m 1 → IsR W y P Q → Calls Try.prog 39 #[x, y] W (SomeR W A C)) ∧ (∀ (W : World) (x : Value), IsR W x A C → Calls Try.prog 38 #[x] W (SomeR W A1 C)) ∧ (∀ W : World, Calls Try.prog 44 #[.int .i64 1, .int .i64 1] W (SomeR W 1 2)) ∧ (∀ (W : World) (x y : Value), IsR W x A1 C → IsR W y 1 2 → Calls Try.prog 37 #[x, y] W fun e w' => e = .returned (.int .i64 c) ∧ Below W.heap.size W w') := by
  have GA := wd_bd ga
  have GB := wd_bd gb
  have GM := wd_bd gm
  have cf : ((8 + t : Nat) : Int) = 8 + (t : Int) := by omega
  have p0 := Nat.two_pow_pos (8 + t)
  have p1 : 2 ^ (8 + t) ≤ 2 ^ 32 := Nat.pow_le_pow_right (by decide) (by omega)
  have pc : ((2 ^ (8 + t) : Nat) : Int) = (2 : Int) ^ (8 + t) := by simp
  rw [← pc] at h
  have m1 : (a * b).natAbs < 2 ^ (47 + 47) := nab2 (by omega) (by omega)
  obtain ⟨D, hD0⟩ : ∃ D, 2 ^ (8 + t) = D := ⟨_, rfl⟩
  rw [hD0] at p0 p1 h
  obtain ⟨P, Q, k, A, C, h1, h2, h3, h4, h5, h6, h7, h8, h9, h10, h11, h12⟩ := law_prod (M := a * b) (by omega) h
  have gq : (m * (Q : Nat)).natAbs < 2 ^ (47 + 33) := nab2 (by omega) (by omega)
  refine ⟨a * b, P, A, (A.natAbs : Nat), _, 1 * D, Q, C, h12, fun W => rint_any m W (by omega) (by omega), fun W => ifrom_any b W (by omega) (by omega), fun W => ifrom_any a W (by omega) (by omega), ?_, ?_, ?_, ?_, ?_, ?_, ?_⟩
  · exact fun W x y h j => itimes_any x y a b W h j (big_of (k := 47) (by omega) (by decide)) (big_of (k := 47) (by omega) (by decide))
  · intro W v h
    have := up2_any v 1 (8 + t) W h (big_of (k := 1) (by decide) (by decide)) (by omega)
    rw [cf, hD0] at this
    exact this
  · intro W x v h j
    rw [Nat.one_mul] at j
    have := make_any x v (a * b) D W h j (mid_of m1 (by decide)) (mid_of (k := 33) (by omega) (by decide)) (by omega)
    rw [← h1, ← h2] at this
    exact this
  · intro W x y h j
    refine rless_any x y m P 1 Q A C W h j (fun W x y h j => ?_)
    exact rplus_any x y m (-P) k 1 Q Q A C W h j (big_of (k := 47) (by omega) (by decide)) (big_of (k := 95) (by omega) (by decide)) (big_of (k := 1) (by decide) (by decide)) (big_of (k := 33) (by omega) (by decide)) (big_of gq (by decide)) (big_of (k := 95) (by simp; omega) (by decide)) h3 (Nat.one_mul Q).symm (mid_of (k := 33) (by omega) (by decide)) (mid_of (k := 33) (by omega) (by decide)) h4 h8 h9
  · exact fun W x h => rabs_any x A C W h
  · exact fun W => over2_any 1 1 1 2 W (by decide) (by decide) (by decide) (by decide) (by decide)
  · exact fun W x y h j => rcmp_any x y _ 1 C 2 W h j (big_of (k := 33) (by omega) (by decide)) one_big (big_of (k := 33) (by omega) (by decide)) (big_of (k := 2) (by decide) (by decide)) (big_of (k := 35) (by omega) (by decide)) (big_of (k := 33) (by omega) (by decide))
end Go.Proofs.Ytdbgooobbemklaa
