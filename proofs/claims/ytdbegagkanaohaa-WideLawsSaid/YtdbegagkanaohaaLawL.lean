/-
  WideLaws' loop.
-/
import Derived.Test.YtdbegagkanaohaaLawA
namespace Go.Proofs.Ytdbegagkanaohaa
open Go.RowKit

theorem sg_sum (a b : Int) : sg (a + b) b = sg a 0 := by unfold sg; repeat' split <;> try omega

set_option maxRecDepth 100000 in
set_option maxHeartbeats 8000000 in
theorem laws_any (b off len cap : Nat) (es : Nat → El) (w : World) (_hl : len ≤ 9223372036854775807) (hb : b < w.heap.size) (hT : ∀ i, i < len → TwoAt w b (off + i * 7) (es i)) (hok : ∀ i, i < len → (es i).ok) :
    Calls Try.prog 6 #[.slice (some ⟨b, off, none⟩) len cap] w fun e w' => e = .returned (.bool true) ∧ Below w.heap.size w w' := by
  have HT := Lib.hid (And.intro hT hok)
  clear hT hok
  go_enter Try.func6, Try.ntmps6
  go_wp2
  go_loopw [3] (fun s3 wr => ∃ k : Nat, k ≤ len ∧ s3 = .int .i64 k ∧ Below w.heap.size w wr) (fun s3 _ => len - (intOf s3).toNat)
  case atStart => exact ⟨0, Nat.zero_le _, rfl, Below.refl _ _⟩
  case round =>
    obtain ⟨k, hk, rfl, hB⟩ := hrel
    have hBs := hB.size
    by_cases g : k < len ∧ k < 30
    · obtain ⟨g1, g2⟩ := g
      obtain ⟨t1, t2, t3, t4, t5, t6, t7⟩ := (HT.out.1 k g1).below hB hb
      have HO := Lib.hid (HT.out.2 k g1)
      generalize es k = p at *
      -- the second half: products
      obtain ⟨x, hx⟩ : ∃ x, x = p.x / 4 := ⟨_, rfl⟩
      obtain ⟨y, hy⟩ : ∃ y, y = p.y / 4 := ⟨_, rfl⟩
      have x0 : -2305843009213693952 ≤ x := by have := HO.out.2.2.1; omega
      have x1 : x ≤ 2305843009213693951 := by have := HO.out.2.2.1; omega
      have y0 : -2305843009213693952 ≤ y := by have := HO.out.2.2.2.1; omega
      have y1 : y ≤ 2305843009213693951 := by have := HO.out.2.2.2.1; omega
      have hn := HO.out.2.2.2.2
      have mx := mul_bd (a := x) (b := p.n) (by omega) (by omega) hn.1 hn.2
      have my := mul_bd (a := y) (b := p.n) (by omega) (by omega) hn.1 hn.2
      have mz := mul_bd (a := x + y) (b := p.n) (by omega) (by omega) hn.1 hn.2
      have MX := Lib.hid (fun W : World => mul_any x p.n W (by omega) (by omega) hn.1 hn.2)
      have MY := Lib.hid (fun W : World => mul_any y p.n W (by omega) (by omega) hn.1 hn.2)
      have MZ := fun W : World => mul_any (x + y) p.n W (by omega) (by omega) hn.1 hn.2
      have AC := fun W : World => add_any (x * p.n) (y * p.n) W (by rw [R_iff]; omega) (by rw [R_iff]; omega)
      have rz : R ((x + y) * p.n) := by rw [R_iff]; omega
      rw [← Int.add_mul, told_in rz, over_in rz] at AC
      generalize (x + y) * p.n = T at *
      have MZ := Lib.hid MZ
      have AC := Lib.hid AC
      have ex := hx.symm
      have ey := hy.symm
      have XB := Lib.hid (And.intro x0 (And.intro x1 (And.intro y0 y1)))
      clear hx hy mx my mz rz hn
      -- the first half: sums
      have A1 := fun W : World => add_any p.a p.b W HO.out.1 HO.out.2.1
      have A2 : ∀ W : World, Calls Try.prog 13 #[Wv p.b, Wv p.a] W fun e w' => e = .returned (.tuple #[Wv (told (p.a + p.b)), .int .i64 (over (p.a + p.b))]) ∧ Below W.heap.size W w' := fun W => by
        have := add_any p.b p.a W HO.out.2.1 HO.out.1
        rw [Int.add_comm p.b p.a] at this
        exact this
      by_cases gr : R (p.a + p.b)
      · rw [told_in gr, over_in gr] at A1 A2
        have SB := fun W : World => sub_any (p.a + p.b) p.b W gr HO.out.2.1
        rw [show p.a + p.b - p.b = p.a by omega, told_in HO.out.1, over_in HO.out.1] at SB
        have CM := fun W : World => cmp_any (p.a + p.b) p.b W
        rw [sg_sum] at CM
        have SG := Lib.hid (fun W : World => sign_any p.a W)
        generalize p.a + p.b = v at *
        have A1 := Lib.hid A1
        have A2 := Lib.hid A2
        have SB := Lib.hid SB
        have CM := Lib.hid CM
        clear gr
        go_upto_region 11 with (first | (go_at_call 11; (with_reducible refine (num_any _ _).mono ?_); rintro e w' ⟨rfl, rfl⟩) | (go_at_call 13; (with_reducible refine (A1.out _).mono ?_); rintro e w1 ⟨rfl, hb1⟩; have e10 : w1.cell? ⟨wr.heap.size, 0, none⟩ = some (.int .i64 (hi p.a)) := cell_on hb1 (by first | (simp [go_sem, *]; done) | (simp [go_sem, World.cell?_alloc_some, *]; done) | fail); have e11 : w1.cell? ⟨wr.heap.size, 1, none⟩ = some (.int .u64 (lo p.a)) := cell_on hb1 (by first | (simp [go_sem, *]; done) | (simp [go_sem, World.cell?_alloc_some, *]; done) | fail); have e12 : w1.cell? ⟨wr.heap.size, 2, none⟩ = some (.int .i64 (hi p.b)) := cell_on hb1 (by first | (simp [go_sem, *]; done) | (simp [go_sem, World.cell?_alloc_some, *]; done) | fail); have e13 : w1.cell? ⟨wr.heap.size, 3, none⟩ = some (.int .u64 (lo p.b)) := cell_on hb1 (by first | (simp [go_sem, *]; done) | (simp [go_sem, World.cell?_alloc_some, *]; done) | fail); have e14 : w1.cell? ⟨wr.heap.size, 4, none⟩ = some (.int .i64 p.x) := cell_on hb1 (by first | (simp [go_sem, *]; done) | (simp [go_sem, World.cell?_alloc_some, *]; done) | fail); have e15 : w1.cell? ⟨wr.heap.size, 5, none⟩ = some (.int .i64 p.y) := cell_on hb1 (by first | (simp [go_sem, *]; done) | (simp [go_sem, World.cell?_alloc_some, *]; done) | fail); have e16 : w1.cell? ⟨wr.heap.size, 6, none⟩ = some (.int .i64 p.n) := cell_on hb1 (by first | (simp [go_sem, *]; done) | (simp [go_sem, World.cell?_alloc_some, *]; done) | fail); have s10 : wr.heap.size < w1.heap.size := World.block_lt_of_cell? _ _ e10; have t10 : wr.heap.size < w1.heap.size + 1 := Nat.lt_succ_of_lt s10) | (go_at_call 13; (with_reducible refine (A2.out _).mono ?_); rintro e w2 ⟨rfl, hb2⟩; have e20 : w2.cell? ⟨wr.heap.size, 0, none⟩ = some (.int .i64 (hi p.a)) := cell_on hb2 (by first | (simp [go_sem, *]; done) | (simp [go_sem, World.cell?_alloc_some, *]; done) | fail); have e21 : w2.cell? ⟨wr.heap.size, 1, none⟩ = some (.int .u64 (lo p.a)) := cell_on hb2 (by first | (simp [go_sem, *]; done) | (simp [go_sem, World.cell?_alloc_some, *]; done) | fail); have e22 : w2.cell? ⟨wr.heap.size, 2, none⟩ = some (.int .i64 (hi p.b)) := cell_on hb2 (by first | (simp [go_sem, *]; done) | (simp [go_sem, World.cell?_alloc_some, *]; done) | fail); have e23 : w2.cell? ⟨wr.heap.size, 3, none⟩ = some (.int .u64 (lo p.b)) := cell_on hb2 (by first | (simp [go_sem, *]; done) | (simp [go_sem, World.cell?_alloc_some, *]; done) | fail); have e24 : w2.cell? ⟨wr.heap.size, 4, none⟩ = some (.int .i64 p.x) := cell_on hb2 (by first | (simp [go_sem, *]; done) | (simp [go_sem, World.cell?_alloc_some, *]; done) | fail); have e25 : w2.cell? ⟨wr.heap.size, 5, none⟩ = some (.int .i64 p.y) := cell_on hb2 (by first | (simp [go_sem, *]; done) | (simp [go_sem, World.cell?_alloc_some, *]; done) | fail); have e26 : w2.cell? ⟨wr.heap.size, 6, none⟩ = some (.int .i64 p.n) := cell_on hb2 (by first | (simp [go_sem, *]; done) | (simp [go_sem, World.cell?_alloc_some, *]; done) | fail); have e27 : w2.cell? ⟨w1.heap.size, 0, none⟩ = some (.int .i64 (hi v)) := cell_on hb2 (by first | (simp [go_sem, *]; done) | (simp [go_sem, World.cell?_alloc_some, *]; done) | fail); have e28 : w2.cell? ⟨w1.heap.size, 1, none⟩ = some (.int .u64 (lo v)) := cell_on hb2 (by first | (simp [go_sem, *]; done) | (simp [go_sem, World.cell?_alloc_some, *]; done) | fail); have s20 : wr.heap.size < w2.heap.size := World.block_lt_of_cell? _ _ e20; have t20 : wr.heap.size < w2.heap.size + 1 := Nat.lt_succ_of_lt s20; have s27 : w1.heap.size < w2.heap.size := World.block_lt_of_cell? _ _ e27; have t27 : w1.heap.size < w2.heap.size + 1 := Nat.lt_succ_of_lt s27) | (go_at_call 10; (with_reducible refine (SB.out _).mono ?_); rintro e w3 ⟨rfl, hb3⟩; have e30 : w3.cell? ⟨wr.heap.size, 0, none⟩ = some (.int .i64 (hi p.a)) := cell_on hb3 (by first | (simp [go_sem, *]; done) | (simp [go_sem, World.cell?_alloc_some, *]; done) | fail); have e31 : w3.cell? ⟨wr.heap.size, 1, none⟩ = some (.int .u64 (lo p.a)) := cell_on hb3 (by first | (simp [go_sem, *]; done) | (simp [go_sem, World.cell?_alloc_some, *]; done) | fail); have e32 : w3.cell? ⟨wr.heap.size, 2, none⟩ = some (.int .i64 (hi p.b)) := cell_on hb3 (by first | (simp [go_sem, *]; done) | (simp [go_sem, World.cell?_alloc_some, *]; done) | fail); have e33 : w3.cell? ⟨wr.heap.size, 3, none⟩ = some (.int .u64 (lo p.b)) := cell_on hb3 (by first | (simp [go_sem, *]; done) | (simp [go_sem, World.cell?_alloc_some, *]; done) | fail); have e34 : w3.cell? ⟨wr.heap.size, 4, none⟩ = some (.int .i64 p.x) := cell_on hb3 (by first | (simp [go_sem, *]; done) | (simp [go_sem, World.cell?_alloc_some, *]; done) | fail); have e35 : w3.cell? ⟨wr.heap.size, 5, none⟩ = some (.int .i64 p.y) := cell_on hb3 (by first | (simp [go_sem, *]; done) | (simp [go_sem, World.cell?_alloc_some, *]; done) | fail); have e36 : w3.cell? ⟨wr.heap.size, 6, none⟩ = some (.int .i64 p.n) := cell_on hb3 (by first | (simp [go_sem, *]; done) | (simp [go_sem, World.cell?_alloc_some, *]; done) | fail); have e37 : w3.cell? ⟨w1.heap.size, 0, none⟩ = some (.int .i64 (hi v)) := cell_on hb3 (by first | (simp [go_sem, *]; done) | (simp [go_sem, World.cell?_alloc_some, *]; done) | fail); have e38 : w3.cell? ⟨w1.heap.size, 1, none⟩ = some (.int .u64 (lo v)) := cell_on hb3 (by first | (simp [go_sem, *]; done) | (simp [go_sem, World.cell?_alloc_some, *]; done) | fail); have s30 : wr.heap.size < w3.heap.size := World.block_lt_of_cell? _ _ e30; have t30 : wr.heap.size < w3.heap.size + 1 := Nat.lt_succ_of_lt s30; have s37 : w1.heap.size < w3.heap.size := World.block_lt_of_cell? _ _ e37; have t37 : w1.heap.size < w3.heap.size + 1 := Nat.lt_succ_of_lt s37))
        go_cut [83] (fun s83 wx => s83 = .bool false ∧ wx.cell? ⟨wr.heap.size, 4, none⟩ = some (.int .i64 p.x) ∧ wx.cell? ⟨wr.heap.size, 5, none⟩ = some (.int .i64 p.y) ∧ wx.cell? ⟨wr.heap.size, 6, none⟩ = some (.int .i64 p.n) ∧ Below w.heap.size w wx)
        case first =>
          go_region_held3 (fun w' => w'.cell? ⟨wr.heap.size, 0, none⟩ = some (.int .i64 (hi p.a)) ∧ w'.cell? ⟨wr.heap.size, 1, none⟩ = some (.int .u64 (lo p.a)) ∧ w'.cell? ⟨wr.heap.size, 2, none⟩ = some (.int .i64 (hi p.b)) ∧ w'.cell? ⟨wr.heap.size, 3, none⟩ = some (.int .u64 (lo p.b)) ∧ w'.cell? ⟨wr.heap.size, 4, none⟩ = some (.int .i64 p.x) ∧ w'.cell? ⟨wr.heap.size, 5, none⟩ = some (.int .i64 p.y) ∧ w'.cell? ⟨wr.heap.size, 6, none⟩ = some (.int .i64 p.n) ∧ w'.cell? ⟨w1.heap.size, 0, none⟩ = some (.int .i64 (hi v)) ∧ w'.cell? ⟨w1.heap.size, 1, none⟩ = some (.int .u64 (lo v)) ∧ w'.cell? ⟨w3.heap.size, 0, none⟩ = some (.int .i64 (hi p.a)) ∧ w'.cell? ⟨w3.heap.size, 1, none⟩ = some (.int .u64 (lo p.a))) (first | (simp [go_sem, *]; done) | (simp [go_sem, World.cell?_alloc_some, *]; done))
            (first
            | (go_at_call 11; (with_reducible refine (num_any _ _).mono ?_); rintro e w' ⟨rfl, rfl⟩)
            | (go_at_call 9; (with_reducible refine (CM.out _).mono ?_); rintro e w4 ⟨rfl, hb4⟩; have e40 : w4.cell? ⟨wr.heap.size, 0, none⟩ = some (.int .i64 (hi p.a)) := cell_on hb4 (by first | (simp [go_sem, *]; done) | (simp [go_sem, World.cell?_alloc_some, *]; done) | fail); have e41 : w4.cell? ⟨wr.heap.size, 1, none⟩ = some (.int .u64 (lo p.a)) := cell_on hb4 (by first | (simp [go_sem, *]; done) | (simp [go_sem, World.cell?_alloc_some, *]; done) | fail); have e42 : w4.cell? ⟨wr.heap.size, 2, none⟩ = some (.int .i64 (hi p.b)) := cell_on hb4 (by first | (simp [go_sem, *]; done) | (simp [go_sem, World.cell?_alloc_some, *]; done) | fail); have e43 : w4.cell? ⟨wr.heap.size, 3, none⟩ = some (.int .u64 (lo p.b)) := cell_on hb4 (by first | (simp [go_sem, *]; done) | (simp [go_sem, World.cell?_alloc_some, *]; done) | fail); have e44 : w4.cell? ⟨wr.heap.size, 4, none⟩ = some (.int .i64 p.x) := cell_on hb4 (by first | (simp [go_sem, *]; done) | (simp [go_sem, World.cell?_alloc_some, *]; done) | fail); have e45 : w4.cell? ⟨wr.heap.size, 5, none⟩ = some (.int .i64 p.y) := cell_on hb4 (by first | (simp [go_sem, *]; done) | (simp [go_sem, World.cell?_alloc_some, *]; done) | fail); have e46 : w4.cell? ⟨wr.heap.size, 6, none⟩ = some (.int .i64 p.n) := cell_on hb4 (by first | (simp [go_sem, *]; done) | (simp [go_sem, World.cell?_alloc_some, *]; done) | fail); have e47 : w4.cell? ⟨w1.heap.size, 0, none⟩ = some (.int .i64 (hi v)) := cell_on hb4 (by first | (simp [go_sem, *]; done) | (simp [go_sem, World.cell?_alloc_some, *]; done) | fail); have e48 : w4.cell? ⟨w1.heap.size, 1, none⟩ = some (.int .u64 (lo v)) := cell_on hb4 (by first | (simp [go_sem, *]; done) | (simp [go_sem, World.cell?_alloc_some, *]; done) | fail); have e49 : w4.cell? ⟨w3.heap.size, 0, none⟩ = some (.int .i64 (hi p.a)) := cell_on hb4 (by first | (simp [go_sem, *]; done) | (simp [go_sem, World.cell?_alloc_some, *]; done) | fail); have e410 : w4.cell? ⟨w3.heap.size, 1, none⟩ = some (.int .u64 (lo p.a)) := cell_on hb4 (by first | (simp [go_sem, *]; done) | (simp [go_sem, World.cell?_alloc_some, *]; done) | fail); have s40 : wr.heap.size < w4.heap.size := World.block_lt_of_cell? _ _ e40; have t40 : wr.heap.size < w4.heap.size + 1 := Nat.lt_succ_of_lt s40; have s47 : w1.heap.size < w4.heap.size := World.block_lt_of_cell? _ _ e47; have t47 : w1.heap.size < w4.heap.size + 1 := Nat.lt_succ_of_lt s47; have s49 : w3.heap.size < w4.heap.size := World.block_lt_of_cell? _ _ e49; have t49 : w3.heap.size < w4.heap.size + 1 := Nat.lt_succ_of_lt s49)
            | (go_at_call 12; (with_reducible refine (SG.out _).mono ?_); rintro e w5 ⟨rfl, hb5⟩; have e50 : w5.cell? ⟨wr.heap.size, 0, none⟩ = some (.int .i64 (hi p.a)) := cell_on hb5 (by first | (simp [go_sem, *]; done) | (simp [go_sem, World.cell?_alloc_some, *]; done) | fail); have e51 : w5.cell? ⟨wr.heap.size, 1, none⟩ = some (.int .u64 (lo p.a)) := cell_on hb5 (by first | (simp [go_sem, *]; done) | (simp [go_sem, World.cell?_alloc_some, *]; done) | fail); have e52 : w5.cell? ⟨wr.heap.size, 2, none⟩ = some (.int .i64 (hi p.b)) := cell_on hb5 (by first | (simp [go_sem, *]; done) | (simp [go_sem, World.cell?_alloc_some, *]; done) | fail); have e53 : w5.cell? ⟨wr.heap.size, 3, none⟩ = some (.int .u64 (lo p.b)) := cell_on hb5 (by first | (simp [go_sem, *]; done) | (simp [go_sem, World.cell?_alloc_some, *]; done) | fail); have e54 : w5.cell? ⟨wr.heap.size, 4, none⟩ = some (.int .i64 p.x) := cell_on hb5 (by first | (simp [go_sem, *]; done) | (simp [go_sem, World.cell?_alloc_some, *]; done) | fail); have e55 : w5.cell? ⟨wr.heap.size, 5, none⟩ = some (.int .i64 p.y) := cell_on hb5 (by first | (simp [go_sem, *]; done) | (simp [go_sem, World.cell?_alloc_some, *]; done) | fail); have e56 : w5.cell? ⟨wr.heap.size, 6, none⟩ = some (.int .i64 p.n) := cell_on hb5 (by first | (simp [go_sem, *]; done) | (simp [go_sem, World.cell?_alloc_some, *]; done) | fail); have e57 : w5.cell? ⟨w1.heap.size, 0, none⟩ = some (.int .i64 (hi v)) := cell_on hb5 (by first | (simp [go_sem, *]; done) | (simp [go_sem, World.cell?_alloc_some, *]; done) | fail); have e58 : w5.cell? ⟨w1.heap.size, 1, none⟩ = some (.int .u64 (lo v)) := cell_on hb5 (by first | (simp [go_sem, *]; done) | (simp [go_sem, World.cell?_alloc_some, *]; done) | fail); have e59 : w5.cell? ⟨w3.heap.size, 0, none⟩ = some (.int .i64 (hi p.a)) := cell_on hb5 (by first | (simp [go_sem, *]; done) | (simp [go_sem, World.cell?_alloc_some, *]; done) | fail); have e510 : w5.cell? ⟨w3.heap.size, 1, none⟩ = some (.int .u64 (lo p.a)) := cell_on hb5 (by first | (simp [go_sem, *]; done) | (simp [go_sem, World.cell?_alloc_some, *]; done) | fail); have s50 : wr.heap.size < w5.heap.size := World.block_lt_of_cell? _ _ e50; have t50 : wr.heap.size < w5.heap.size + 1 := Nat.lt_succ_of_lt s50; have s57 : w1.heap.size < w5.heap.size := World.block_lt_of_cell? _ _ e57; have t57 : w1.heap.size < w5.heap.size + 1 := Nat.lt_succ_of_lt s57; have s59 : w3.heap.size < w5.heap.size := World.block_lt_of_cell? _ _ e59; have t59 : w3.heap.size < w5.heap.size + 1 := Nat.lt_succ_of_lt s59))
          all_goals
            go_wp2_with fail
            go_meet
            refine ⟨by first | rfl | simp, by simp [go_sem, *], by simp [go_sem, *], by simp [go_sem, *], ?_⟩
            repeat (first | exact Below.refl _ _ | assumption | apply Below.drew | refine Below.setCell ?_ (by first | omega | (simp; done) | (simp; omega)) _ | refine Below.alloc ?_ (by first | omega | (simp; done) | (simp; omega)) _ | refine Below.trans ?_ (hb5.mono (by first | omega | (simp; done) | (simp; omega))) | refine Below.trans ?_ (hb4.mono (by first | omega | (simp; done) | (simp; omega))) | refine Below.trans ?_ (hb3.mono (by first | omega | (simp; done) | (simp; omega))) | refine Below.trans ?_ (hb2.mono (by first | omega | (simp; done) | (simp; omega))) | refine Below.trans ?_ (hb1.mono (by first | omega | (simp; done) | (simp; omega))))
        case rest =>
          obtain ⟨rfl, c5, c6, c7, hBz⟩ := hcut
          clear t1 t2 t3 t4 t5 t6 t7
          have hPz : wr.heap.size < _ := World.block_lt_of_cell? _ _ c5
          have hWz := hBz.size
          clear hB hBs
          generalize wr.heap.size = P at *
          have t5 := c5
          have t6 := c6
          have t7 := c7
          clear c5 c6 c7
          have hP1 : P < wc.heap.size + 1 := Nat.lt_succ_of_lt hPz
          have hP2 : P < wc.heap.size + 1 + 1 := Nat.lt_succ_of_lt hP1
          go_upto_region 15 with fail
          go_cut [13, 14] (fun s13 s14 wx => ∃ q : Nat, s13 = .pointer (some ⟨q, 0, none⟩) ∧ s14 = .int .i64 0 ∧ wx.cell? ⟨P, 4, none⟩ = some (.int .i64 p.x) ∧ wx.cell? ⟨P, 5, none⟩ = some (.int .i64 p.y) ∧ wx.cell? ⟨P, 6, none⟩ = some (.int .i64 p.n) ∧ wx.cell? ⟨q, 0, none⟩ = some (.int .i64 (hi T)) ∧ wx.cell? ⟨q, 1, none⟩ = some (.int .u64 (lo T)) ∧ Below w.heap.size w wx)
          case first =>
            go_region_held3 (fun w' => w'.cell? ⟨P, 4, none⟩ = some (.int .i64 p.x) ∧ w'.cell? ⟨P, 5, none⟩ = some (.int .i64 p.y) ∧ w'.cell? ⟨P, 6, none⟩ = some (.int .i64 p.n)) (simp [go_sem, *])
              (first
              | (go_at_call 33; (with_reducible refine (MX.out _).mono ?_); rintro e w' ⟨rfl, rfl⟩)
              | (go_at_call 33; (with_reducible refine (MY.out _).mono ?_); rintro e w' ⟨rfl, rfl⟩)
              | (go_at_call 13; (with_reducible refine (AC.out _).mono ?_); rintro e w6 ⟨rfl, hb6⟩; obtain ⟨hc6, hf6⟩ := bcell hb6; have hz60 : P < w6.heap.size := bsz hb6 (by first | omega | (simp; done) | (simp; omega)); have hl60 : P < w6.heap.size + 1 := Nat.lt_succ_of_lt hz60; have hm60 : P < w6.heap.size + 1 + 1 := Nat.lt_succ_of_lt hl60; have g60 : w6.cell? ⟨P, 4, none⟩ = some (.int .i64 p.x) := (hc6 _ _ (by first | omega | (simp; done) | (simp; omega))).trans (by first | (simp [go_sem, *]; done) | fail); have g61 : w6.cell? ⟨P, 5, none⟩ = some (.int .i64 p.y) := (hc6 _ _ (by first | omega | (simp; done) | (simp; omega))).trans (by first | (simp [go_sem, *]; done) | fail); have g62 : w6.cell? ⟨P, 6, none⟩ = some (.int .i64 p.n) := (hc6 _ _ (by first | omega | (simp; done) | (simp; omega))).trans (by first | (simp [go_sem, *]; done) | fail); (first | (have hy60 : wc.heap.size < w6.heap.size := bsz hb6 (by first | omega | (simp; done) | (simp; omega))) | skip); (first | (have hy61 : wc.heap.size + 1 < w6.heap.size := bsz hb6 (by first | omega | (simp; done) | (simp; omega))) | skip); (first | (have hy62 : wc.heap.size + 1 + 1 < w6.heap.size := bsz hb6 (by first | omega | (simp; done) | (simp; omega))) | skip); (first | (have hn60 : wc.heap.size < w6.heap.size + 1 := Nat.lt_succ_of_lt hy60) | skip); (first | (have hn61 : wc.heap.size + 1 < w6.heap.size + 1 := Nat.lt_succ_of_lt hy61) | skip); (first | (have hn62 : wc.heap.size + 1 + 1 < w6.heap.size + 1 := Nat.lt_succ_of_lt hy62) | skip); (first | (have o60 : w6.cell? ⟨wc.heap.size, 0, none⟩ = some (.int .i64 0) := (hc6 _ _ (by first | omega | (simp; done) | (simp; omega))).trans (by first | (simp [go_sem, *]; done) | fail)) | skip); (first | (have q60 : w6.frozen? ⟨wc.heap.size, 0, none⟩ = false := (hf6 _ _ (by first | omega | (simp; done) | (simp; omega))).trans (by first | (simp [go_sem, *]; done) | fail)) | skip); (first | (have o61 : w6.cell? ⟨wc.heap.size, 1, none⟩ = some (.int .u64 0) := (hc6 _ _ (by first | omega | (simp; done) | (simp; omega))).trans (by first | (simp [go_sem, *]; done) | fail)) | skip); (first | (have q61 : w6.frozen? ⟨wc.heap.size, 1, none⟩ = false := (hf6 _ _ (by first | omega | (simp; done) | (simp; omega))).trans (by first | (simp [go_sem, *]; done) | fail)) | skip); (first | (have o62 : w6.cell? ⟨wc.heap.size + 1, 0, none⟩ = some (.int .i64 0) := (hc6 _ _ (by first | omega | (simp; done) | (simp; omega))).trans (by first | (simp [go_sem, *]; done) | fail)) | skip); (first | (have q62 : w6.frozen? ⟨wc.heap.size + 1, 0, none⟩ = false := (hf6 _ _ (by first | omega | (simp; done) | (simp; omega))).trans (by first | (simp [go_sem, *]; done) | fail)) | skip); (first | (have o63 : w6.cell? ⟨wc.heap.size + 1, 1, none⟩ = some (.int .u64 0) := (hc6 _ _ (by first | omega | (simp; done) | (simp; omega))).trans (by first | (simp [go_sem, *]; done) | fail)) | skip); (first | (have q63 : w6.frozen? ⟨wc.heap.size + 1, 1, none⟩ = false := (hf6 _ _ (by first | omega | (simp; done) | (simp; omega))).trans (by first | (simp [go_sem, *]; done) | fail)) | skip); (first | (have o64 : w6.cell? ⟨wc.heap.size + 1 + 1, 0, none⟩ = some (.int .i64 0) := (hc6 _ _ (by first | omega | (simp; done) | (simp; omega))).trans (by first | (simp [go_sem, *]; done) | fail)) | skip); (first | (have q64 : w6.frozen? ⟨wc.heap.size + 1 + 1, 0, none⟩ = false := (hf6 _ _ (by first | omega | (simp; done) | (simp; omega))).trans (by first | (simp [go_sem, *]; done) | fail)) | skip); (first | (have o65 : w6.cell? ⟨wc.heap.size + 1 + 1, 1, none⟩ = some (.int .u64 0) := (hc6 _ _ (by first | omega | (simp; done) | (simp; omega))).trans (by first | (simp [go_sem, *]; done) | fail)) | skip); (first | (have q65 : w6.frozen? ⟨wc.heap.size + 1 + 1, 1, none⟩ = false := (hf6 _ _ (by first | omega | (simp; done) | (simp; omega))).trans (by first | (simp [go_sem, *]; done) | fail)) | skip); clear hc6 hf6))
            all_goals
              go_wp2_with fail
              go_meet
              refine ⟨_, rfl, rfl, by simp [go_sem, *], by simp [go_sem, *], by simp [go_sem, *], by simp [go_sem, *], by simp [go_sem, *], ?_⟩
              repeat (first | exact Below.refl _ _ | assumption | apply Below.drew | refine Below.setCell ?_ (by first | omega | (simp; done) | (simp; omega)) _ | refine Below.alloc ?_ (by first | omega | (simp; done) | (simp; omega)) _ | refine Below.trans ?_ (hb6.mono (by first | omega | (simp; done) | (simp; omega))))
          case rest =>
            clear t5 t6 t7 hBz hPz hWz hP1 hP2
            obtain ⟨q, rfl, rfl, t5, t6, t7, u1, u2, hBz⟩ := hcut
            go_upto_region 16 with fail
            go_cut [114] (fun s114 wx => s114 = .bool false ∧ Below w.heap.size w wx)
            case first =>
              have hWz := hBz.size
              have exy : IntKind.i64.wrap (x + y) = x + y := IntWalk.i64_in _ ⟨by omega, by omega⟩
              clear x0 x1 y0 y1
              go_region_held3 (fun w' => w'.cell? ⟨P, 4, none⟩ = some (.int .i64 p.x) ∧ w'.cell? ⟨P, 5, none⟩ = some (.int .i64 p.y) ∧ w'.cell? ⟨P, 6, none⟩ = some (.int .i64 p.n) ∧ w'.cell? ⟨q, 0, none⟩ = some (.int .i64 (hi T)) ∧ w'.cell? ⟨q, 1, none⟩ = some (.int .u64 (lo T))) (first | (simp [go_sem, *]; done) | (simp [go_sem, World.cell?_alloc_some, *]; done))
                (first
                | (go_at_call 11; (with_reducible refine (num_any _ _).mono ?_); rintro e w' ⟨rfl, rfl⟩)
                | (go_at_call 33; (with_reducible refine (MZ.out _).mono ?_); rintro e w' ⟨rfl, rfl⟩))
              all_goals
                go_wp2_with fail
                go_meet
                refine ⟨by first | rfl | simp, ?_⟩
                repeat (first | exact Below.refl _ _ | assumption | apply Below.drew | refine Below.setCell ?_ (by first | omega | (simp; done) | (simp; omega)) _ | refine Below.alloc ?_ (by first | omega | (simp; done) | (simp; omega)) _)
            case rest =>
              obtain ⟨rfl, hBy⟩ := hcut
              go_wp2_with fail
              exact ⟨⟨k + 1, by omega, by go_num, hBy⟩, by simp [intOf]; omega⟩
      · rw [told_out gr, over_out gr] at A1 A2
        have A1 := Lib.hid A1
        have A2 := Lib.hid A2
        clear gr
        generalize p.a + p.b = v at *
        go_upto_region 13 with (first | (go_at_call 11; (with_reducible refine (num_any _ _).mono ?_); rintro e w' ⟨rfl, rfl⟩) | (go_at_call 13; (with_reducible refine (A1.out _).mono ?_); rintro e w1 ⟨rfl, hb1⟩; have e10 : w1.cell? ⟨wr.heap.size, 0, none⟩ = some (.int .i64 (hi p.a)) := cell_on hb1 (by first | (simp [go_sem, *]; done) | (simp [go_sem, World.cell?_alloc_some, *]; done) | fail); have e11 : w1.cell? ⟨wr.heap.size, 1, none⟩ = some (.int .u64 (lo p.a)) := cell_on hb1 (by first | (simp [go_sem, *]; done) | (simp [go_sem, World.cell?_alloc_some, *]; done) | fail); have e12 : w1.cell? ⟨wr.heap.size, 2, none⟩ = some (.int .i64 (hi p.b)) := cell_on hb1 (by first | (simp [go_sem, *]; done) | (simp [go_sem, World.cell?_alloc_some, *]; done) | fail); have e13 : w1.cell? ⟨wr.heap.size, 3, none⟩ = some (.int .u64 (lo p.b)) := cell_on hb1 (by first | (simp [go_sem, *]; done) | (simp [go_sem, World.cell?_alloc_some, *]; done) | fail); have e14 : w1.cell? ⟨wr.heap.size, 4, none⟩ = some (.int .i64 p.x) := cell_on hb1 (by first | (simp [go_sem, *]; done) | (simp [go_sem, World.cell?_alloc_some, *]; done) | fail); have e15 : w1.cell? ⟨wr.heap.size, 5, none⟩ = some (.int .i64 p.y) := cell_on hb1 (by first | (simp [go_sem, *]; done) | (simp [go_sem, World.cell?_alloc_some, *]; done) | fail); have e16 : w1.cell? ⟨wr.heap.size, 6, none⟩ = some (.int .i64 p.n) := cell_on hb1 (by first | (simp [go_sem, *]; done) | (simp [go_sem, World.cell?_alloc_some, *]; done) | fail); have s10 : wr.heap.size < w1.heap.size := World.block_lt_of_cell? _ _ e10; have t10 : wr.heap.size < w1.heap.size + 1 := Nat.lt_succ_of_lt s10) | (go_at_call 13; (with_reducible refine (A2.out _).mono ?_); rintro e w2 ⟨rfl, hb2⟩; have e20 : w2.cell? ⟨wr.heap.size, 0, none⟩ = some (.int .i64 (hi p.a)) := cell_on hb2 (by first | (simp [go_sem, *]; done) | (simp [go_sem, World.cell?_alloc_some, *]; done) | fail); have e21 : w2.cell? ⟨wr.heap.size, 1, none⟩ = some (.int .u64 (lo p.a)) := cell_on hb2 (by first | (simp [go_sem, *]; done) | (simp [go_sem, World.cell?_alloc_some, *]; done) | fail); have e22 : w2.cell? ⟨wr.heap.size, 2, none⟩ = some (.int .i64 (hi p.b)) := cell_on hb2 (by first | (simp [go_sem, *]; done) | (simp [go_sem, World.cell?_alloc_some, *]; done) | fail); have e23 : w2.cell? ⟨wr.heap.size, 3, none⟩ = some (.int .u64 (lo p.b)) := cell_on hb2 (by first | (simp [go_sem, *]; done) | (simp [go_sem, World.cell?_alloc_some, *]; done) | fail); have e24 : w2.cell? ⟨wr.heap.size, 4, none⟩ = some (.int .i64 p.x) := cell_on hb2 (by first | (simp [go_sem, *]; done) | (simp [go_sem, World.cell?_alloc_some, *]; done) | fail); have e25 : w2.cell? ⟨wr.heap.size, 5, none⟩ = some (.int .i64 p.y) := cell_on hb2 (by first | (simp [go_sem, *]; done) | (simp [go_sem, World.cell?_alloc_some, *]; done) | fail); have e26 : w2.cell? ⟨wr.heap.size, 6, none⟩ = some (.int .i64 p.n) := cell_on hb2 (by first | (simp [go_sem, *]; done) | (simp [go_sem, World.cell?_alloc_some, *]; done) | fail); have e27 : w2.cell? ⟨w1.heap.size, 0, none⟩ = some (.int .i64 (hi 0)) := cell_on hb2 (by first | (simp [go_sem, *]; done) | (simp [go_sem, World.cell?_alloc_some, *]; done) | fail); have e28 : w2.cell? ⟨w1.heap.size, 1, none⟩ = some (.int .u64 (lo 0)) := cell_on hb2 (by first | (simp [go_sem, *]; done) | (simp [go_sem, World.cell?_alloc_some, *]; done) | fail); have s20 : wr.heap.size < w2.heap.size := World.block_lt_of_cell? _ _ e20; have t20 : wr.heap.size < w2.heap.size + 1 := Nat.lt_succ_of_lt s20; have s27 : w1.heap.size < w2.heap.size := World.block_lt_of_cell? _ _ e27; have t27 : w1.heap.size < w2.heap.size + 1 := Nat.lt_succ_of_lt s27))
        go_cut [11] (fun s11 wx => s11 = .int .i64 x ∧ wx.cell? ⟨wr.heap.size, 4, none⟩ = some (.int .i64 p.x) ∧ wx.cell? ⟨wr.heap.size, 5, none⟩ = some (.int .i64 p.y) ∧ wx.cell? ⟨wr.heap.size, 6, none⟩ = some (.int .i64 p.n) ∧ Below w.heap.size w wx)
        case first =>
          go_wp2_with fail
          go_meet
          refine ⟨rfl, by simp [go_sem, *], by simp [go_sem, *], by simp [go_sem, *], ?_⟩
          repeat (first | exact Below.refl _ _ | assumption | apply Below.drew | refine Below.setCell ?_ (by first | omega | (simp; done) | (simp; omega)) _ | refine Below.alloc ?_ (by first | omega | (simp; done) | (simp; omega)) _ | refine Below.trans ?_ (hb2.mono (by first | omega | (simp; done) | (simp; omega))) | refine Below.trans ?_ (hb1.mono (by first | omega | (simp; done) | (simp; omega))))
        case rest =>
          obtain ⟨rfl, c5, c6, c7, hBz⟩ := hcut
          clear t1 t2 t3 t4 t5 t6 t7
          have hPz : wr.heap.size < _ := World.block_lt_of_cell? _ _ c5
          have hWz := hBz.size
          clear hB hBs
          generalize wr.heap.size = P at *
          have t5 := c5
          have t6 := c6
          have t7 := c7
          clear c5 c6 c7
          have hP1 : P < wc.heap.size + 1 := Nat.lt_succ_of_lt hPz
          have hP2 : P < wc.heap.size + 1 + 1 := Nat.lt_succ_of_lt hP1
          go_upto_region 15 with fail
          go_cut [13, 14] (fun s13 s14 wx => ∃ q : Nat, s13 = .pointer (some ⟨q, 0, none⟩) ∧ s14 = .int .i64 0 ∧ wx.cell? ⟨P, 4, none⟩ = some (.int .i64 p.x) ∧ wx.cell? ⟨P, 5, none⟩ = some (.int .i64 p.y) ∧ wx.cell? ⟨P, 6, none⟩ = some (.int .i64 p.n) ∧ wx.cell? ⟨q, 0, none⟩ = some (.int .i64 (hi T)) ∧ wx.cell? ⟨q, 1, none⟩ = some (.int .u64 (lo T)) ∧ Below w.heap.size w wx)
          case first =>
            go_region_held3 (fun w' => w'.cell? ⟨P, 4, none⟩ = some (.int .i64 p.x) ∧ w'.cell? ⟨P, 5, none⟩ = some (.int .i64 p.y) ∧ w'.cell? ⟨P, 6, none⟩ = some (.int .i64 p.n)) (simp [go_sem, *])
              (first
              | (go_at_call 33; (with_reducible refine (MX.out _).mono ?_); rintro e w' ⟨rfl, rfl⟩)
              | (go_at_call 33; (with_reducible refine (MY.out _).mono ?_); rintro e w' ⟨rfl, rfl⟩)
              | (go_at_call 13; (with_reducible refine (AC.out _).mono ?_); rintro e w6 ⟨rfl, hb6⟩; obtain ⟨hc6, hf6⟩ := bcell hb6; have hz60 : P < w6.heap.size := bsz hb6 (by first | omega | (simp; done) | (simp; omega)); have hl60 : P < w6.heap.size + 1 := Nat.lt_succ_of_lt hz60; have hm60 : P < w6.heap.size + 1 + 1 := Nat.lt_succ_of_lt hl60; have g60 : w6.cell? ⟨P, 4, none⟩ = some (.int .i64 p.x) := (hc6 _ _ (by first | omega | (simp; done) | (simp; omega))).trans (by first | (simp [go_sem, *]; done) | fail); have g61 : w6.cell? ⟨P, 5, none⟩ = some (.int .i64 p.y) := (hc6 _ _ (by first | omega | (simp; done) | (simp; omega))).trans (by first | (simp [go_sem, *]; done) | fail); have g62 : w6.cell? ⟨P, 6, none⟩ = some (.int .i64 p.n) := (hc6 _ _ (by first | omega | (simp; done) | (simp; omega))).trans (by first | (simp [go_sem, *]; done) | fail); (first | (have hy60 : wc.heap.size < w6.heap.size := bsz hb6 (by first | omega | (simp; done) | (simp; omega))) | skip); (first | (have hy61 : wc.heap.size + 1 < w6.heap.size := bsz hb6 (by first | omega | (simp; done) | (simp; omega))) | skip); (first | (have hy62 : wc.heap.size + 1 + 1 < w6.heap.size := bsz hb6 (by first | omega | (simp; done) | (simp; omega))) | skip); (first | (have hn60 : wc.heap.size < w6.heap.size + 1 := Nat.lt_succ_of_lt hy60) | skip); (first | (have hn61 : wc.heap.size + 1 < w6.heap.size + 1 := Nat.lt_succ_of_lt hy61) | skip); (first | (have hn62 : wc.heap.size + 1 + 1 < w6.heap.size + 1 := Nat.lt_succ_of_lt hy62) | skip); (first | (have o60 : w6.cell? ⟨wc.heap.size, 0, none⟩ = some (.int .i64 0) := (hc6 _ _ (by first | omega | (simp; done) | (simp; omega))).trans (by first | (simp [go_sem, *]; done) | fail)) | skip); (first | (have q60 : w6.frozen? ⟨wc.heap.size, 0, none⟩ = false := (hf6 _ _ (by first | omega | (simp; done) | (simp; omega))).trans (by first | (simp [go_sem, *]; done) | fail)) | skip); (first | (have o61 : w6.cell? ⟨wc.heap.size, 1, none⟩ = some (.int .u64 0) := (hc6 _ _ (by first | omega | (simp; done) | (simp; omega))).trans (by first | (simp [go_sem, *]; done) | fail)) | skip); (first | (have q61 : w6.frozen? ⟨wc.heap.size, 1, none⟩ = false := (hf6 _ _ (by first | omega | (simp; done) | (simp; omega))).trans (by first | (simp [go_sem, *]; done) | fail)) | skip); (first | (have o62 : w6.cell? ⟨wc.heap.size + 1, 0, none⟩ = some (.int .i64 0) := (hc6 _ _ (by first | omega | (simp; done) | (simp; omega))).trans (by first | (simp [go_sem, *]; done) | fail)) | skip); (first | (have q62 : w6.frozen? ⟨wc.heap.size + 1, 0, none⟩ = false := (hf6 _ _ (by first | omega | (simp; done) | (simp; omega))).trans (by first | (simp [go_sem, *]; done) | fail)) | skip); (first | (have o63 : w6.cell? ⟨wc.heap.size + 1, 1, none⟩ = some (.int .u64 0) := (hc6 _ _ (by first | omega | (simp; done) | (simp; omega))).trans (by first | (simp [go_sem, *]; done) | fail)) | skip); (first | (have q63 : w6.frozen? ⟨wc.heap.size + 1, 1, none⟩ = false := (hf6 _ _ (by first | omega | (simp; done) | (simp; omega))).trans (by first | (simp [go_sem, *]; done) | fail)) | skip); (first | (have o64 : w6.cell? ⟨wc.heap.size + 1 + 1, 0, none⟩ = some (.int .i64 0) := (hc6 _ _ (by first | omega | (simp; done) | (simp; omega))).trans (by first | (simp [go_sem, *]; done) | fail)) | skip); (first | (have q64 : w6.frozen? ⟨wc.heap.size + 1 + 1, 0, none⟩ = false := (hf6 _ _ (by first | omega | (simp; done) | (simp; omega))).trans (by first | (simp [go_sem, *]; done) | fail)) | skip); (first | (have o65 : w6.cell? ⟨wc.heap.size + 1 + 1, 1, none⟩ = some (.int .u64 0) := (hc6 _ _ (by first | omega | (simp; done) | (simp; omega))).trans (by first | (simp [go_sem, *]; done) | fail)) | skip); (first | (have q65 : w6.frozen? ⟨wc.heap.size + 1 + 1, 1, none⟩ = false := (hf6 _ _ (by first | omega | (simp; done) | (simp; omega))).trans (by first | (simp [go_sem, *]; done) | fail)) | skip); clear hc6 hf6))
            all_goals
              go_wp2_with fail
              go_meet
              refine ⟨_, rfl, rfl, by simp [go_sem, *], by simp [go_sem, *], by simp [go_sem, *], by simp [go_sem, *], by simp [go_sem, *], ?_⟩
              repeat (first | exact Below.refl _ _ | assumption | apply Below.drew | refine Below.setCell ?_ (by first | omega | (simp; done) | (simp; omega)) _ | refine Below.alloc ?_ (by first | omega | (simp; done) | (simp; omega)) _ | refine Below.trans ?_ (hb6.mono (by first | omega | (simp; done) | (simp; omega))))
          case rest =>
            clear t5 t6 t7 hBz hPz hWz hP1 hP2
            obtain ⟨q, rfl, rfl, t5, t6, t7, u1, u2, hBz⟩ := hcut
            go_upto_region 16 with fail
            go_cut [114] (fun s114 wx => s114 = .bool false ∧ Below w.heap.size w wx)
            case first =>
              have hWz := hBz.size
              have exy : IntKind.i64.wrap (x + y) = x + y := IntWalk.i64_in _ ⟨by omega, by omega⟩
              clear x0 x1 y0 y1
              go_region_held3 (fun w' => w'.cell? ⟨P, 4, none⟩ = some (.int .i64 p.x) ∧ w'.cell? ⟨P, 5, none⟩ = some (.int .i64 p.y) ∧ w'.cell? ⟨P, 6, none⟩ = some (.int .i64 p.n) ∧ w'.cell? ⟨q, 0, none⟩ = some (.int .i64 (hi T)) ∧ w'.cell? ⟨q, 1, none⟩ = some (.int .u64 (lo T))) (first | (simp [go_sem, *]; done) | (simp [go_sem, World.cell?_alloc_some, *]; done))
                (first
                | (go_at_call 11; (with_reducible refine (num_any _ _).mono ?_); rintro e w' ⟨rfl, rfl⟩)
                | (go_at_call 33; (with_reducible refine (MZ.out _).mono ?_); rintro e w' ⟨rfl, rfl⟩))
              all_goals
                go_wp2_with fail
                go_meet
                refine ⟨by first | rfl | simp, ?_⟩
                repeat (first | exact Below.refl _ _ | assumption | apply Below.drew | refine Below.setCell ?_ (by first | omega | (simp; done) | (simp; omega)) _ | refine Below.alloc ?_ (by first | omega | (simp; done) | (simp; omega)) _)
            case rest =>
              obtain ⟨rfl, hBy⟩ := hcut
              go_wp2_with fail
              exact ⟨⟨k + 1, by omega, by go_num, hBy⟩, by simp [intOf]; omega⟩
    · by_cases g1 : k < len
      · have g2 : 30 ≤ k := by omega
        clear g
        go_wp2_with (go_at_call 18; (with_reducible refine (wakes_any _).mono ?_); rintro e w9 ⟨rfl, hb9⟩)
        go_ret
        exact ⟨rfl, hB.trans (hb9.mono hBs)⟩
      · have g2 : len ≤ k := by omega
        clear g g1
        go_wp2_with (go_at_call 18; (with_reducible refine (wakes_any _).mono ?_); rintro e w9 ⟨rfl, hb9⟩)
        go_ret
        exact ⟨rfl, hB.trans (hb9.mono hBs)⟩
end Go.Proofs.Ytdbegagkanaohaa
