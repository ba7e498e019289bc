/-
  WideShifts' loop.
-/
import Derived.Test.YtdbegagkanaohaaLawA
import Derived.Test.YtdbegagkanaohaaNumH
namespace Go.Proofs.Ytdbegagkanaohaa
open Go.RowKit

set_option maxRecDepth 100000 in
set_option maxHeartbeats 8000000 in
theorem shifts_any (b off len cap : Nat) (es : Nat → El) (w : World) (_hl : len ≤ 9223372036854775807) (hb : b < w.heap.size) (hT : ∀ i, i < len → TwoAt w b (off + i * 7) (es i)) (hok : ∀ i, i < len → (es i).ok) :
    Calls Try.prog 7 #[.slice (some ⟨b, off, none⟩) len cap] w fun e w' => e = .returned (.bool true) ∧ Below w.heap.size w w' := by
  have HT := Lib.hid (And.intro hT hok)
  clear hT hok
  go_enter Try.func7, Try.ntmps7
  go_wp2
  go_loopw [3] (fun s3 wr => ∃ k : Nat, k ≤ len ∧ s3 = .int .i64 k ∧ Below w.heap.size w wr) (fun s3 _ => len - (intOf s3).toNat)
  case atStart => exact ⟨0, Nat.zero_le _, rfl, Below.refl _ _⟩
  case round =>
    obtain ⟨k, hk, rfl, hB⟩ := hrel
    have hBs := hB.size
    by_cases g : k < len ∧ k < 30
    · obtain ⟨g1, g2⟩ := g
      obtain ⟨t1, t2, t3, t4, t5, t6, t7⟩ := (HT.out.1 k g1).below hB hb
      have HO := Lib.hid (HT.out.2 k g1)
      generalize es k = p at *
      obtain ⟨nn, hn⟩ := Int.eq_ofNat_of_zero_le (show 0 ≤ p.n % 18446744073709551616 % 60 by omega)
      have hn1 : nn ≤ 59 := by omega
      obtain ⟨mm, hm⟩ := Int.eq_ofNat_of_zero_le (show 0 ≤ wrap64 (p.n.tdiv 60) % 18446744073709551616 % 60 by omega)
      have hm1 : mm ≤ 59 := by omega
      obtain ⟨x, hx⟩ : ∃ x, x = p.x / 256 := ⟨_, rfl⟩
      have x0 : -36028797018963968 ≤ x := by have := HO.out.2.2.1; omega
      have x1 : x ≤ 36028797018963967 := by have := HO.out.2.2.1; omega
      obtain ⟨r1, r2, r3⟩ := small_shift nn x0 x1 hn1
      obtain ⟨q1, q2⟩ := shift_back x nn
      have hp : (2 : Int) ^ nn ≠ 0 := by have : (0 : Int) < 2 ^ nn := Int.pow_pos (by decide); omega
      have FX := Lib.hid (fun W : World => from_at x W (by omega) (by omega))
      have F1 := Lib.hid (fun W : World => from_at 1 W (by decide) (by decide))
      have L1 := fun W : World => shl_any x nn W r1 (by omega)
      have L2 := fun W : World => shl_any (x * 2 ^ nn) mm W r2 (by omega)
      have L3 : ∀ W : World, Calls Try.prog 35 #[Wv x, .int .i64 ((nn : Int) + mm)] W fun e w' => e = .returned (.tuple #[Wv (told (x * 2 ^ nn * 2 ^ mm)), .int .i64 (over (x * 2 ^ nn * 2 ^ mm))]) ∧ Below W.heap.size W w' := fun W => by
        have := shl_any x (nn + mm) W r1 (by omega)
        rw [Int.pow_add, ← Int.mul_assoc, Int.natCast_add] at this
        exact this
      have L4 := fun W : World => shl_any 1 nn W (by decide) (by omega)
      have RC := fun W : World => round_any (x * 2 ^ nn) (2 ^ nn) W r2 r3 hp
      have DC := fun W : World => down_any (x * 2 ^ nn) (2 ^ nn) W r2 r3 hp
      rw [told_in r2, over_in r2] at L1
      rw [Int.one_mul, told_in r3, over_in r3] at L4
      rw [q1, told_in r1, over_in r1] at RC
      rw [q2, told_in r1, over_in r1] at DC
      generalize told (x * 2 ^ nn * 2 ^ mm) = v at *
      generalize over (x * 2 ^ nn * 2 ^ mm) = ov at *
      generalize x * 2 ^ nn = a at *
      generalize (2 : Int) ^ nn = by' at *
      have L1 := Lib.hid L1
      have L2 := Lib.hid L2
      have L3 := Lib.hid L3
      have L4 := Lib.hid L4
      have RC := Lib.hid RC
      have DC := Lib.hid DC
      have HX := Lib.hid hx
      have ex := hx.symm
      clear hx x0 x1 r1 r2 r3 q1 q2 hp
      go_wp2_with (first | (go_at_call 34; (with_reducible refine (within_any _ 60 _ (by decide) (by decide)).mono ?_); rintro e w' ⟨rfl, rfl⟩) | (go_at_call 16; (with_reducible refine (FX.out _).mono ?_); rintro e w' ⟨rfl, rfl⟩) | (go_at_call 11; (with_reducible refine (num_any _ _).mono ?_); rintro e w' ⟨rfl, rfl⟩) | (go_at_call 35; (with_reducible refine (L1.out _).mono ?_); rintro e w1 ⟨rfl, hb1⟩; have e10 : w1.cell? ⟨wr.heap.size + 1 + 1, 0, none⟩ = some (.int .i64 (hi x)) := cell_on hb1 (by first | (simp [go_sem, *]; done) | (simp [go_sem, World.cell?_alloc_some, *]; done) | fail); have e11 : w1.cell? ⟨wr.heap.size + 1 + 1, 1, none⟩ = some (.int .u64 (lo x)) := cell_on hb1 (by first | (simp [go_sem, *]; done) | (simp [go_sem, World.cell?_alloc_some, *]; done) | fail); have s10 : wr.heap.size + 1 + 1 < w1.heap.size := World.block_lt_of_cell? _ _ e10; have t10 : wr.heap.size + 1 + 1 < w1.heap.size + 1 := Nat.lt_succ_of_lt s10) | (go_at_call 35; (with_reducible refine (L2.out _).mono ?_); rintro e w2 ⟨rfl, hb2⟩; have e20 : w2.cell? ⟨wr.heap.size + 1 + 1, 0, none⟩ = some (.int .i64 (hi x)) := cell_on hb2 (by first | (simp [go_sem, *]; done) | (simp [go_sem, World.cell?_alloc_some, *]; done) | fail); have e21 : w2.cell? ⟨wr.heap.size + 1 + 1, 1, none⟩ = some (.int .u64 (lo x)) := cell_on hb2 (by first | (simp [go_sem, *]; done) | (simp [go_sem, World.cell?_alloc_some, *]; done) | fail); have e22 : w2.cell? ⟨w1.heap.size, 0, none⟩ = some (.int .i64 (hi a)) := cell_on hb2 (by first | (simp [go_sem, *]; done) | (simp [go_sem, World.cell?_alloc_some, *]; done) | fail); have e23 : w2.cell? ⟨w1.heap.size, 1, none⟩ = some (.int .u64 (lo a)) := cell_on hb2 (by first | (simp [go_sem, *]; done) | (simp [go_sem, World.cell?_alloc_some, *]; done) | fail); have s20 : wr.heap.size + 1 + 1 < w2.heap.size := World.block_lt_of_cell? _ _ e20; have t20 : wr.heap.size + 1 + 1 < w2.heap.size + 1 := Nat.lt_succ_of_lt s20; have s22 : w1.heap.size < w2.heap.size := World.block_lt_of_cell? _ _ e22; have t22 : w1.heap.size < w2.heap.size + 1 := Nat.lt_succ_of_lt s22) | (go_at_call 35; (with_reducible refine (L3.out _).mono ?_); rintro e w3 ⟨rfl, hb3⟩; have e30 : w3.cell? ⟨wr.heap.size + 1 + 1, 0, none⟩ = some (.int .i64 (hi x)) := cell_on hb3 (by first | (simp [go_sem, *]; done) | (simp [go_sem, World.cell?_alloc_some, *]; done) | fail); have e31 : w3.cell? ⟨wr.heap.size + 1 + 1, 1, none⟩ = some (.int .u64 (lo x)) := cell_on hb3 (by first | (simp [go_sem, *]; done) | (simp [go_sem, World.cell?_alloc_some, *]; done) | fail); have e32 : w3.cell? ⟨w1.heap.size, 0, none⟩ = some (.int .i64 (hi a)) := cell_on hb3 (by first | (simp [go_sem, *]; done) | (simp [go_sem, World.cell?_alloc_some, *]; done) | fail); have e33 : w3.cell? ⟨w1.heap.size, 1, none⟩ = some (.int .u64 (lo a)) := cell_on hb3 (by first | (simp [go_sem, *]; done) | (simp [go_sem, World.cell?_alloc_some, *]; done) | fail); have e34 : w3.cell? ⟨w2.heap.size, 0, none⟩ = some (.int .i64 (hi v)) := cell_on hb3 (by first | (simp [go_sem, *]; done) | (simp [go_sem, World.cell?_alloc_some, *]; done) | fail); have e35 : w3.cell? ⟨w2.heap.size, 1, none⟩ = some (.int .u64 (lo v)) := cell_on hb3 (by first | (simp [go_sem, *]; done) | (simp [go_sem, World.cell?_alloc_some, *]; done) | fail); have s30 : wr.heap.size + 1 + 1 < w3.heap.size := World.block_lt_of_cell? _ _ e30; have t30 : wr.heap.size + 1 + 1 < w3.heap.size + 1 := Nat.lt_succ_of_lt s30; have s32 : w1.heap.size < w3.heap.size := World.block_lt_of_cell? _ _ e32; have t32 : w1.heap.size < w3.heap.size + 1 := Nat.lt_succ_of_lt s32; have s34 : w2.heap.size < w3.heap.size := World.block_lt_of_cell? _ _ e34; have t34 : w2.heap.size < w3.heap.size + 1 := Nat.lt_succ_of_lt s34) | (go_at_call 16; (with_reducible refine (F1.out _).mono ?_); rintro e w' ⟨rfl, rfl⟩) | (go_at_call 35; (with_reducible refine (L4.out _).mono ?_); rintro e w4 ⟨rfl, hb4⟩; have e40 : w4.cell? ⟨wr.heap.size + 1 + 1, 0, none⟩ = some (.int .i64 (hi x)) := cell_on hb4 (by first | (simp [go_sem, *]; done) | (simp [go_sem, World.cell?_alloc_some, *]; done) | fail); have e41 : w4.cell? ⟨wr.heap.size + 1 + 1, 1, none⟩ = some (.int .u64 (lo x)) := cell_on hb4 (by first | (simp [go_sem, *]; done) | (simp [go_sem, World.cell?_alloc_some, *]; done) | fail); have e42 : w4.cell? ⟨w1.heap.size, 0, none⟩ = some (.int .i64 (hi a)) := cell_on hb4 (by first | (simp [go_sem, *]; done) | (simp [go_sem, World.cell?_alloc_some, *]; done) | fail); have e43 : w4.cell? ⟨w1.heap.size, 1, none⟩ = some (.int .u64 (lo a)) := cell_on hb4 (by first | (simp [go_sem, *]; done) | (simp [go_sem, World.cell?_alloc_some, *]; done) | fail); have s40 : wr.heap.size + 1 + 1 < w4.heap.size := World.block_lt_of_cell? _ _ e40; have t40 : wr.heap.size + 1 + 1 < w4.heap.size + 1 := Nat.lt_succ_of_lt s40; have s42 : w1.heap.size < w4.heap.size := World.block_lt_of_cell? _ _ e42; have t42 : w1.heap.size < w4.heap.size + 1 := Nat.lt_succ_of_lt s42) | (go_at_call 23; (with_reducible refine (RC.out _).mono ?_); rintro e w5 ⟨rfl, hb5⟩; have e50 : w5.cell? ⟨wr.heap.size + 1 + 1, 0, none⟩ = some (.int .i64 (hi x)) := cell_on hb5 (by first | (simp [go_sem, *]; done) | (simp [go_sem, World.cell?_alloc_some, *]; done) | fail); have e51 : w5.cell? ⟨wr.heap.size + 1 + 1, 1, none⟩ = some (.int .u64 (lo x)) := cell_on hb5 (by first | (simp [go_sem, *]; done) | (simp [go_sem, World.cell?_alloc_some, *]; done) | fail); have e52 : w5.cell? ⟨w1.heap.size, 0, none⟩ = some (.int .i64 (hi a)) := cell_on hb5 (by first | (simp [go_sem, *]; done) | (simp [go_sem, World.cell?_alloc_some, *]; done) | fail); have e53 : w5.cell? ⟨w1.heap.size, 1, none⟩ = some (.int .u64 (lo a)) := cell_on hb5 (by first | (simp [go_sem, *]; done) | (simp [go_sem, World.cell?_alloc_some, *]; done) | fail); have e54 : w5.cell? ⟨w4.heap.size, 0, none⟩ = some (.int .i64 (hi by')) := cell_on hb5 (by first | (simp [go_sem, *]; done) | (simp [go_sem, World.cell?_alloc_some, *]; done) | fail); have e55 : w5.cell? ⟨w4.heap.size, 1, none⟩ = some (.int .u64 (lo by')) := cell_on hb5 (by first | (simp [go_sem, *]; done) | (simp [go_sem, World.cell?_alloc_some, *]; done) | fail); have s50 : wr.heap.size + 1 + 1 < w5.heap.size := World.block_lt_of_cell? _ _ e50; have t50 : wr.heap.size + 1 + 1 < w5.heap.size + 1 := Nat.lt_succ_of_lt s50; have s52 : w1.heap.size < w5.heap.size := World.block_lt_of_cell? _ _ e52; have t52 : w1.heap.size < w5.heap.size + 1 := Nat.lt_succ_of_lt s52; have s54 : w4.heap.size < w5.heap.size := World.block_lt_of_cell? _ _ e54; have t54 : w4.heap.size < w5.heap.size + 1 := Nat.lt_succ_of_lt s54) | (go_at_call 24; (with_reducible refine (DC.out _).mono ?_); rintro e w6 ⟨rfl, hb6⟩; have e60 : w6.cell? ⟨wr.heap.size + 1 + 1, 0, none⟩ = some (.int .i64 (hi x)) := cell_on hb6 (by first | (simp [go_sem, *]; done) | (simp [go_sem, World.cell?_alloc_some, *]; done) | fail); have e61 : w6.cell? ⟨wr.heap.size + 1 + 1, 1, none⟩ = some (.int .u64 (lo x)) := cell_on hb6 (by first | (simp [go_sem, *]; done) | (simp [go_sem, World.cell?_alloc_some, *]; done) | fail); have e62 : w6.cell? ⟨w5.heap.size, 0, none⟩ = some (.int .i64 (hi x)) := cell_on hb6 (by first | (simp [go_sem, *]; done) | (simp [go_sem, World.cell?_alloc_some, *]; done) | fail); have e63 : w6.cell? ⟨w5.heap.size, 1, none⟩ = some (.int .u64 (lo x)) := cell_on hb6 (by first | (simp [go_sem, *]; done) | (simp [go_sem, World.cell?_alloc_some, *]; done) | fail); have s60 : wr.heap.size + 1 + 1 < w6.heap.size := World.block_lt_of_cell? _ _ e60; have t60 : wr.heap.size + 1 + 1 < w6.heap.size + 1 := Nat.lt_succ_of_lt s60; have s62 : w5.heap.size < w6.heap.size := World.block_lt_of_cell? _ _ e62; have t62 : w5.heap.size < w6.heap.size + 1 := Nat.lt_succ_of_lt s62))
      refine ⟨⟨k + 1, by omega, by go_num, ?_⟩, by simp [intOf]; omega⟩
      repeat (first | exact Below.refl _ _ | assumption | apply Below.drew | refine Below.setCell ?_ (by first | omega | (simp; done) | (simp; omega)) _ | refine Below.alloc ?_ (by first | omega | (simp; done) | (simp; omega)) _ | refine Below.trans ?_ (hb6.mono (by first | omega | (simp; done) | (simp; omega))) | refine Below.trans ?_ (hb5.mono (by first | omega | (simp; done) | (simp; omega))) | refine Below.trans ?_ (hb4.mono (by first | omega | (simp; done) | (simp; omega))) | refine Below.trans ?_ (hb3.mono (by first | omega | (simp; done) | (simp; omega))) | refine Below.trans ?_ (hb2.mono (by first | omega | (simp; done) | (simp; omega))) | refine Below.trans ?_ (hb1.mono (by first | omega | (simp; done) | (simp; omega))))
    · by_cases g1 : k < len
      · have g2 : 30 ≤ k := by omega
        clear g
        go_wp2_with (go_at_call 18; (with_reducible refine (wakes_any _).mono ?_); rintro e w9 ⟨rfl, hb9⟩)
        go_ret
        exact ⟨rfl, hB.trans (hb9.mono hBs)⟩
      · have g2 : len ≤ k := by omega
        clear g g1
        go_wp2_with (go_at_call 18; (with_reducible refine (wakes_any _).mono ?_); rintro e w9 ⟨rfl, hb9⟩)
        go_ret
        exact ⟨rfl, hB.trans (hb9.mono hBs)⟩
end Go.Proofs.Ytdbegagkanaohaa
