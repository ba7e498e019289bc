/-
  FxCloses' loop.
-/
import Derived.Test.YtofihgchokghhaaFxC
import Derived.Test.YtofihgchokghhaaNumJ
namespace Go.Proofs.Ytofihgchokghhaa
open Go.RowKit
theorem ff_any (i : Int) (w : World) : Calls Try.prog 47 #[.int .i64 i] w fun e w' => e = .returned (.int .i64 (8 + i % 18446744073709551616 % 25)) ∧ w = w' := by
  have C := Lib.hid (fun W : World => within_any i 25 W (by decide) (by decide))
  have e1 : wrap64 (8 + i % 18446744073709551616 % 25) = 8 + i % 18446744073709551616 % 25 := IntWalk.wrap64_in _ ⟨by omega, by omega⟩
  have E := Lib.hid e1
  clear e1
  generalize i % 18446744073709551616 % 25 = r at *
  go_enter Try.func47, Try.ntmps47
  go_wp2_with (go_at_call 58; (with_reducible refine (C.out _).mono ?_); rintro e w' ⟨rfl, rfl⟩)
  go_ret
  exact ⟨by show Ending.returned (.int .i64 (wrap64 (8 + r))) = _; rw [E.out], rfl⟩
theorem z_100 {d : Int} {k : Nat} (z : d ≠ 0) : d * (1 + (k : Int)) ≠ 0 := by
  intro h
  rcases Int.mul_eq_zero.mp h with h | h <;> omega
theorem pos_100 (k : Nat) : (0 : Int) < 1 + k := by omega
theorem sw_100 (n t K : Int) : n * K * t = n * t * K := by rw [Int.mul_assoc, Int.mul_comm K, ← Int.mul_assoc]
theorem mul_100 {n : Int} (h0 : -36028797018963968 ≤ n) (h1 : n ≤ 36028797018963967) {k : Nat} (hk : k < 100) : -9223372036854775808 ≤ n * (1 + (k : Int)) ∧ n * (1 + (k : Int)) ≤ 9223372036854775807 := by
  have h : (n * (1 + (k : Int))).natAbs ≤ 36028797018963968 * 100 := by
    rw [Int.natAbs_mul]; exact Nat.mul_le_mul (by omega) (by omega)
  generalize n * (1 + (k : Int)) = x at *
  omega

set_option maxRecDepth 100000 in
set_option maxHeartbeats 8000000 in
theorem closes_any (b off len cap : Nat) (es : Nat → Fl) (w : World) (_hl : len ≤ 9223372036854775807) (hb : b < w.heap.size) (hT : ∀ i, i < len → FlAt w b (off + i * 8) (es i)) (hok : ∀ i, i < len → (es i).ok) :
    Calls Try.prog 7 #[.slice (some ⟨b, off, none⟩) len cap] w fun e w' => e = .returned (.bool true) ∧ Below w.heap.size w w' := by
  have HT := Lib.hid (And.intro hT hok)
  clear hT hok
  go_enter Try.func7, Try.ntmps7
  go_wp2
  go_loopw [3] (fun s3 wr => ∃ k : Nat, k ≤ len ∧ s3 = .int .i64 k ∧ Below w.heap.size w wr) (fun s3 _ => len - (intOf s3).toNat)
  case atStart => exact ⟨0, Nat.zero_le _, rfl, Below.refl _ _⟩
  case round =>
    obtain ⟨k, hk, rfl, hB⟩ := hrel
    have hBs := hB.size
    by_cases g : k < len ∧ k < 30
    · obtain ⟨g1, g2⟩ := g
      obtain ⟨t1, t2, t3, t4, t5, t6, t7, t8⟩ := (HT.out.1 k g1).below hB hb
      have HO := Lib.hid (HT.out.2 k g1)
      generalize es k = p at *
      have FF := fun W : World => ff_any p.f W
      obtain ⟨fN, hf⟩ := Int.eq_ofNat_of_zero_le (show 0 ≤ 8 + p.f % 18446744073709551616 % 25 by omega)
      have fb1 : fb fN = true := fb_mk (by omega)
      rw [hf] at FF
      have FF := Lib.hid FF
      have MA := fun W : World => may_any p.a W
      have MB := fun W : World => may_any p.b W
      cases ga : wd p.a with
      | false =>
        rw [ga] at MA
        have MA := Lib.hid MA
        clear ga MB hf
        go_wp2_with (first | (go_at_call 47; (with_reducible refine (FF.out _).mono ?_); rintro e w' ⟨rfl, rfl⟩) | (go_at_call 27; (with_reducible refine (MA.out _).mono ?_); rintro e w' ⟨rfl, rfl⟩))
        refine ⟨⟨k + 1, by omega, by go_num, ?_⟩, by simp [intOf]; omega⟩
        repeat (first | exact Below.refl _ _ | assumption | apply Below.drew | refine Below.setCell ?_ (by first | omega | (simp; done) | (simp; omega)) _ | refine Below.alloc ?_ (by first | omega | (simp; done) | (simp; omega)) _)
      | true =>
      cases gb : wd p.b with
      | false =>
        rw [ga] at MA
        rw [gb] at MB
        have MA := Lib.hid MA
        have MB := Lib.hid MB
        clear ga gb hf
        go_wp2_with (first | (go_at_call 47; (with_reducible refine (FF.out _).mono ?_); rintro e w' ⟨rfl, rfl⟩) | (go_at_call 27; (with_reducible refine (MA.out _).mono ?_); rintro e w' ⟨rfl, rfl⟩) | (go_at_call 27; (with_reducible refine (MB.out _).mono ?_); rintro e w' ⟨rfl, rfl⟩))
        refine ⟨⟨k + 1, by omega, by go_num, ?_⟩, by simp [intOf]; omega⟩
        repeat (first | exact Below.refl _ _ | assumption | apply Below.drew | refine Below.setCell ?_ (by first | omega | (simp; done) | (simp; omega)) _ | refine Below.alloc ?_ (by first | omega | (simp; done) | (simp; omega)) _)
      | true =>
        rw [ga] at MA
        rw [gb] at MB
        have MA := Lib.hid MA
        have MB := Lib.hid MB
        have A := wd_bd ga
        have B := wd_bd gb
        have f2 : fN ≤ 32 := by have := fb_bd fb1; omega
        have p0 : (0 : Int) < 2 ^ fN := Int.pow_pos (by decide)
        obtain ⟨r1, r2, r3⟩ := small_shift (x := p.a) fN (by omega) (by omega) (by omega)
        obtain ⟨q1, q2⟩ := shift_back p.a fN
        have M1 := fun W : World => fxmul_any p.a p.b fN W ga gb fb1
        have WM := Lib.hid (fun W : World => mul_any p.a p.b W (by omega) (by omega) (by omega) (by omega))
        have C1 := fun W : World => close_any (p.a * p.b) fN W (R_prod (by omega) (by omega) (by omega) (by omega)) (by omega)
        have FR := Lib.hid (fun W : World => from_at p.a W (by omega) (by omega))
        have L1 := fun W : World => shl_any p.a fN W r1 (by omega)
        have C2 := fun W : World => close_any (p.a * 2 ^ fN) fN W r2 (by omega)
        rw [told_in r2, over_in r2] at L1
        rw [q1, tw_in ga, te_in ga] at C2
        obtain ⟨kk, hk2⟩ := Int.eq_ofNat_of_zero_le (show 0 ≤ p.k % 18446744073709551616 % 100 by omega)
        have hk3 : kk < 100 := by omega
        have WI := fun W : World => within_any p.k 100 W (by decide) (by decide)
        rw [hk2] at WI
        have WI := Lib.hid WI
        obtain ⟨K, hK⟩ : ∃ K, K = 1 + (kk : Int) := ⟨_, rfl⟩
        have e1 : wrap64 (1 + (kk : Int)) = K := (IntWalk.wrap64_in _ ⟨by omega, by omega⟩).trans hK.symm
        obtain ⟨n, hn⟩ : ∃ n, n = p.n / 256 := ⟨_, rfl⟩
        obtain ⟨d, hd⟩ : ∃ d, d = p.d / 256 := ⟨_, rfl⟩
        have n0 : -36028797018963968 ≤ n ∧ n ≤ 36028797018963967 := by have := HO.out.2.2.2.1; omega
        have d0 : -36028797018963968 ≤ d ∧ d ≤ 36028797018963967 := by have := HO.out.2.2.2.2.1; omega
        obtain ⟨m1, m2⟩ := mul_100 n0.1 n0.2 hk3
        obtain ⟨m3, m4⟩ := mul_100 d0.1 d0.2 hk3
        rw [← hK] at m1 m2 m3 m4
        have e2 : wrap64 (n * K) = n * K := IntWalk.wrap64_in _ ⟨by omega, by omega⟩
        have e3 : wrap64 (d * K) = d * K := IntWalk.wrap64_in _ ⟨by omega, by omega⟩
        have e4 : wrap64 (-n) = -n := IntWalk.wrap64_in _ ⟨by omega, by omega⟩
        have ex := hn.symm
        have ey := hd.symm
        by_cases z : d = 0
        · subst z
          clear e3
          have R1 := Lib.hid (fun W : World => ratio_zero n 0 fN W (by omega) (by omega) fb1 rfl)
          have R2 := fun W : World => ratio_zero (n * K) 0 fN W (by omega) (by omega) fb1 rfl
          have R3 : Hid True := trivial
          have HX := Lib.hid (And.intro hK (And.intro hn hd))
          clear hK hn hd n0 d0 m1 m2 m3 m4 r1 r2 r3 q1 q2 p0 A B ga gb hk2 hk3 hf
          generalize tw (rd (p.a * p.b) (2 ^ fN)) = v at *
          generalize te (rd (p.a * p.b) (2 ^ fN)) = ev at *
          generalize p.a * p.b = pab at *
          generalize p.a * 2 ^ fN = sa at *
          have R2 := Lib.hid R2
          have M1 := Lib.hid M1
          have C1 := Lib.hid C1
          have L1 := Lib.hid L1
          have C2 := Lib.hid C2
          go_wp2_with (first | (go_at_call 27; (with_reducible refine (MA.out _).mono ?_); rintro e w' ⟨rfl, rfl⟩) | (go_at_call 27; (with_reducible refine (MB.out _).mono ?_); rintro e w' ⟨rfl, rfl⟩) | (go_at_call 29; (with_reducible refine (num2_any _ _).mono ?_); rintro e w' ⟨rfl, rfl⟩) | (go_at_call 47; (with_reducible refine (FF.out _).mono ?_); rintro e w' ⟨rfl, rfl⟩) | (go_at_call 58; (with_reducible refine (WI.out _).mono ?_); rintro e w' ⟨rfl, rfl⟩) | (go_at_call 17; (with_reducible refine (FR.out _).mono ?_); rintro e w' ⟨rfl, rfl⟩) | (go_at_call 56; (with_reducible refine (WM.out _).mono ?_); rintro e w' ⟨rfl, rfl⟩) | (go_at_call 42; (with_reducible refine (M1.out _).mono ?_); rintro e w1 ⟨rfl, hb1⟩; have e10 : w1.cell? ⟨wr.heap.size, 0, none⟩ = some (.int .i64 p.a) := cell_on hb1 (by first | (simp [go_sem, *]; done) | (simp [go_sem, World.cell?_alloc_some, *]; done) | fail); have e11 : w1.cell? ⟨wr.heap.size, 1, none⟩ = some (.int .i64 p.b) := cell_on hb1 (by first | (simp [go_sem, *]; done) | (simp [go_sem, World.cell?_alloc_some, *]; done) | fail); have e12 : w1.cell? ⟨wr.heap.size, 3, none⟩ = some (.int .i64 p.n) := cell_on hb1 (by first | (simp [go_sem, *]; done) | (simp [go_sem, World.cell?_alloc_some, *]; done) | fail); have e13 : w1.cell? ⟨wr.heap.size, 4, none⟩ = some (.int .i64 p.d) := cell_on hb1 (by first | (simp [go_sem, *]; done) | (simp [go_sem, World.cell?_alloc_some, *]; done) | fail); have e14 : w1.cell? ⟨wr.heap.size, 7, none⟩ = some (.int .i64 p.k) := cell_on hb1 (by first | (simp [go_sem, *]; done) | (simp [go_sem, World.cell?_alloc_some, *]; done) | fail); have s10 : wr.heap.size < w1.heap.size := World.block_lt_of_cell? _ _ e10; have t10 : wr.heap.size < w1.heap.size + 1 := Nat.lt_succ_of_lt s10) | (go_at_call 45; (with_reducible refine (C1.out _).mono ?_); rintro e w2 ⟨rfl, hb2⟩; have e20 : w2.cell? ⟨wr.heap.size, 0, none⟩ = some (.int .i64 p.a) := cell_on hb2 (by first | (simp [go_sem, *]; done) | (simp [go_sem, World.cell?_alloc_some, *]; done) | fail); have e21 : w2.cell? ⟨wr.heap.size, 1, none⟩ = some (.int .i64 p.b) := cell_on hb2 (by first | (simp [go_sem, *]; done) | (simp [go_sem, World.cell?_alloc_some, *]; done) | fail); have e22 : w2.cell? ⟨wr.heap.size, 3, none⟩ = some (.int .i64 p.n) := cell_on hb2 (by first | (simp [go_sem, *]; done) | (simp [go_sem, World.cell?_alloc_some, *]; done) | fail); have e23 : w2.cell? ⟨wr.heap.size, 4, none⟩ = some (.int .i64 p.d) := cell_on hb2 (by first | (simp [go_sem, *]; done) | (simp [go_sem, World.cell?_alloc_some, *]; done) | fail); have e24 : w2.cell? ⟨wr.heap.size, 7, none⟩ = some (.int .i64 p.k) := cell_on hb2 (by first | (simp [go_sem, *]; done) | (simp [go_sem, World.cell?_alloc_some, *]; done) | fail); have s20 : wr.heap.size < w2.heap.size := World.block_lt_of_cell? _ _ e20; have t20 : wr.heap.size < w2.heap.size + 1 := Nat.lt_succ_of_lt s20) | (go_at_call 57; (with_reducible refine (L1.out _).mono ?_); rintro e w3 ⟨rfl, hb3⟩; have e30 : w3.cell? ⟨wr.heap.size, 0, none⟩ = some (.int .i64 p.a) := cell_on hb3 (by first | (simp [go_sem, *]; done) | (simp [go_sem, World.cell?_alloc_some, *]; done) | fail); have e31 : w3.cell? ⟨wr.heap.size, 1, none⟩ = some (.int .i64 p.b) := cell_on hb3 (by first | (simp [go_sem, *]; done) | (simp [go_sem, World.cell?_alloc_some, *]; done) | fail); have e32 : w3.cell? ⟨wr.heap.size, 3, none⟩ = some (.int .i64 p.n) := cell_on hb3 (by first | (simp [go_sem, *]; done) | (simp [go_sem, World.cell?_alloc_some, *]; done) | fail); have e33 : w3.cell? ⟨wr.heap.size, 4, none⟩ = some (.int .i64 p.d) := cell_on hb3 (by first | (simp [go_sem, *]; done) | (simp [go_sem, World.cell?_alloc_some, *]; done) | fail); have e34 : w3.cell? ⟨wr.heap.size, 7, none⟩ = some (.int .i64 p.k) := cell_on hb3 (by first | (simp [go_sem, *]; done) | (simp [go_sem, World.cell?_alloc_some, *]; done) | fail); have s30 : wr.heap.size < w3.heap.size := World.block_lt_of_cell? _ _ e30; have t30 : wr.heap.size < w3.heap.size + 1 := Nat.lt_succ_of_lt s30) | (go_at_call 45; (with_reducible refine (C2.out _).mono ?_); rintro e w4 ⟨rfl, hb4⟩; have e40 : w4.cell? ⟨wr.heap.size, 0, none⟩ = some (.int .i64 p.a) := cell_on hb4 (by first | (simp [go_sem, *]; done) | (simp [go_sem, World.cell?_alloc_some, *]; done) | fail); have e41 : w4.cell? ⟨wr.heap.size, 1, none⟩ = some (.int .i64 p.b) := cell_on hb4 (by first | (simp [go_sem, *]; done) | (simp [go_sem, World.cell?_alloc_some, *]; done) | fail); have e42 : w4.cell? ⟨wr.heap.size, 3, none⟩ = some (.int .i64 p.n) := cell_on hb4 (by first | (simp [go_sem, *]; done) | (simp [go_sem, World.cell?_alloc_some, *]; done) | fail); have e43 : w4.cell? ⟨wr.heap.size, 4, none⟩ = some (.int .i64 p.d) := cell_on hb4 (by first | (simp [go_sem, *]; done) | (simp [go_sem, World.cell?_alloc_some, *]; done) | fail); have e44 : w4.cell? ⟨wr.heap.size, 7, none⟩ = some (.int .i64 p.k) := cell_on hb4 (by first | (simp [go_sem, *]; done) | (simp [go_sem, World.cell?_alloc_some, *]; done) | fail); have s40 : wr.heap.size < w4.heap.size := World.block_lt_of_cell? _ _ e40; have t40 : wr.heap.size < w4.heap.size + 1 := Nat.lt_succ_of_lt s40) | (go_at_call 44; (with_reducible refine (R1.out _).mono ?_); rintro e w5 ⟨rfl, hb5⟩; have e50 : w5.cell? ⟨wr.heap.size, 0, none⟩ = some (.int .i64 p.a) := cell_on hb5 (by first | (simp [go_sem, *]; done) | (simp [go_sem, World.cell?_alloc_some, *]; done) | fail); have e51 : w5.cell? ⟨wr.heap.size, 1, none⟩ = some (.int .i64 p.b) := cell_on hb5 (by first | (simp [go_sem, *]; done) | (simp [go_sem, World.cell?_alloc_some, *]; done) | fail); have e52 : w5.cell? ⟨wr.heap.size, 3, none⟩ = some (.int .i64 p.n) := cell_on hb5 (by first | (simp [go_sem, *]; done) | (simp [go_sem, World.cell?_alloc_some, *]; done) | fail); have e53 : w5.cell? ⟨wr.heap.size, 4, none⟩ = some (.int .i64 p.d) := cell_on hb5 (by first | (simp [go_sem, *]; done) | (simp [go_sem, World.cell?_alloc_some, *]; done) | fail); have e54 : w5.cell? ⟨wr.heap.size, 7, none⟩ = some (.int .i64 p.k) := cell_on hb5 (by first | (simp [go_sem, *]; done) | (simp [go_sem, World.cell?_alloc_some, *]; done) | fail); have s50 : wr.heap.size < w5.heap.size := World.block_lt_of_cell? _ _ e50; have t50 : wr.heap.size < w5.heap.size + 1 := Nat.lt_succ_of_lt s50) | (go_at_call 44; (with_reducible refine (R2.out _).mono ?_); rintro e w6 ⟨rfl, hb6⟩; have e60 : w6.cell? ⟨wr.heap.size, 0, none⟩ = some (.int .i64 p.a) := cell_on hb6 (by first | (simp [go_sem, *]; done) | (simp [go_sem, World.cell?_alloc_some, *]; done) | fail); have e61 : w6.cell? ⟨wr.heap.size, 1, none⟩ = some (.int .i64 p.b) := cell_on hb6 (by first | (simp [go_sem, *]; done) | (simp [go_sem, World.cell?_alloc_some, *]; done) | fail); have e62 : w6.cell? ⟨wr.heap.size, 3, none⟩ = some (.int .i64 p.n) := cell_on hb6 (by first | (simp [go_sem, *]; done) | (simp [go_sem, World.cell?_alloc_some, *]; done) | fail); have e63 : w6.cell? ⟨wr.heap.size, 4, none⟩ = some (.int .i64 p.d) := cell_on hb6 (by first | (simp [go_sem, *]; done) | (simp [go_sem, World.cell?_alloc_some, *]; done) | fail); have e64 : w6.cell? ⟨wr.heap.size, 7, none⟩ = some (.int .i64 p.k) := cell_on hb6 (by first | (simp [go_sem, *]; done) | (simp [go_sem, World.cell?_alloc_some, *]; done) | fail); have s60 : wr.heap.size < w6.heap.size := World.block_lt_of_cell? _ _ e60; have t60 : wr.heap.size < w6.heap.size + 1 := Nat.lt_succ_of_lt s60) | (go_at_call 44; (with_reducible refine (R3.out _).mono ?_); rintro e w7 ⟨rfl, hb7⟩; have e70 : w7.cell? ⟨wr.heap.size, 0, none⟩ = some (.int .i64 p.a) := cell_on hb7 (by first | (simp [go_sem, *]; done) | (simp [go_sem, World.cell?_alloc_some, *]; done) | fail); have e71 : w7.cell? ⟨wr.heap.size, 1, none⟩ = some (.int .i64 p.b) := cell_on hb7 (by first | (simp [go_sem, *]; done) | (simp [go_sem, World.cell?_alloc_some, *]; done) | fail); have e72 : w7.cell? ⟨wr.heap.size, 3, none⟩ = some (.int .i64 p.n) := cell_on hb7 (by first | (simp [go_sem, *]; done) | (simp [go_sem, World.cell?_alloc_some, *]; done) | fail); have e73 : w7.cell? ⟨wr.heap.size, 4, none⟩ = some (.int .i64 p.d) := cell_on hb7 (by first | (simp [go_sem, *]; done) | (simp [go_sem, World.cell?_alloc_some, *]; done) | fail); have e74 : w7.cell? ⟨wr.heap.size, 7, none⟩ = some (.int .i64 p.k) := cell_on hb7 (by first | (simp [go_sem, *]; done) | (simp [go_sem, World.cell?_alloc_some, *]; done) | fail); have s70 : wr.heap.size < w7.heap.size := World.block_lt_of_cell? _ _ e70; have t70 : wr.heap.size < w7.heap.size + 1 := Nat.lt_succ_of_lt s70))
          refine ⟨⟨k + 1, by omega, by go_num, ?_⟩, by simp [intOf]; omega⟩
          repeat (first | exact Below.refl _ _ | assumption | apply Below.drew | refine Below.setCell ?_ (by first | omega | (simp; done) | (simp; omega)) _ | refine Below.alloc ?_ (by first | omega | (simp; done) | (simp; omega)) _ | refine Below.trans ?_ (hb6.mono (by first | omega | (simp; done) | (simp; omega))) | refine Below.trans ?_ (hb5.mono (by first | omega | (simp; done) | (simp; omega))) | refine Below.trans ?_ (hb4.mono (by first | omega | (simp; done) | (simp; omega))) | refine Below.trans ?_ (hb3.mono (by first | omega | (simp; done) | (simp; omega))) | refine Below.trans ?_ (hb2.mono (by first | omega | (simp; done) | (simp; omega))) | refine Below.trans ?_ (hb1.mono (by first | omega | (simp; done) | (simp; omega))))
        · have z2 : d * K ≠ 0 := by rw [hK]; exact z_100 z
          have R1 := fun W : World => ratio_any n d fN W (by omega) (by omega) (by omega) (by omega) fb1 z
          have R2 := fun W : World => ratio_any (n * K) (d * K) fN W (by omega) (by omega) (by omega) (by omega) fb1 z2
          have R3 := fun W : World => ratio_any (-n) d fN W (by omega) (by omega) (by omega) (by omega) fb1 z
          rw [sw_100, rd_scale _ _ (by rw [hK]; exact pos_100 kk)] at R2
          rw [Int.neg_mul, rd_neg _ _ z, (tw_neg _).1, (tw_neg _).2] at R3
          have e5 : wrap64 (-tw (rd (n * 2 ^ fN) d)) = -tw (rd (n * 2 ^ fN) d) := IntWalk.wrap64_in _ ⟨by have := tw_bd (rd (n * 2 ^ fN) d); omega, by have := tw_bd (rd (n * 2 ^ fN) d); omega⟩
          have HX := Lib.hid (And.intro hK (And.intro hn hd))
          clear hK hn hd n0 d0 m1 m2 m3 m4 r1 r2 r3 q1 q2 p0 A B ga gb hk2 hk3 hf z2
          generalize tw (rd (p.a * p.b) (2 ^ fN)) = v at *
          generalize te (rd (p.a * p.b) (2 ^ fN)) = ev at *
          generalize tw (rd (n * 2 ^ fN) d) = x at *
          generalize te (rd (n * 2 ^ fN) d) = ex' at *
          generalize p.a * p.b = pab at *
          generalize p.a * 2 ^ fN = sa at *
          have M1 := Lib.hid M1
          have C1 := Lib.hid C1
          have L1 := Lib.hid L1
          have C2 := Lib.hid C2
          have R1 := Lib.hid R1
          have R2 := Lib.hid R2
          have R3 := Lib.hid R3
          go_wp2_with (first | (go_at_call 27; (with_reducible refine (MA.out _).mono ?_); rintro e w' ⟨rfl, rfl⟩) | (go_at_call 27; (with_reducible refine (MB.out _).mono ?_); rintro e w' ⟨rfl, rfl⟩) | (go_at_call 29; (with_reducible refine (num2_any _ _).mono ?_); rintro e w' ⟨rfl, rfl⟩) | (go_at_call 47; (with_reducible refine (FF.out _).mono ?_); rintro e w' ⟨rfl, rfl⟩) | (go_at_call 58; (with_reducible refine (WI.out _).mono ?_); rintro e w' ⟨rfl, rfl⟩) | (go_at_call 17; (with_reducible refine (FR.out _).mono ?_); rintro e w' ⟨rfl, rfl⟩) | (go_at_call 56; (with_reducible refine (WM.out _).mono ?_); rintro e w' ⟨rfl, rfl⟩) | (go_at_call 42; (with_reducible refine (M1.out _).mono ?_); rintro e w1 ⟨rfl, hb1⟩; have e10 : w1.cell? ⟨wr.heap.size, 0, none⟩ = some (.int .i64 p.a) := cell_on hb1 (by first | (simp [go_sem, *]; done) | (simp [go_sem, World.cell?_alloc_some, *]; done) | fail); have e11 : w1.cell? ⟨wr.heap.size, 1, none⟩ = some (.int .i64 p.b) := cell_on hb1 (by first | (simp [go_sem, *]; done) | (simp [go_sem, World.cell?_alloc_some, *]; done) | fail); have e12 : w1.cell? ⟨wr.heap.size, 3, none⟩ = some (.int .i64 p.n) := cell_on hb1 (by first | (simp [go_sem, *]; done) | (simp [go_sem, World.cell?_alloc_some, *]; done) | fail); have e13 : w1.cell? ⟨wr.heap.size, 4, none⟩ = some (.int .i64 p.d) := cell_on hb1 (by first | (simp [go_sem, *]; done) | (simp [go_sem, World.cell?_alloc_some, *]; done) | fail); have e14 : w1.cell? ⟨wr.heap.size, 7, none⟩ = some (.int .i64 p.k) := cell_on hb1 (by first | (simp [go_sem, *]; done) | (simp [go_sem, World.cell?_alloc_some, *]; done) | fail); have s10 : wr.heap.size < w1.heap.size := World.block_lt_of_cell? _ _ e10; have t10 : wr.heap.size < w1.heap.size + 1 := Nat.lt_succ_of_lt s10) | (go_at_call 45; (with_reducible refine (C1.out _).mono ?_); rintro e w2 ⟨rfl, hb2⟩; have e20 : w2.cell? ⟨wr.heap.size, 0, none⟩ = some (.int .i64 p.a) := cell_on hb2 (by first | (simp [go_sem, *]; done) | (simp [go_sem, World.cell?_alloc_some, *]; done) | fail); have e21 : w2.cell? ⟨wr.heap.size, 1, none⟩ = some (.int .i64 p.b) := cell_on hb2 (by first | (simp [go_sem, *]; done) | (simp [go_sem, World.cell?_alloc_some, *]; done) | fail); have e22 : w2.cell? ⟨wr.heap.size, 3, none⟩ = some (.int .i64 p.n) := cell_on hb2 (by first | (simp [go_sem, *]; done) | (simp [go_sem, World.cell?_alloc_some, *]; done) | fail); have e23 : w2.cell? ⟨wr.heap.size, 4, none⟩ = some (.int .i64 p.d) := cell_on hb2 (by first | (simp [go_sem, *]; done) | (simp [go_sem, World.cell?_alloc_some, *]; done) | fail); have e24 : w2.cell? ⟨wr.heap.size, 7, none⟩ = some (.int .i64 p.k) := cell_on hb2 (by first | (simp [go_sem, *]; done) | (simp [go_sem, World.cell?_alloc_some, *]; done) | fail); have s20 : wr.heap.size < w2.heap.size := World.block_lt_of_cell? _ _ e20; have t20 : wr.heap.size < w2.heap.size + 1 := Nat.lt_succ_of_lt s20) | (go_at_call 57; (with_reducible refine (L1.out _).mono ?_); rintro e w3 ⟨rfl, hb3⟩; have e30 : w3.cell? ⟨wr.heap.size, 0, none⟩ = some (.int .i64 p.a) := cell_on hb3 (by first | (simp [go_sem, *]; done) | (simp [go_sem, World.cell?_alloc_some, *]; done) | fail); have e31 : w3.cell? ⟨wr.heap.size, 1, none⟩ = some (.int .i64 p.b) := cell_on hb3 (by first | (simp [go_sem, *]; done) | (simp [go_sem, World.cell?_alloc_some, *]; done) | fail); have e32 : w3.cell? ⟨wr.heap.size, 3, none⟩ = some (.int .i64 p.n) := cell_on hb3 (by first | (simp [go_sem, *]; done) | (simp [go_sem, World.cell?_alloc_some, *]; done) | fail); have e33 : w3.cell? ⟨wr.heap.size, 4, none⟩ = some (.int .i64 p.d) := cell_on hb3 (by first | (simp [go_sem, *]; done) | (simp [go_sem, World.cell?_alloc_some, *]; done) | fail); have e34 : w3.cell? ⟨wr.heap.size, 7, none⟩ = some (.int .i64 p.k) := cell_on hb3 (by first | (simp [go_sem, *]; done) | (simp [go_sem, World.cell?_alloc_some, *]; done) | fail); have s30 : wr.heap.size < w3.heap.size := World.block_lt_of_cell? _ _ e30; have t30 : wr.heap.size < w3.heap.size + 1 := Nat.lt_succ_of_lt s30) | (go_at_call 45; (with_reducible refine (C2.out _).mono ?_); rintro e w4 ⟨rfl, hb4⟩; have e40 : w4.cell? ⟨wr.heap.size, 0, none⟩ = some (.int .i64 p.a) := cell_on hb4 (by first | (simp [go_sem, *]; done) | (simp [go_sem, World.cell?_alloc_some, *]; done) | fail); have e41 : w4.cell? ⟨wr.heap.size, 1, none⟩ = some (.int .i64 p.b) := cell_on hb4 (by first | (simp [go_sem, *]; done) | (simp [go_sem, World.cell?_alloc_some, *]; done) | fail); have e42 : w4.cell? ⟨wr.heap.size, 3, none⟩ = some (.int .i64 p.n) := cell_on hb4 (by first | (simp [go_sem, *]; done) | (simp [go_sem, World.cell?_alloc_some, *]; done) | fail); have e43 : w4.cell? ⟨wr.heap.size, 4, none⟩ = some (.int .i64 p.d) := cell_on hb4 (by first | (simp [go_sem, *]; done) | (simp [go_sem, World.cell?_alloc_some, *]; done) | fail); have e44 : w4.cell? ⟨wr.heap.size, 7, none⟩ = some (.int .i64 p.k) := cell_on hb4 (by first | (simp [go_sem, *]; done) | (simp [go_sem, World.cell?_alloc_some, *]; done) | fail); have s40 : wr.heap.size < w4.heap.size := World.block_lt_of_cell? _ _ e40; have t40 : wr.heap.size < w4.heap.size + 1 := Nat.lt_succ_of_lt s40) | (go_at_call 44; (with_reducible refine (R1.out _).mono ?_); rintro e w5 ⟨rfl, hb5⟩; have e50 : w5.cell? ⟨wr.heap.size, 0, none⟩ = some (.int .i64 p.a) := cell_on hb5 (by first | (simp [go_sem, *]; done) | (simp [go_sem, World.cell?_alloc_some, *]; done) | fail); have e51 : w5.cell? ⟨wr.heap.size, 1, none⟩ = some (.int .i64 p.b) := cell_on hb5 (by first | (simp [go_sem, *]; done) | (simp [go_sem, World.cell?_alloc_some, *]; done) | fail); have e52 : w5.cell? ⟨wr.heap.size, 3, none⟩ = some (.int .i64 p.n) := cell_on hb5 (by first | (simp [go_sem, *]; done) | (simp [go_sem, World.cell?_alloc_some, *]; done) | fail); have e53 : w5.cell? ⟨wr.heap.size, 4, none⟩ = some (.int .i64 p.d) := cell_on hb5 (by first | (simp [go_sem, *]; done) | (simp [go_sem, World.cell?_alloc_some, *]; done) | fail); have e54 : w5.cell? ⟨wr.heap.size, 7, none⟩ = some (.int .i64 p.k) := cell_on hb5 (by first | (simp [go_sem, *]; done) | (simp [go_sem, World.cell?_alloc_some, *]; done) | fail); have s50 : wr.heap.size < w5.heap.size := World.block_lt_of_cell? _ _ e50; have t50 : wr.heap.size < w5.heap.size + 1 := Nat.lt_succ_of_lt s50) | (go_at_call 44; (with_reducible refine (R2.out _).mono ?_); rintro e w6 ⟨rfl, hb6⟩; have e60 : w6.cell? ⟨wr.heap.size, 0, none⟩ = some (.int .i64 p.a) := cell_on hb6 (by first | (simp [go_sem, *]; done) | (simp [go_sem, World.cell?_alloc_some, *]; done) | fail); have e61 : w6.cell? ⟨wr.heap.size, 1, none⟩ = some (.int .i64 p.b) := cell_on hb6 (by first | (simp [go_sem, *]; done) | (simp [go_sem, World.cell?_alloc_some, *]; done) | fail); have e62 : w6.cell? ⟨wr.heap.size, 3, none⟩ = some (.int .i64 p.n) := cell_on hb6 (by first | (simp [go_sem, *]; done) | (simp [go_sem, World.cell?_alloc_some, *]; done) | fail); have e63 : w6.cell? ⟨wr.heap.size, 4, none⟩ = some (.int .i64 p.d) := cell_on hb6 (by first | (simp [go_sem, *]; done) | (simp [go_sem, World.cell?_alloc_some, *]; done) | fail); have e64 : w6.cell? ⟨wr.heap.size, 7, none⟩ = some (.int .i64 p.k) := cell_on hb6 (by first | (simp [go_sem, *]; done) | (simp [go_sem, World.cell?_alloc_some, *]; done) | fail); have s60 : wr.heap.size < w6.heap.size := World.block_lt_of_cell? _ _ e60; have t60 : wr.heap.size < w6.heap.size + 1 := Nat.lt_succ_of_lt s60) | (go_at_call 44; (with_reducible refine (R3.out _).mono ?_); rintro e w7 ⟨rfl, hb7⟩; have e70 : w7.cell? ⟨wr.heap.size, 0, none⟩ = some (.int .i64 p.a) := cell_on hb7 (by first | (simp [go_sem, *]; done) | (simp [go_sem, World.cell?_alloc_some, *]; done) | fail); have e71 : w7.cell? ⟨wr.heap.size, 1, none⟩ = some (.int .i64 p.b) := cell_on hb7 (by first | (simp [go_sem, *]; done) | (simp [go_sem, World.cell?_alloc_some, *]; done) | fail); have e72 : w7.cell? ⟨wr.heap.size, 3, none⟩ = some (.int .i64 p.n) := cell_on hb7 (by first | (simp [go_sem, *]; done) | (simp [go_sem, World.cell?_alloc_some, *]; done) | fail); have e73 : w7.cell? ⟨wr.heap.size, 4, none⟩ = some (.int .i64 p.d) := cell_on hb7 (by first | (simp [go_sem, *]; done) | (simp [go_sem, World.cell?_alloc_some, *]; done) | fail); have e74 : w7.cell? ⟨wr.heap.size, 7, none⟩ = some (.int .i64 p.k) := cell_on hb7 (by first | (simp [go_sem, *]; done) | (simp [go_sem, World.cell?_alloc_some, *]; done) | fail); have s70 : wr.heap.size < w7.heap.size := World.block_lt_of_cell? _ _ e70; have t70 : wr.heap.size < w7.heap.size + 1 := Nat.lt_succ_of_lt s70))
          refine ⟨⟨k + 1, by omega, by go_num, ?_⟩, by simp [intOf]; omega⟩
          repeat (first | exact Below.refl _ _ | assumption | apply Below.drew | refine Below.setCell ?_ (by first | omega | (simp; done) | (simp; omega)) _ | refine Below.alloc ?_ (by first | omega | (simp; done) | (simp; omega)) _ | refine Below.trans ?_ (hb7.mono (by first | omega | (simp; done) | (simp; omega))) | refine Below.trans ?_ (hb6.mono (by first | omega | (simp; done) | (simp; omega))) | refine Below.trans ?_ (hb5.mono (by first | omega | (simp; done) | (simp; omega))) | refine Below.trans ?_ (hb4.mono (by first | omega | (simp; done) | (simp; omega))) | refine Below.trans ?_ (hb3.mono (by first | omega | (simp; done) | (simp; omega))) | refine Below.trans ?_ (hb2.mono (by first | omega | (simp; done) | (simp; omega))) | refine Below.trans ?_ (hb1.mono (by first | omega | (simp; done) | (simp; omega))))
    · by_cases g1 : k < len
      · have g2 : 30 ≤ k := by omega
        clear g
        go_wp2_with (go_at_call 46; (with_reducible refine (fwakes_any _).mono ?_); rintro e w9 ⟨rfl, hb9⟩)
        go_ret
        exact ⟨rfl, hB.trans (hb9.mono hBs)⟩
      · have g2 : len ≤ k := by omega
        clear g g1
        go_wp2_with (go_at_call 46; (with_reducible refine (fwakes_any _).mono ?_); rintro e w9 ⟨rfl, hb9⟩)
        go_ret
        exact ⟨rfl, hB.trans (hb9.mono hBs)⟩
end Go.Proofs.Ytofihgchokghhaa
