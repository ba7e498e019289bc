/-
  WideOrder's loop.
-/
import Derived.Test.YtdbegagkanaohaaLawA
namespace Go.Proofs.Ytdbegagkanaohaa
open Go.RowKit

theorem sg_diff (a b : Int) : sg (a - b) 0 = sg a b := by unfold sg; repeat' split <;> try omega
theorem sg_succ (a : Int) : sg (a + 1) a = 1 := sg_gt (by omega)
theorem hl_ne {a b : Int} (h : a ≠ b) : (hi a == hi b) = false ∨ ((hi a == hi b) = true ∧ (lo a == lo b) = false) := by
  by_cases e : hi a = hi b
  · exact .inr ⟨by simp [e], by simp only [beq_eq_false_iff_ne, ne_eq]; exact fun l => h (hl_inj e l)⟩
  · exact .inl (by simp [e])

set_option maxRecDepth 100000 in
set_option maxHeartbeats 8000000 in
theorem order_any (b off len cap : Nat) (es : Nat → El) (w : World) (_hl : len ≤ 9223372036854775807) (hb : b < w.heap.size) (hT : ∀ i, i < len → TwoAt w b (off + i * 7) (es i)) (hok : ∀ i, i < len → (es i).ok) :
    Calls Try.prog 3 #[.slice (some ⟨b, off, none⟩) len cap] w fun e w' => e = .returned (.bool true) ∧ Below w.heap.size w w' := by
  have HT := Lib.hid (And.intro hT hok)
  clear hT hok
  go_enter Try.func3, Try.ntmps3
  go_wp2
  go_loopw [3] (fun s3 wr => ∃ k : Nat, k ≤ len ∧ s3 = .int .i64 k ∧ Below w.heap.size w wr) (fun s3 _ => len - (intOf s3).toNat)
  case atStart => exact ⟨0, Nat.zero_le _, rfl, Below.refl _ _⟩
  case round =>
    obtain ⟨k, hk, rfl, hB⟩ := hrel
    have hBs := hB.size
    by_cases g : k < len ∧ k < 30
    · obtain ⟨g1, g2⟩ := g
      have hTk := (HT.out.1 k g1).below hB hb
      have HO := HT.out.2 k g1
      generalize es k = p at *
      obtain ⟨a, c, x, y, n⟩ := p
      have HO := Lib.hid HO
      obtain ⟨t1, t2, t3, t4, t5, t6, t7⟩ := hTk
      simp only at t1 t2 t3 t4 t5 t6 t7
      have C1 := Lib.hid (fun W : World => cmp_any a c W)
      have FX := Lib.hid (fun W : World => from_at x W HO.out.2.2.1.1 HO.out.2.2.1.2)
      have FY := Lib.hid (fun W : World => from_at y W HO.out.2.2.2.1.1 HO.out.2.2.2.1.2)
      have FR := Lib.hid (fun W : World => fromr_any 1 W (by decide) (by decide))
      have SM := fun W : World => small_any x W
      have ix : isS x = true := isS_mk HO.out.2.2.1
      rw [ix, show sm x = x from if_pos ix] at SM
      have SM := Lib.hid SM
      have C4 := Lib.hid (fun W : World => cmp_any x y W)
      have SB := fun W : World => sub_any a c W HO.out.1 HO.out.2.1
      have HV : Hid ((told (a - c) = a - c ∧ over (a - c) = 0) ∨ over (a - c) = 3) := by
        by_cases r : R (a - c)
        · exact .inl ⟨told_in r, over_in r⟩
        · exact .inr (over_out r)
      have SG := fun W : World => sign_any (a - c) W
      rw [sg_diff] at SG
      generalize told (a - c) = v at *
      generalize over (a - c) = ov at *
      have AD := fun W : World => add_any a 1 W HO.out.1 (by decide)
      have HU : Hid ((told (a + 1) = a + 1 ∧ over (a + 1) = 0) ∨ over (a + 1) = 3) := by
        by_cases r : R (a + 1)
        · exact .inl ⟨told_in r, over_in r⟩
        · exact .inr (over_out r)
      have C3 := fun W : World => cmp_any (a + 1) a W
      rw [sg_succ] at C3
      generalize told (a + 1) = v1 at *
      generalize over (a + 1) = ov1 at *
      generalize a - c = ac at *
      generalize a + 1 = a1 at *
      have SB := Lib.hid SB
      have SG := Lib.hid SG
      have AD := Lib.hid AD
      have C3 := Lib.hid C3
      clear ix
      go_upto_region 6 with (go_at_call 9; (with_reducible refine (C1.out _).mono ?_); rintro e w1 ⟨rfl, hb1⟩; have e10 : w1.cell? ⟨wr.heap.size, 0, none⟩ = some (.int .i64 (hi a)) := cell_on hb1 (by first | (simp [go_sem, *]; done) | (simp [go_sem, World.cell?_alloc_some, *]; done) | fail); have e11 : w1.cell? ⟨wr.heap.size, 1, none⟩ = some (.int .u64 (lo a)) := cell_on hb1 (by first | (simp [go_sem, *]; done) | (simp [go_sem, World.cell?_alloc_some, *]; done) | fail); have e12 : w1.cell? ⟨wr.heap.size, 2, none⟩ = some (.int .i64 (hi c)) := cell_on hb1 (by first | (simp [go_sem, *]; done) | (simp [go_sem, World.cell?_alloc_some, *]; done) | fail); have e13 : w1.cell? ⟨wr.heap.size, 3, none⟩ = some (.int .u64 (lo c)) := cell_on hb1 (by first | (simp [go_sem, *]; done) | (simp [go_sem, World.cell?_alloc_some, *]; done) | fail); have e14 : w1.cell? ⟨wr.heap.size, 4, none⟩ = some (.int .i64 x) := cell_on hb1 (by first | (simp [go_sem, *]; done) | (simp [go_sem, World.cell?_alloc_some, *]; done) | fail); have e15 : w1.cell? ⟨wr.heap.size, 5, none⟩ = some (.int .i64 y) := cell_on hb1 (by first | (simp [go_sem, *]; done) | (simp [go_sem, World.cell?_alloc_some, *]; done) | fail); have e16 : w1.cell? ⟨wr.heap.size, 6, none⟩ = some (.int .i64 n) := cell_on hb1 (by first | (simp [go_sem, *]; done) | (simp [go_sem, World.cell?_alloc_some, *]; done) | fail); have s10 : wr.heap.size < w1.heap.size := World.block_lt_of_cell? _ _ e10; have t10 : wr.heap.size < w1.heap.size + 1 := Nat.lt_succ_of_lt s10)
      have hBz : Below w.heap.size w w1 := by
        repeat (first | exact Below.refl _ _ | assumption | apply Below.drew | refine Below.setCell ?_ (by first | omega | (simp; done) | (simp; omega)) _ | refine Below.alloc ?_ (by first | omega | (simp; done) | (simp; omega)) _ | refine Below.trans ?_ (hb1.mono (by first | omega | (simp; done) | (simp; omega))))
      clear t1 t2 t3 t4 t5 t6 t7 hB hBs hb1
      have t1 := e10
      have t2 := e11
      have t3 := e12
      have t4 := e13
      have t5 := e14
      have t6 := e15
      have t7 := e16
      clear e10 e11 e12 e13 e14 e15 e16 s10 t10
      generalize wr.heap.size = P at *
      have hWz := hBz.size
      go_cut [5, 48] (fun s5 s48 wx => s5 = .int .i64 (sg a c) ∧ s48 = .bool false ∧ wx.cell? ⟨P, 0, none⟩ = some (.int .i64 (hi a)) ∧ wx.cell? ⟨P, 1, none⟩ = some (.int .u64 (lo a)) ∧ wx.cell? ⟨P, 2, none⟩ = some (.int .i64 (hi c)) ∧ wx.cell? ⟨P, 3, none⟩ = some (.int .u64 (lo c)) ∧ wx.cell? ⟨P, 4, none⟩ = some (.int .i64 x) ∧ wx.cell? ⟨P, 5, none⟩ = some (.int .i64 y) ∧ wx.cell? ⟨P, 6, none⟩ = some (.int .i64 n) ∧ Below w.heap.size w wx)
      case first =>
        have C2 := fun W : World => cmp_any c a W
        rcases Int.lt_trichotomy a c with h | h | h
        · rw [sg_gt h] at C2
          have C2 := Lib.hid C2
          have e5 := sg_lt h
          have h' := hl_ne (show a ≠ c by omega)
          clear h
          rcases h' with e1 | ⟨e1, e2⟩
          all_goals
            go_wp2_with (go_at_call 9; (with_reducible refine (C2.out _).mono ?_); rintro e w2 ⟨rfl, hb2⟩; have e20 : w2.cell? ⟨P, 0, none⟩ = some (.int .i64 (hi a)) := cell_on hb2 (by first | (simp [go_sem, *]; done) | (simp [go_sem, World.cell?_alloc_some, *]; done) | fail); have e21 : w2.cell? ⟨P, 1, none⟩ = some (.int .u64 (lo a)) := cell_on hb2 (by first | (simp [go_sem, *]; done) | (simp [go_sem, World.cell?_alloc_some, *]; done) | fail); have e22 : w2.cell? ⟨P, 2, none⟩ = some (.int .i64 (hi c)) := cell_on hb2 (by first | (simp [go_sem, *]; done) | (simp [go_sem, World.cell?_alloc_some, *]; done) | fail); have e23 : w2.cell? ⟨P, 3, none⟩ = some (.int .u64 (lo c)) := cell_on hb2 (by first | (simp [go_sem, *]; done) | (simp [go_sem, World.cell?_alloc_some, *]; done) | fail); have e24 : w2.cell? ⟨P, 4, none⟩ = some (.int .i64 x) := cell_on hb2 (by first | (simp [go_sem, *]; done) | (simp [go_sem, World.cell?_alloc_some, *]; done) | fail); have e25 : w2.cell? ⟨P, 5, none⟩ = some (.int .i64 y) := cell_on hb2 (by first | (simp [go_sem, *]; done) | (simp [go_sem, World.cell?_alloc_some, *]; done) | fail); have e26 : w2.cell? ⟨P, 6, none⟩ = some (.int .i64 n) := cell_on hb2 (by first | (simp [go_sem, *]; done) | (simp [go_sem, World.cell?_alloc_some, *]; done) | fail); have s20 : P < w2.heap.size := World.block_lt_of_cell? _ _ e20; have t20 : P < w2.heap.size + 1 := Nat.lt_succ_of_lt s20)
            go_meet
            refine ⟨by first | rfl | simp [e5], by first | rfl | simp, by simp [go_sem, *], by simp [go_sem, *], by simp [go_sem, *], by simp [go_sem, *], by simp [go_sem, *], by simp [go_sem, *], by simp [go_sem, *], hBz.trans (hb2.mono hWz)⟩
        · subst h
          rw [sg_eq a] at C2
          have C2 := Lib.hid C2
          have e5 := sg_eq a
          go_wp2_with (go_at_call 9; (with_reducible refine (C2.out _).mono ?_); rintro e w2 ⟨rfl, hb2⟩; have e20 : w2.cell? ⟨P, 0, none⟩ = some (.int .i64 (hi a)) := cell_on hb2 (by first | (simp [go_sem, *]; done) | (simp [go_sem, World.cell?_alloc_some, *]; done) | fail); have e21 : w2.cell? ⟨P, 1, none⟩ = some (.int .u64 (lo a)) := cell_on hb2 (by first | (simp [go_sem, *]; done) | (simp [go_sem, World.cell?_alloc_some, *]; done) | fail); have e22 : w2.cell? ⟨P, 2, none⟩ = some (.int .i64 (hi a)) := cell_on hb2 (by first | (simp [go_sem, *]; done) | (simp [go_sem, World.cell?_alloc_some, *]; done) | fail); have e23 : w2.cell? ⟨P, 3, none⟩ = some (.int .u64 (lo a)) := cell_on hb2 (by first | (simp [go_sem, *]; done) | (simp [go_sem, World.cell?_alloc_some, *]; done) | fail); have e24 : w2.cell? ⟨P, 4, none⟩ = some (.int .i64 x) := cell_on hb2 (by first | (simp [go_sem, *]; done) | (simp [go_sem, World.cell?_alloc_some, *]; done) | fail); have e25 : w2.cell? ⟨P, 5, none⟩ = some (.int .i64 y) := cell_on hb2 (by first | (simp [go_sem, *]; done) | (simp [go_sem, World.cell?_alloc_some, *]; done) | fail); have e26 : w2.cell? ⟨P, 6, none⟩ = some (.int .i64 n) := cell_on hb2 (by first | (simp [go_sem, *]; done) | (simp [go_sem, World.cell?_alloc_some, *]; done) | fail); have s20 : P < w2.heap.size := World.block_lt_of_cell? _ _ e20; have t20 : P < w2.heap.size + 1 := Nat.lt_succ_of_lt s20)
          go_meet
          refine ⟨by first | rfl | simp [e5], by first | rfl | simp, by simp [go_sem, *], by simp [go_sem, *], by simp [go_sem, *], by simp [go_sem, *], by simp [go_sem, *], by simp [go_sem, *], by simp [go_sem, *], hBz.trans (hb2.mono hWz)⟩
        · rw [sg_lt h] at C2
          have C2 := Lib.hid C2
          have e5 := sg_gt h
          have h' := hl_ne (show a ≠ c by omega)
          clear h
          rcases h' with e1 | ⟨e1, e2⟩
          all_goals
            go_wp2_with (go_at_call 9; (with_reducible refine (C2.out _).mono ?_); rintro e w2 ⟨rfl, hb2⟩; have e20 : w2.cell? ⟨P, 0, none⟩ = some (.int .i64 (hi a)) := cell_on hb2 (by first | (simp [go_sem, *]; done) | (simp [go_sem, World.cell?_alloc_some, *]; done) | fail); have e21 : w2.cell? ⟨P, 1, none⟩ = some (.int .u64 (lo a)) := cell_on hb2 (by first | (simp [go_sem, *]; done) | (simp [go_sem, World.cell?_alloc_some, *]; done) | fail); have e22 : w2.cell? ⟨P, 2, none⟩ = some (.int .i64 (hi c)) := cell_on hb2 (by first | (simp [go_sem, *]; done) | (simp [go_sem, World.cell?_alloc_some, *]; done) | fail); have e23 : w2.cell? ⟨P, 3, none⟩ = some (.int .u64 (lo c)) := cell_on hb2 (by first | (simp [go_sem, *]; done) | (simp [go_sem, World.cell?_alloc_some, *]; done) | fail); have e24 : w2.cell? ⟨P, 4, none⟩ = some (.int .i64 x) := cell_on hb2 (by first | (simp [go_sem, *]; done) | (simp [go_sem, World.cell?_alloc_some, *]; done) | fail); have e25 : w2.cell? ⟨P, 5, none⟩ = some (.int .i64 y) := cell_on hb2 (by first | (simp [go_sem, *]; done) | (simp [go_sem, World.cell?_alloc_some, *]; done) | fail); have e26 : w2.cell? ⟨P, 6, none⟩ = some (.int .i64 n) := cell_on hb2 (by first | (simp [go_sem, *]; done) | (simp [go_sem, World.cell?_alloc_some, *]; done) | fail); have s20 : P < w2.heap.size := World.block_lt_of_cell? _ _ e20; have t20 : P < w2.heap.size + 1 := Nat.lt_succ_of_lt s20)
            go_meet
            refine ⟨by first | rfl | simp [e5], by first | rfl | simp, by simp [go_sem, *], by simp [go_sem, *], by simp [go_sem, *], by simp [go_sem, *], by simp [go_sem, *], by simp [go_sem, *], by simp [go_sem, *], hBz.trans (hb2.mono hWz)⟩
      case rest =>
        clear t1 t2 t3 t4 t5 t6 t7 hBz hWz C1
        obtain ⟨rfl, rfl, t1, t2, t3, t4, t5, t6, t7, hBz⟩ := hcut
        have hWz := hBz.size
        go_upto_region 9 with (go_at_call 10; (with_reducible refine (SB.out _).mono ?_); rintro e w3 ⟨rfl, hb3⟩; have e30 : w3.cell? ⟨P, 0, none⟩ = some (.int .i64 (hi a)) := cell_on hb3 (by first | (simp [go_sem, *]; done) | (simp [go_sem, World.cell?_alloc_some, *]; done) | fail); have e31 : w3.cell? ⟨P, 1, none⟩ = some (.int .u64 (lo a)) := cell_on hb3 (by first | (simp [go_sem, *]; done) | (simp [go_sem, World.cell?_alloc_some, *]; done) | fail); have e32 : w3.cell? ⟨P, 2, none⟩ = some (.int .i64 (hi c)) := cell_on hb3 (by first | (simp [go_sem, *]; done) | (simp [go_sem, World.cell?_alloc_some, *]; done) | fail); have e33 : w3.cell? ⟨P, 3, none⟩ = some (.int .u64 (lo c)) := cell_on hb3 (by first | (simp [go_sem, *]; done) | (simp [go_sem, World.cell?_alloc_some, *]; done) | fail); have e34 : w3.cell? ⟨P, 4, none⟩ = some (.int .i64 x) := cell_on hb3 (by first | (simp [go_sem, *]; done) | (simp [go_sem, World.cell?_alloc_some, *]; done) | fail); have e35 : w3.cell? ⟨P, 5, none⟩ = some (.int .i64 y) := cell_on hb3 (by first | (simp [go_sem, *]; done) | (simp [go_sem, World.cell?_alloc_some, *]; done) | fail); have e36 : w3.cell? ⟨P, 6, none⟩ = some (.int .i64 n) := cell_on hb3 (by first | (simp [go_sem, *]; done) | (simp [go_sem, World.cell?_alloc_some, *]; done) | fail); have s30 : P < w3.heap.size := World.block_lt_of_cell? _ _ e30; have t30 : P < w3.heap.size + 1 := Nat.lt_succ_of_lt s30)
        go_cut [65] (fun s65 wx => s65 = .bool false ∧ wx.cell? ⟨P, 0, none⟩ = some (.int .i64 (hi a)) ∧ wx.cell? ⟨P, 1, none⟩ = some (.int .u64 (lo a)) ∧ wx.cell? ⟨P, 2, none⟩ = some (.int .i64 (hi c)) ∧ wx.cell? ⟨P, 3, none⟩ = some (.int .u64 (lo c)) ∧ wx.cell? ⟨P, 4, none⟩ = some (.int .i64 x) ∧ wx.cell? ⟨P, 5, none⟩ = some (.int .i64 y) ∧ wx.cell? ⟨P, 6, none⟩ = some (.int .i64 n) ∧ Below w.heap.size w wx)
        case first =>
          rcases HV.out with ⟨h1, h2⟩ | h1
          · subst h1 h2
            go_wp2_with (first | (go_at_call 11; (with_reducible refine (num_any _ _).mono ?_); rintro e w' ⟨rfl, rfl⟩) | (go_at_call 12; (with_reducible refine (SG.out _).mono ?_); rintro e w4 ⟨rfl, hb4⟩; have e40 : w4.cell? ⟨P, 0, none⟩ = some (.int .i64 (hi a)) := cell_on hb4 (by first | (simp [go_sem, *]; done) | (simp [go_sem, World.cell?_alloc_some, *]; done) | fail); have e41 : w4.cell? ⟨P, 1, none⟩ = some (.int .u64 (lo a)) := cell_on hb4 (by first | (simp [go_sem, *]; done) | (simp [go_sem, World.cell?_alloc_some, *]; done) | fail); have e42 : w4.cell? ⟨P, 2, none⟩ = some (.int .i64 (hi c)) := cell_on hb4 (by first | (simp [go_sem, *]; done) | (simp [go_sem, World.cell?_alloc_some, *]; done) | fail); have e43 : w4.cell? ⟨P, 3, none⟩ = some (.int .u64 (lo c)) := cell_on hb4 (by first | (simp [go_sem, *]; done) | (simp [go_sem, World.cell?_alloc_some, *]; done) | fail); have e44 : w4.cell? ⟨P, 4, none⟩ = some (.int .i64 x) := cell_on hb4 (by first | (simp [go_sem, *]; done) | (simp [go_sem, World.cell?_alloc_some, *]; done) | fail); have e45 : w4.cell? ⟨P, 5, none⟩ = some (.int .i64 y) := cell_on hb4 (by first | (simp [go_sem, *]; done) | (simp [go_sem, World.cell?_alloc_some, *]; done) | fail); have e46 : w4.cell? ⟨P, 6, none⟩ = some (.int .i64 n) := cell_on hb4 (by first | (simp [go_sem, *]; done) | (simp [go_sem, World.cell?_alloc_some, *]; done) | fail); have s40 : P < w4.heap.size := World.block_lt_of_cell? _ _ e40; have t40 : P < w4.heap.size + 1 := Nat.lt_succ_of_lt s40))
            go_meet
            have hs3 := hb3.size
            refine ⟨by first | rfl | simp, by simp [go_sem, *], by simp [go_sem, *], by simp [go_sem, *], by simp [go_sem, *], by simp [go_sem, *], by simp [go_sem, *], by simp [go_sem, *], ?_⟩
            repeat (first | exact Below.refl _ _ | assumption | apply Below.drew | refine Below.setCell ?_ (by first | omega | (simp; done) | (simp; omega)) _ | refine Below.alloc ?_ (by first | omega | (simp; done) | (simp; omega)) _ | refine Below.trans ?_ (hb4.mono (by first | omega | (simp; done) | (simp; omega))) | refine Below.trans ?_ (hb3.mono (by first | omega | (simp; done) | (simp; omega))))
          · subst h1
            have hs3 := hb3.size
            go_wp2_with (go_at_call 11; (with_reducible refine (num_any _ _).mono ?_); rintro e w' ⟨rfl, rfl⟩)
            go_meet
            refine ⟨by first | rfl | simp, by simp [go_sem, *], by simp [go_sem, *], by simp [go_sem, *], by simp [go_sem, *], by simp [go_sem, *], by simp [go_sem, *], by simp [go_sem, *], ?_⟩
            repeat (first | exact Below.refl _ _ | assumption | apply Below.drew | refine Below.setCell ?_ (by first | omega | (simp; done) | (simp; omega)) _ | refine Below.alloc ?_ (by first | omega | (simp; done) | (simp; omega)) _ | refine Below.trans ?_ (hb3.mono (by first | omega | (simp; done) | (simp; omega))))
        case rest =>
          clear t1 t2 t3 t4 t5 t6 t7 hBz hWz SB SG HV
          obtain ⟨rfl, t1, t2, t3, t4, t5, t6, t7, hBz⟩ := hcut
          have hPz : P < wc.heap.size := World.block_lt_of_cell? _ _ t1
          have hP1 : P < wc.heap.size + 1 := Nat.lt_succ_of_lt hPz
          have hP2 : P < wc.heap.size + 1 + 1 := Nat.lt_succ_of_lt hP1
          have hWz := hBz.size
          go_upto_region 11 with fail
          go_cut [8, 9] (fun s8 s9 wx => ∃ q : Nat, s8 = .pointer (some ⟨q, 0, none⟩) ∧ s9 = .int .i64 ov1 ∧ wx.cell? ⟨P, 0, none⟩ = some (.int .i64 (hi a)) ∧ wx.cell? ⟨P, 1, none⟩ = some (.int .u64 (lo a)) ∧ wx.cell? ⟨P, 2, none⟩ = some (.int .i64 (hi c)) ∧ wx.cell? ⟨P, 3, none⟩ = some (.int .u64 (lo c)) ∧ wx.cell? ⟨P, 4, none⟩ = some (.int .i64 x) ∧ wx.cell? ⟨P, 5, none⟩ = some (.int .i64 y) ∧ wx.cell? ⟨P, 6, none⟩ = some (.int .i64 n) ∧ wx.cell? ⟨q, 0, none⟩ = some (.int .i64 (hi v1)) ∧ wx.cell? ⟨q, 1, none⟩ = some (.int .u64 (lo v1)) ∧ Below w.heap.size w wx)
          case first =>
            go_region_held3 (fun w' => w'.cell? ⟨P, 0, none⟩ = some (.int .i64 (hi a)) ∧ w'.cell? ⟨P, 1, none⟩ = some (.int .u64 (lo a)) ∧ w'.cell? ⟨P, 2, none⟩ = some (.int .i64 (hi c)) ∧ w'.cell? ⟨P, 3, none⟩ = some (.int .u64 (lo c)) ∧ w'.cell? ⟨P, 4, none⟩ = some (.int .i64 x) ∧ w'.cell? ⟨P, 5, none⟩ = some (.int .i64 y) ∧ w'.cell? ⟨P, 6, none⟩ = some (.int .i64 n)) (simp [go_sem, *])
              (first
              | (go_at_call 14; (with_reducible refine (FR.out _).mono ?_); rintro e w5 ⟨rfl, hb5⟩; obtain ⟨hc5, hf5⟩ := bcell hb5; have hz50 : P < w5.heap.size := bsz hb5 (by first | omega | (simp; done) | (simp; omega)); have hl50 : P < w5.heap.size + 1 := Nat.lt_succ_of_lt hz50; have hm50 : P < w5.heap.size + 1 + 1 := Nat.lt_succ_of_lt hl50; have g50 : w5.cell? ⟨P, 0, none⟩ = some (.int .i64 (hi a)) := (hc5 _ _ (by first | omega | (simp; done) | (simp; omega))).trans (by first | (simp [go_sem, *]; done) | fail); have g51 : w5.cell? ⟨P, 1, none⟩ = some (.int .u64 (lo a)) := (hc5 _ _ (by first | omega | (simp; done) | (simp; omega))).trans (by first | (simp [go_sem, *]; done) | fail); have g52 : w5.cell? ⟨P, 2, none⟩ = some (.int .i64 (hi c)) := (hc5 _ _ (by first | omega | (simp; done) | (simp; omega))).trans (by first | (simp [go_sem, *]; done) | fail); have g53 : w5.cell? ⟨P, 3, none⟩ = some (.int .u64 (lo c)) := (hc5 _ _ (by first | omega | (simp; done) | (simp; omega))).trans (by first | (simp [go_sem, *]; done) | fail); have g54 : w5.cell? ⟨P, 4, none⟩ = some (.int .i64 x) := (hc5 _ _ (by first | omega | (simp; done) | (simp; omega))).trans (by first | (simp [go_sem, *]; done) | fail); have g55 : w5.cell? ⟨P, 5, none⟩ = some (.int .i64 y) := (hc5 _ _ (by first | omega | (simp; done) | (simp; omega))).trans (by first | (simp [go_sem, *]; done) | fail); have g56 : w5.cell? ⟨P, 6, none⟩ = some (.int .i64 n) := (hc5 _ _ (by first | omega | (simp; done) | (simp; omega))).trans (by first | (simp [go_sem, *]; done) | fail); (first | (have hy50 : wc.heap.size < w5.heap.size := bsz hb5 (by first | omega | (simp; done) | (simp; omega))) | skip); (first | (have hy51 : wc.heap.size + 1 < w5.heap.size := bsz hb5 (by first | omega | (simp; done) | (simp; omega))) | skip); (first | (have hn50 : wc.heap.size < w5.heap.size + 1 := Nat.lt_succ_of_lt hy50) | skip); (first | (have hn51 : wc.heap.size + 1 < w5.heap.size + 1 := Nat.lt_succ_of_lt hy51) | skip); (first | (have o50 : w5.cell? ⟨wc.heap.size, 0, none⟩ = some (.int .i64 0) := (hc5 _ _ (by first | omega | (simp; done) | (simp; omega))).trans (by first | (simp [go_sem, *]; done) | fail)) | skip); (first | (have q50 : w5.frozen? ⟨wc.heap.size, 0, none⟩ = false := (hf5 _ _ (by first | omega | (simp; done) | (simp; omega))).trans (by first | (simp [go_sem, *]; done) | fail)) | skip); (first | (have o51 : w5.cell? ⟨wc.heap.size, 1, none⟩ = some (.int .u64 0) := (hc5 _ _ (by first | omega | (simp; done) | (simp; omega))).trans (by first | (simp [go_sem, *]; done) | fail)) | skip); (first | (have q51 : w5.frozen? ⟨wc.heap.size, 1, none⟩ = false := (hf5 _ _ (by first | omega | (simp; done) | (simp; omega))).trans (by first | (simp [go_sem, *]; done) | fail)) | skip); (first | (have o52 : w5.cell? ⟨wc.heap.size + 1, 0, none⟩ = some (.int .i64 0) := (hc5 _ _ (by first | omega | (simp; done) | (simp; omega))).trans (by first | (simp [go_sem, *]; done) | fail)) | skip); (first | (have q52 : w5.frozen? ⟨wc.heap.size + 1, 0, none⟩ = false := (hf5 _ _ (by first | omega | (simp; done) | (simp; omega))).trans (by first | (simp [go_sem, *]; done) | fail)) | skip); (first | (have o53 : w5.cell? ⟨wc.heap.size + 1, 1, none⟩ = some (.int .u64 0) := (hc5 _ _ (by first | omega | (simp; done) | (simp; omega))).trans (by first | (simp [go_sem, *]; done) | fail)) | skip); (first | (have q53 : w5.frozen? ⟨wc.heap.size + 1, 1, none⟩ = false := (hf5 _ _ (by first | omega | (simp; done) | (simp; omega))).trans (by first | (simp [go_sem, *]; done) | fail)) | skip); clear hc5 hf5)
              | (go_at_call 13; (with_reducible refine (AD.out _).mono ?_); rintro e w6 ⟨rfl, hb6⟩; obtain ⟨hc6, hf6⟩ := bcell hb6; have hz60 : P < w6.heap.size := bsz hb6 (by first | omega | (simp; done) | (simp; omega)); have hl60 : P < w6.heap.size + 1 := Nat.lt_succ_of_lt hz60; have hm60 : P < w6.heap.size + 1 + 1 := Nat.lt_succ_of_lt hl60; have g60 : w6.cell? ⟨P, 0, none⟩ = some (.int .i64 (hi a)) := (hc6 _ _ (by first | omega | (simp; done) | (simp; omega))).trans (by first | (simp [go_sem, *]; done) | fail); have g61 : w6.cell? ⟨P, 1, none⟩ = some (.int .u64 (lo a)) := (hc6 _ _ (by first | omega | (simp; done) | (simp; omega))).trans (by first | (simp [go_sem, *]; done) | fail); have g62 : w6.cell? ⟨P, 2, none⟩ = some (.int .i64 (hi c)) := (hc6 _ _ (by first | omega | (simp; done) | (simp; omega))).trans (by first | (simp [go_sem, *]; done) | fail); have g63 : w6.cell? ⟨P, 3, none⟩ = some (.int .u64 (lo c)) := (hc6 _ _ (by first | omega | (simp; done) | (simp; omega))).trans (by first | (simp [go_sem, *]; done) | fail); have g64 : w6.cell? ⟨P, 4, none⟩ = some (.int .i64 x) := (hc6 _ _ (by first | omega | (simp; done) | (simp; omega))).trans (by first | (simp [go_sem, *]; done) | fail); have g65 : w6.cell? ⟨P, 5, none⟩ = some (.int .i64 y) := (hc6 _ _ (by first | omega | (simp; done) | (simp; omega))).trans (by first | (simp [go_sem, *]; done) | fail); have g66 : w6.cell? ⟨P, 6, none⟩ = some (.int .i64 n) := (hc6 _ _ (by first | omega | (simp; done) | (simp; omega))).trans (by first | (simp [go_sem, *]; done) | fail); (first | (have hy60 : wc.heap.size < w6.heap.size := bsz hb6 (by first | omega | (simp; done) | (simp; omega))) | skip); (first | (have hy61 : wc.heap.size + 1 < w6.heap.size := bsz hb6 (by first | omega | (simp; done) | (simp; omega))) | skip); (first | (have hy62 : w5.heap.size < w6.heap.size := bsz hb6 (by first | omega | (simp; done) | (simp; omega))) | skip); (first | (have hy63 : w5.heap.size + 1 < w6.heap.size := bsz hb6 (by first | omega | (simp; done) | (simp; omega))) | skip); (first | (have hn60 : wc.heap.size < w6.heap.size + 1 := Nat.lt_succ_of_lt hy60) | skip); (first | (have hn61 : wc.heap.size + 1 < w6.heap.size + 1 := Nat.lt_succ_of_lt hy61) | skip); (first | (have hn62 : w5.heap.size < w6.heap.size + 1 := Nat.lt_succ_of_lt hy62) | skip); (first | (have hn63 : w5.heap.size + 1 < w6.heap.size + 1 := Nat.lt_succ_of_lt hy63) | skip); (first | (have o60 : w6.cell? ⟨wc.heap.size, 0, none⟩ = some (.int .i64 0) := (hc6 _ _ (by first | omega | (simp; done) | (simp; omega))).trans (by first | (simp [go_sem, *]; done) | fail)) | skip); (first | (have q60 : w6.frozen? ⟨wc.heap.size, 0, none⟩ = false := (hf6 _ _ (by first | omega | (simp; done) | (simp; omega))).trans (by first | (simp [go_sem, *]; done) | fail)) | skip); (first | (have o61 : w6.cell? ⟨wc.heap.size, 1, none⟩ = some (.int .u64 0) := (hc6 _ _ (by first | omega | (simp; done) | (simp; omega))).trans (by first | (simp [go_sem, *]; done) | fail)) | skip); (first | (have q61 : w6.frozen? ⟨wc.heap.size, 1, none⟩ = false := (hf6 _ _ (by first | omega | (simp; done) | (simp; omega))).trans (by first | (simp [go_sem, *]; done) | fail)) | skip); (first | (have o62 : w6.cell? ⟨wc.heap.size + 1, 0, none⟩ = some (.int .i64 0) := (hc6 _ _ (by first | omega | (simp; done) | (simp; omega))).trans (by first | (simp [go_sem, *]; done) | fail)) | skip); (first | (have q62 : w6.frozen? ⟨wc.heap.size + 1, 0, none⟩ = false := (hf6 _ _ (by first | omega | (simp; done) | (simp; omega))).trans (by first | (simp [go_sem, *]; done) | fail)) | skip); (first | (have o63 : w6.cell? ⟨wc.heap.size + 1, 1, none⟩ = some (.int .u64 0) := (hc6 _ _ (by first | omega | (simp; done) | (simp; omega))).trans (by first | (simp [go_sem, *]; done) | fail)) | skip); (first | (have q63 : w6.frozen? ⟨wc.heap.size + 1, 1, none⟩ = false := (hf6 _ _ (by first | omega | (simp; done) | (simp; omega))).trans (by first | (simp [go_sem, *]; done) | fail)) | skip); (first | (have o64 : w6.cell? ⟨w5.heap.size, 0, none⟩ = some (.int .i64 0) := (hc6 _ _ (by first | omega | (simp; done) | (simp; omega))).trans (by first | (simp [go_sem, *]; done) | fail)) | skip); (first | (have q64 : w6.frozen? ⟨w5.heap.size, 0, none⟩ = false := (hf6 _ _ (by first | omega | (simp; done) | (simp; omega))).trans (by first | (simp [go_sem, *]; done) | fail)) | skip); (first | (have o65 : w6.cell? ⟨w5.heap.size, 1, none⟩ = some (.int .u64 0) := (hc6 _ _ (by first | omega | (simp; done) | (simp; omega))).trans (by first | (simp [go_sem, *]; done) | fail)) | skip); (first | (have q65 : w6.frozen? ⟨w5.heap.size, 1, none⟩ = false := (hf6 _ _ (by first | omega | (simp; done) | (simp; omega))).trans (by first | (simp [go_sem, *]; done) | fail)) | skip); (first | (have o66 : w6.cell? ⟨w5.heap.size + 1, 0, none⟩ = some (.int .i64 0) := (hc6 _ _ (by first | omega | (simp; done) | (simp; omega))).trans (by first | (simp [go_sem, *]; done) | fail)) | skip); (first | (have q66 : w6.frozen? ⟨w5.heap.size + 1, 0, none⟩ = false := (hf6 _ _ (by first | omega | (simp; done) | (simp; omega))).trans (by first | (simp [go_sem, *]; done) | fail)) | skip); (first | (have o67 : w6.cell? ⟨w5.heap.size + 1, 1, none⟩ = some (.int .u64 0) := (hc6 _ _ (by first | omega | (simp; done) | (simp; omega))).trans (by first | (simp [go_sem, *]; done) | fail)) | skip); (first | (have q67 : w6.frozen? ⟨w5.heap.size + 1, 1, none⟩ = false := (hf6 _ _ (by first | omega | (simp; done) | (simp; omega))).trans (by first | (simp [go_sem, *]; done) | fail)) | skip); clear hc6 hf6))
            all_goals
              go_wp2_with fail
              go_meet
              have hs5 := hb5.size
              have hs6 := hb6.size
              try simp at hs5
              try simp at hs6
              refine ⟨_, rfl, rfl, by simp [go_sem, *], by simp [go_sem, *], by simp [go_sem, *], by simp [go_sem, *], by simp [go_sem, *], by simp [go_sem, *], by simp [go_sem, *], by simp [go_sem, *], by simp [go_sem, *], ?_⟩
              repeat (first | exact Below.refl _ _ | assumption | apply Below.drew | refine Below.setCell ?_ (by first | omega | (simp; done) | (simp; omega)) _ | refine Below.alloc ?_ (by first | omega | (simp; done) | (simp; omega)) _ | refine Below.trans ?_ (hb6.mono (by first | omega | (simp; done) | (simp; omega))) | refine Below.trans ?_ (hb5.mono (by first | omega | (simp; done) | (simp; omega))))
          case rest =>
            clear t1 t2 t3 t4 t5 t6 t7 hBz hWz hPz hP1 hP2 FR AD
            obtain ⟨q, rfl, rfl, t1, t2, t3, t4, t5, t6, t7, u1, u2, hBz⟩ := hcut
            have hWz := hBz.size
            go_upto_region 12 with fail
            go_cut [82] (fun s82 wx => s82 = .bool false ∧ wx.cell? ⟨P, 0, none⟩ = some (.int .i64 (hi a)) ∧ wx.cell? ⟨P, 1, none⟩ = some (.int .u64 (lo a)) ∧ wx.cell? ⟨P, 2, none⟩ = some (.int .i64 (hi c)) ∧ wx.cell? ⟨P, 3, none⟩ = some (.int .u64 (lo c)) ∧ wx.cell? ⟨P, 4, none⟩ = some (.int .i64 x) ∧ wx.cell? ⟨P, 5, none⟩ = some (.int .i64 y) ∧ wx.cell? ⟨P, 6, none⟩ = some (.int .i64 n) ∧ Below w.heap.size w wx)
            case first =>
              rcases HU.out with ⟨h1, h2⟩ | h1
              · subst h1 h2
                go_wp2_with (first | (go_at_call 11; (with_reducible refine (num_any _ _).mono ?_); rintro e w' ⟨rfl, rfl⟩) | (go_at_call 9; (with_reducible refine (C3.out _).mono ?_); rintro e w7 ⟨rfl, hb7⟩; have e70 : w7.cell? ⟨P, 0, none⟩ = some (.int .i64 (hi a)) := cell_on hb7 (by first | (simp [go_sem, *]; done) | (simp [go_sem, World.cell?_alloc_some, *]; done) | fail); have e71 : w7.cell? ⟨P, 1, none⟩ = some (.int .u64 (lo a)) := cell_on hb7 (by first | (simp [go_sem, *]; done) | (simp [go_sem, World.cell?_alloc_some, *]; done) | fail); have e72 : w7.cell? ⟨P, 2, none⟩ = some (.int .i64 (hi c)) := cell_on hb7 (by first | (simp [go_sem, *]; done) | (simp [go_sem, World.cell?_alloc_some, *]; done) | fail); have e73 : w7.cell? ⟨P, 3, none⟩ = some (.int .u64 (lo c)) := cell_on hb7 (by first | (simp [go_sem, *]; done) | (simp [go_sem, World.cell?_alloc_some, *]; done) | fail); have e74 : w7.cell? ⟨P, 4, none⟩ = some (.int .i64 x) := cell_on hb7 (by first | (simp [go_sem, *]; done) | (simp [go_sem, World.cell?_alloc_some, *]; done) | fail); have e75 : w7.cell? ⟨P, 5, none⟩ = some (.int .i64 y) := cell_on hb7 (by first | (simp [go_sem, *]; done) | (simp [go_sem, World.cell?_alloc_some, *]; done) | fail); have e76 : w7.cell? ⟨P, 6, none⟩ = some (.int .i64 n) := cell_on hb7 (by first | (simp [go_sem, *]; done) | (simp [go_sem, World.cell?_alloc_some, *]; done) | fail); have s70 : P < w7.heap.size := World.block_lt_of_cell? _ _ e70; have t70 : P < w7.heap.size + 1 := Nat.lt_succ_of_lt s70))
                go_meet
                refine ⟨by first | rfl | simp, by simp [go_sem, *], by simp [go_sem, *], by simp [go_sem, *], by simp [go_sem, *], by simp [go_sem, *], by simp [go_sem, *], by simp [go_sem, *], ?_⟩
                repeat (first | exact Below.refl _ _ | assumption | apply Below.drew | refine Below.setCell ?_ (by first | omega | (simp; done) | (simp; omega)) _ | refine Below.alloc ?_ (by first | omega | (simp; done) | (simp; omega)) _ | refine Below.trans ?_ (hb7.mono (by first | omega | (simp; done) | (simp; omega))))
              · subst h1
                go_wp2_with (go_at_call 11; (with_reducible refine (num_any _ _).mono ?_); rintro e w' ⟨rfl, rfl⟩)
                go_meet
                refine ⟨by first | rfl | simp, by simp [go_sem, *], by simp [go_sem, *], by simp [go_sem, *], by simp [go_sem, *], by simp [go_sem, *], by simp [go_sem, *], by simp [go_sem, *], ?_⟩
                repeat (first | exact Below.refl _ _ | assumption | apply Below.drew | refine Below.setCell ?_ (by first | omega | (simp; done) | (simp; omega)) _ | refine Below.alloc ?_ (by first | omega | (simp; done) | (simp; omega)) _)
            case rest =>
              clear t1 t2 t3 t4 t5 t6 t7 hBz hWz u1 u2 C3 HU
              obtain ⟨rfl, t1, t2, t3, t4, t5, t6, t7, hBz⟩ := hcut
              have hWz := hBz.size
              go_upto_region 15 with (first | (go_at_call 16; (with_reducible refine (FX.out _).mono ?_); rintro e w' ⟨rfl, rfl⟩) | (go_at_call 15; (with_reducible refine (SM.out _).mono ?_); rintro e w8 ⟨rfl, hb8⟩; have e80 : w8.cell? ⟨P, 0, none⟩ = some (.int .i64 (hi a)) := cell_on hb8 (by first | (simp [go_sem, *]; done) | (simp [go_sem, World.cell?_alloc_some, *]; done) | fail); have e81 : w8.cell? ⟨P, 1, none⟩ = some (.int .u64 (lo a)) := cell_on hb8 (by first | (simp [go_sem, *]; done) | (simp [go_sem, World.cell?_alloc_some, *]; done) | fail); have e82 : w8.cell? ⟨P, 2, none⟩ = some (.int .i64 (hi c)) := cell_on hb8 (by first | (simp [go_sem, *]; done) | (simp [go_sem, World.cell?_alloc_some, *]; done) | fail); have e83 : w8.cell? ⟨P, 3, none⟩ = some (.int .u64 (lo c)) := cell_on hb8 (by first | (simp [go_sem, *]; done) | (simp [go_sem, World.cell?_alloc_some, *]; done) | fail); have e84 : w8.cell? ⟨P, 4, none⟩ = some (.int .i64 x) := cell_on hb8 (by first | (simp [go_sem, *]; done) | (simp [go_sem, World.cell?_alloc_some, *]; done) | fail); have e85 : w8.cell? ⟨P, 5, none⟩ = some (.int .i64 y) := cell_on hb8 (by first | (simp [go_sem, *]; done) | (simp [go_sem, World.cell?_alloc_some, *]; done) | fail); have e86 : w8.cell? ⟨P, 6, none⟩ = some (.int .i64 n) := cell_on hb8 (by first | (simp [go_sem, *]; done) | (simp [go_sem, World.cell?_alloc_some, *]; done) | fail); have s80 : P < w8.heap.size := World.block_lt_of_cell? _ _ e80; have t80 : P < w8.heap.size + 1 := Nat.lt_succ_of_lt s80))
              go_cut [112] (fun s112 wx => s112 = .bool false ∧ Below w.heap.size w wx)
              case first =>
                have hs8 := hb8.size
                try simp at hs8
                go_region_held3 (fun w' => w'.cell? ⟨P, 4, none⟩ = some (.int .i64 x) ∧ w'.cell? ⟨P, 5, none⟩ = some (.int .i64 y)) (first | (simp [go_sem, *]; done) | (simp [go_sem, World.cell?_alloc_some, *]; done))
                  (first
                  | (go_at_call 16; (with_reducible refine (FX.out _).mono ?_); rintro e w' ⟨rfl, rfl⟩)
                  | (go_at_call 16; (with_reducible refine (FY.out _).mono ?_); rintro e w' ⟨rfl, rfl⟩)
                  | (go_at_call 9; (with_reducible refine (C4.out _).mono ?_); rintro e w9 ⟨rfl, hb9⟩; have e90 : w9.cell? ⟨P, 4, none⟩ = some (.int .i64 x) := cell_on hb9 (by first | (simp [go_sem, *]; done) | (simp [go_sem, World.cell?_alloc_some, *]; done) | fail); have e91 : w9.cell? ⟨P, 5, none⟩ = some (.int .i64 y) := cell_on hb9 (by first | (simp [go_sem, *]; done) | (simp [go_sem, World.cell?_alloc_some, *]; done) | fail); have s90 : P < w9.heap.size := World.block_lt_of_cell? _ _ e90; have t90 : P < w9.heap.size + 1 := Nat.lt_succ_of_lt s90)
                  | (go_at_call 17; (with_reducible refine (signl_any x y _).mono ?_); rintro e w' ⟨rfl, rfl⟩))
                all_goals
                  go_wp2_with fail
                  go_meet
                  have hs9 := hb9.size
                  try simp at hs9
                  refine ⟨by first | rfl | simp, ?_⟩
                  repeat (first | exact Below.refl _ _ | assumption | apply Below.drew | refine Below.setCell ?_ (by first | omega | (simp; done) | (simp; omega)) _ | refine Below.alloc ?_ (by first | omega | (simp; done) | (simp; omega)) _ | refine Below.trans ?_ (hb9.mono (by first | omega | (simp; done) | (simp; omega))) | refine Below.trans ?_ (hb8.mono (by first | omega | (simp; done) | (simp; omega))))
              case rest =>
                obtain ⟨rfl, hBy⟩ := hcut
                go_wp2_with fail
                exact ⟨⟨k + 1, by omega, by go_num, hBy⟩, by simp [intOf]; omega⟩
    · by_cases g1 : k < len
      · have g2 : 30 ≤ k := by omega
        clear g
        go_wp2_with (go_at_call 18; (with_reducible refine (wakes_any _).mono ?_); rintro e w9 ⟨rfl, hb9⟩)
        go_ret
        exact ⟨rfl, hB.trans (hb9.mono hBs)⟩
      · have g2 : len ≤ k := by omega
        clear g g1
        go_wp2_with (go_at_call 18; (with_reducible refine (wakes_any _).mono ?_); rintro e w9 ⟨rfl, hb9⟩)
        go_ret
        exact ⟨rfl, hB.trans (hb9.mono hBs)⟩
end Go.Proofs.Ytdbegagkanaohaa
