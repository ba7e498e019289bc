/-
  RootExact's loop.
-/
import Derived.Test.YtdbgooobbemklaaM03
import Derived.Test.YtdbgooobbemklaaM14
namespace Go.Proofs.Ytdbgooobbemklaa
open Go.RowKit
theorem p2_on {W W' : World} {B : Nat} {p : Rl} (hb : Below W.heap.size W W') (h : W.cell? ⟨B, 0, none⟩ = some (.int .i64 p.a) ∧ W.cell? ⟨B, 1, none⟩ = some (.int .i64 p.f)) : W'.cell? ⟨B, 0, none⟩ = some (.int .i64 p.a) ∧ W'.cell? ⟨B, 1, none⟩ = some (.int .i64 p.f) := ⟨cell_on hb h.1, cell_on hb h.2⟩

set_option maxRecDepth 100000 in
set_option maxHeartbeats 8000000 in
theorem rexact_any (b off len cap : Nat) (es : Nat → Rl) (w : World) (_hl : len ≤ 9223372036854775807) (hb : b < w.heap.size) (hT : ∀ i, i < len → RlAt w b (off + i * 2) (es i)) (hok : ∀ i, i < len → (es i).ok) :
    Calls Try.prog 5 #[.slice (some ⟨b, off, none⟩) len cap] w fun e w' => e = .returned (.bool true) ∧ Below w.heap.size w w' := by
  have HT := Lib.hid (And.intro hT hok)
  clear hT hok
  go_enter Try.func5, Try.ntmps5
  go_wp2
  go_loopw [3] (fun s3 wr => ∃ k : Nat, k ≤ len ∧ s3 = .int .i64 k ∧ Below w.heap.size w wr) (fun s3 _ => len - (intOf s3).toNat)
  case atStart => exact ⟨0, Nat.zero_le _, rfl, Below.refl _ _⟩
  case round =>
    obtain ⟨k, hk, rfl, hB⟩ := hrel
    have hBs := hB.size
    by_cases g : k < len ∧ k < 25
    · obtain ⟨g1, g2⟩ := g
      obtain ⟨t1, t2⟩ := (HT.out.1 k (by omega)).below hB hb
      have HO := Lib.hid (HT.out.2 k (by omega))
      generalize es k = p at *
      have MA := fun W : World => may_any p.a W
      have MF := fun W : World => mayf_any p.f W
      cases ga : wd p.a with
      | false =>
        have XS := Lib.hid (fun W : World => sqrt_form p.a p.f W (by rw [ga, Bool.and_false]))
        have XR := Lib.hid (fun W : World => rsqrt_form p.a p.f W (by rw [ga, Bool.and_false]))
        rw [ga] at MA
        have MA := Lib.hid MA
        have MF := Lib.hid MF
        clear ga
        go_wp2_with (first | (go_at_call 10; (with_reducible refine (MA.out _).mono ?_); rintro e w' ⟨rfl, rfl⟩) | (go_at_call 11; (with_reducible refine (MF.out _).mono ?_); rintro e w' ⟨rfl, rfl⟩) | (go_at_call 49; (with_reducible refine (num3_any _ _).mono ?_); rintro e w' ⟨rfl, rfl⟩) | (go_at_call 47; (with_reducible refine (XS.out _).mono ?_); rintro e w3 ⟨rfl, hb3⟩; obtain ⟨e30, e31⟩ := p2_on (B := wr.heap.size) (p := p) hb3 (by first | exact ⟨by assumption, by assumption⟩ | (simp [go_sem, *]; done) | fail); have s3 : wr.heap.size < w3.heap.size := World.block_lt_of_cell? _ _ e30; have t3 : wr.heap.size < w3.heap.size + 1 := Nat.lt_succ_of_lt s3; have q3 := hb3.size; (try simp at q3); (try clear e10 e11 s1 t1); (try clear e20 e21 s2 t2)) | (go_at_call 48; (with_reducible refine (XR.out _).mono ?_); rintro e w4 ⟨rfl, hb4⟩; obtain ⟨e40, e41⟩ := p2_on (B := wr.heap.size) (p := p) hb4 (by first | exact ⟨by assumption, by assumption⟩ | (simp [go_sem, *]; done) | fail); have s4 : wr.heap.size < w4.heap.size := World.block_lt_of_cell? _ _ e40; have t4 : wr.heap.size < w4.heap.size + 1 := Nat.lt_succ_of_lt s4; have q4 := hb4.size; (try simp at q4); (try clear e10 e11 s1 t1); (try clear e20 e21 s2 t2); (try clear e30 e31 s3 t3)))
        refine ⟨⟨k + 1, by omega, by go_num, ?_⟩, by simp [intOf]; omega⟩
        repeat (first | exact Below.refl _ _ | assumption | apply Below.drew | refine Below.setCell ?_ (by first | omega | (simp; done) | (simp; omega)) _ | refine Below.alloc ?_ (by first | omega | (simp; done) | (simp; omega)) _ | refine Below.trans ?_ (hb4.mono (by first | omega | (simp; done) | (simp; omega))) | refine Below.trans ?_ (hb3.mono (by first | omega | (simp; done) | (simp; omega))) | refine Below.trans ?_ (hB.mono (by first | omega | (simp; done) | (simp; omega))))
      | true =>
        rw [ga] at MA
        have MA := Lib.hid MA
        cases gf : fb p.f with
        | false =>
          have XS := Lib.hid (fun W : World => sqrt_form p.a p.f W (by rw [gf, Bool.false_and, Bool.false_and]))
          have XR := Lib.hid (fun W : World => rsqrt_form p.a p.f W (by rw [gf, Bool.false_and, Bool.false_and]))
          rw [gf] at MF
          have MF := Lib.hid MF
          clear ga gf
          go_wp2_with (first | (go_at_call 10; (with_reducible refine (MA.out _).mono ?_); rintro e w' ⟨rfl, rfl⟩) | (go_at_call 11; (with_reducible refine (MF.out _).mono ?_); rintro e w' ⟨rfl, rfl⟩) | (go_at_call 49; (with_reducible refine (num3_any _ _).mono ?_); rintro e w' ⟨rfl, rfl⟩) | (go_at_call 47; (with_reducible refine (XS.out _).mono ?_); rintro e w3 ⟨rfl, hb3⟩; obtain ⟨e30, e31⟩ := p2_on (B := wr.heap.size) (p := p) hb3 (by first | exact ⟨by assumption, by assumption⟩ | (simp [go_sem, *]; done) | fail); have s3 : wr.heap.size < w3.heap.size := World.block_lt_of_cell? _ _ e30; have t3 : wr.heap.size < w3.heap.size + 1 := Nat.lt_succ_of_lt s3; have q3 := hb3.size; (try simp at q3); (try clear e10 e11 s1 t1); (try clear e20 e21 s2 t2)) | (go_at_call 48; (with_reducible refine (XR.out _).mono ?_); rintro e w4 ⟨rfl, hb4⟩; obtain ⟨e40, e41⟩ := p2_on (B := wr.heap.size) (p := p) hb4 (by first | exact ⟨by assumption, by assumption⟩ | (simp [go_sem, *]; done) | fail); have s4 : wr.heap.size < w4.heap.size := World.block_lt_of_cell? _ _ e40; have t4 : wr.heap.size < w4.heap.size + 1 := Nat.lt_succ_of_lt s4; have q4 := hb4.size; (try simp at q4); (try clear e10 e11 s1 t1); (try clear e20 e21 s2 t2); (try clear e30 e31 s3 t3)))
          refine ⟨⟨k + 1, by omega, by go_num, ?_⟩, by simp [intOf]; omega⟩
          repeat (first | exact Below.refl _ _ | assumption | apply Below.drew | refine Below.setCell ?_ (by first | omega | (simp; done) | (simp; omega)) _ | refine Below.alloc ?_ (by first | omega | (simp; done) | (simp; omega)) _ | refine Below.trans ?_ (hb4.mono (by first | omega | (simp; done) | (simp; omega))) | refine Below.trans ?_ (hb3.mono (by first | omega | (simp; done) | (simp; omega))) | refine Below.trans ?_ (hB.mono (by first | omega | (simp; done) | (simp; omega))))
        | true =>
          rw [gf] at MF
          have MF := Lib.hid MF
          by_cases g0 : p.a < 0
          · have g9 : decide (0 ≤ p.a) = false := decide_eq_false (by omega)
            have XS := Lib.hid (fun W : World => sqrt_form p.a p.f W (by rw [g9, Bool.and_false, Bool.false_and]))
            have XR := Lib.hid (fun W : World => rsqrt_form p.a p.f W (by rw [g9, Bool.and_false, Bool.false_and]))
            clear ga gf g9
            go_wp2_with (first | (go_at_call 10; (with_reducible refine (MA.out _).mono ?_); rintro e w' ⟨rfl, rfl⟩) | (go_at_call 11; (with_reducible refine (MF.out _).mono ?_); rintro e w' ⟨rfl, rfl⟩) | (go_at_call 49; (with_reducible refine (num3_any _ _).mono ?_); rintro e w' ⟨rfl, rfl⟩) | (go_at_call 47; (with_reducible refine (XS.out _).mono ?_); rintro e w3 ⟨rfl, hb3⟩; obtain ⟨e30, e31⟩ := p2_on (B := wr.heap.size) (p := p) hb3 (by first | exact ⟨by assumption, by assumption⟩ | (simp [go_sem, *]; done) | fail); have s3 : wr.heap.size < w3.heap.size := World.block_lt_of_cell? _ _ e30; have t3 : wr.heap.size < w3.heap.size + 1 := Nat.lt_succ_of_lt s3; have q3 := hb3.size; (try simp at q3); (try clear e10 e11 s1 t1); (try clear e20 e21 s2 t2)) | (go_at_call 48; (with_reducible refine (XR.out _).mono ?_); rintro e w4 ⟨rfl, hb4⟩; obtain ⟨e40, e41⟩ := p2_on (B := wr.heap.size) (p := p) hb4 (by first | exact ⟨by assumption, by assumption⟩ | (simp [go_sem, *]; done) | fail); have s4 : wr.heap.size < w4.heap.size := World.block_lt_of_cell? _ _ e40; have t4 : wr.heap.size < w4.heap.size + 1 := Nat.lt_succ_of_lt s4; have q4 := hb4.size; (try simp at q4); (try clear e10 e11 s1 t1); (try clear e20 e21 s2 t2); (try clear e30 e31 s3 t3)))
            refine ⟨⟨k + 1, by omega, by go_num, ?_⟩, by simp [intOf]; omega⟩
            repeat (first | exact Below.refl _ _ | assumption | apply Below.drew | refine Below.setCell ?_ (by first | omega | (simp; done) | (simp; omega)) _ | refine Below.alloc ?_ (by first | omega | (simp; done) | (simp; omega)) _ | refine Below.trans ?_ (hb4.mono (by first | omega | (simp; done) | (simp; omega))) | refine Below.trans ?_ (hb3.mono (by first | omega | (simp; done) | (simp; omega))) | refine Below.trans ?_ (hB.mono (by first | omega | (simp; done) | (simp; omega))))
          · obtain ⟨f0, f1⟩ := fb_bd gf
            obtain ⟨F, hF⟩ : ∃ F : Nat, p.f = (F : Int) := ⟨p.f.toNat, by omega⟩
            have gF : fb (F : Int) = true := by rw [← hF]; exact gf
            have F32 : F ≤ 32 := by omega
            obtain ⟨x, hx⟩ := nr_ex (n := p.a * 2 ^ (F + 2)) (Int.mul_nonneg (by omega) (Int.le_of_lt (Int.pow_pos (by decide))))
            have wx := sqrt_wd gF (by omega) ga hx
            have XS := Lib.hid (fun W : World => sqrt_any p.a x F W gF (by omega) ga hx)
            have RS := Lib.hid (show ∀ W : World, Calls Try.prog 45 #[.int .i64 p.a, .int .i64 F] W fun e w' => e = .returned (.tuple #[.int .i64 x, .int .i64 0]) ∧ Below W.heap.size W w' from fun W => by have := r2sqrt_any p.a x F W (by omega) ga F32 hx; rw [tw_in wx, te_in wx] at this; exact this)
            rw [← hF] at XS RS
            by_cases gz : p.a = 0
            · have XR := Lib.hid (fun W : World => rsqrt_zero p.a F W gF gz)
              rw [← hF] at XR
              clear hx wx gF F32 hF ga gf
              have gz' : (p.a == 0) = true := beq_iff_eq.2 gz
              have GZ := Lib.hid gz
              clear gz
              go_wp2_with (first | (go_at_call 45; (with_reducible refine (RS.out _).mono ?_); rintro e w1 ⟨rfl, hb1⟩; obtain ⟨e10, e11⟩ := p2_on (B := wr.heap.size) (p := p) hb1 (by first | exact ⟨by assumption, by assumption⟩ | (simp [go_sem, *]; done) | fail); have s1 : wr.heap.size < w1.heap.size := World.block_lt_of_cell? _ _ e10; have t1 : wr.heap.size < w1.heap.size + 1 := Nat.lt_succ_of_lt s1; have q1 := hb1.size; (try simp at q1)) | (go_at_call 10; (with_reducible refine (MA.out _).mono ?_); rintro e w' ⟨rfl, rfl⟩) | (go_at_call 11; (with_reducible refine (MF.out _).mono ?_); rintro e w' ⟨rfl, rfl⟩) | (go_at_call 49; (with_reducible refine (num3_any _ _).mono ?_); rintro e w' ⟨rfl, rfl⟩) | (go_at_call 47; (with_reducible refine (XS.out _).mono ?_); rintro e w3 ⟨rfl, hb3⟩; obtain ⟨e30, e31⟩ := p2_on (B := wr.heap.size) (p := p) hb3 (by first | exact ⟨by assumption, by assumption⟩ | (simp [go_sem, *]; done) | fail); have s3 : wr.heap.size < w3.heap.size := World.block_lt_of_cell? _ _ e30; have t3 : wr.heap.size < w3.heap.size + 1 := Nat.lt_succ_of_lt s3; have q3 := hb3.size; (try simp at q3); (try clear e10 e11 s1 t1); (try clear e20 e21 s2 t2)) | (go_at_call 48; (with_reducible refine (XR.out _).mono ?_); rintro e w4 ⟨rfl, hb4⟩; obtain ⟨e40, e41⟩ := p2_on (B := wr.heap.size) (p := p) hb4 (by first | exact ⟨by assumption, by assumption⟩ | (simp [go_sem, *]; done) | fail); have s4 : wr.heap.size < w4.heap.size := World.block_lt_of_cell? _ _ e40; have t4 : wr.heap.size < w4.heap.size + 1 := Nat.lt_succ_of_lt s4; have q4 := hb4.size; (try simp at q4); (try clear e10 e11 s1 t1); (try clear e20 e21 s2 t2); (try clear e30 e31 s3 t3)))
              refine ⟨⟨k + 1, by omega, by go_num, ?_⟩, by simp [intOf]; omega⟩
              repeat (first | exact Below.refl _ _ | assumption | apply Below.drew | refine Below.setCell ?_ (by first | omega | (simp; done) | (simp; omega)) _ | refine Below.alloc ?_ (by first | omega | (simp; done) | (simp; omega)) _ | refine Below.trans ?_ (hb4.mono (by first | omega | (simp; done) | (simp; omega))) | refine Below.trans ?_ (hb3.mono (by first | omega | (simp; done) | (simp; omega))) | refine Below.trans ?_ (hb1.mono (by first | omega | (simp; done) | (simp; omega))) | refine Below.trans ?_ (hB.mono (by first | omega | (simp; done) | (simp; omega))))
            · obtain ⟨y, hy⟩ := nr_ex (n := cl (2 ^ (3 * F + 2)) p.a) (cl_is (Int.le_of_lt (Int.pow_pos (by decide))) (by omega)).2.2.1
              have XR := Lib.hid (fun W : World => rsqrt_any p.a y _ F W gF (by omega) ga rfl hy)
              have RR := Lib.hid (fun W : World => r2rsqrt_any p.a y F W (by omega) ga F32 hy)
              rw [← hF] at XR RR
              generalize tw y = v9 at *
              generalize te y = z9 at *
              clear hx wx hy gF F32 hF ga gf
              have gz' : (p.a == 0) = false := beq_eq_false_iff_ne.2 gz
              clear gz
              go_wp2_with (first | (go_at_call 45; (with_reducible refine (RS.out _).mono ?_); rintro e w1 ⟨rfl, hb1⟩; obtain ⟨e10, e11⟩ := p2_on (B := wr.heap.size) (p := p) hb1 (by first | exact ⟨by assumption, by assumption⟩ | (simp [go_sem, *]; done) | fail); have s1 : wr.heap.size < w1.heap.size := World.block_lt_of_cell? _ _ e10; have t1 : wr.heap.size < w1.heap.size + 1 := Nat.lt_succ_of_lt s1; have q1 := hb1.size; (try simp at q1)) | (go_at_call 46; (with_reducible refine (RR.out _).mono ?_); rintro e w2 ⟨rfl, hb2⟩; obtain ⟨e20, e21⟩ := p2_on (B := wr.heap.size) (p := p) hb2 (by first | exact ⟨by assumption, by assumption⟩ | (simp [go_sem, *]; done) | fail); have s2 : wr.heap.size < w2.heap.size := World.block_lt_of_cell? _ _ e20; have t2 : wr.heap.size < w2.heap.size + 1 := Nat.lt_succ_of_lt s2; have q2 := hb2.size; (try simp at q2); (try clear e10 e11 s1 t1)) | (go_at_call 10; (with_reducible refine (MA.out _).mono ?_); rintro e w' ⟨rfl, rfl⟩) | (go_at_call 11; (with_reducible refine (MF.out _).mono ?_); rintro e w' ⟨rfl, rfl⟩) | (go_at_call 49; (with_reducible refine (num3_any _ _).mono ?_); rintro e w' ⟨rfl, rfl⟩) | (go_at_call 47; (with_reducible refine (XS.out _).mono ?_); rintro e w3 ⟨rfl, hb3⟩; obtain ⟨e30, e31⟩ := p2_on (B := wr.heap.size) (p := p) hb3 (by first | exact ⟨by assumption, by assumption⟩ | (simp [go_sem, *]; done) | fail); have s3 : wr.heap.size < w3.heap.size := World.block_lt_of_cell? _ _ e30; have t3 : wr.heap.size < w3.heap.size + 1 := Nat.lt_succ_of_lt s3; have q3 := hb3.size; (try simp at q3); (try clear e10 e11 s1 t1); (try clear e20 e21 s2 t2)) | (go_at_call 48; (with_reducible refine (XR.out _).mono ?_); rintro e w4 ⟨rfl, hb4⟩; obtain ⟨e40, e41⟩ := p2_on (B := wr.heap.size) (p := p) hb4 (by first | exact ⟨by assumption, by assumption⟩ | (simp [go_sem, *]; done) | fail); have s4 : wr.heap.size < w4.heap.size := World.block_lt_of_cell? _ _ e40; have t4 : wr.heap.size < w4.heap.size + 1 := Nat.lt_succ_of_lt s4; have q4 := hb4.size; (try simp at q4); (try clear e10 e11 s1 t1); (try clear e20 e21 s2 t2); (try clear e30 e31 s3 t3)))
              refine ⟨⟨k + 1, by omega, by go_num, ?_⟩, by simp [intOf]; omega⟩
              repeat (first | exact Below.refl _ _ | assumption | apply Below.drew | refine Below.setCell ?_ (by first | omega | (simp; done) | (simp; omega)) _ | refine Below.alloc ?_ (by first | omega | (simp; done) | (simp; omega)) _ | refine Below.trans ?_ (hb4.mono (by first | omega | (simp; done) | (simp; omega))) | refine Below.trans ?_ (hb3.mono (by first | omega | (simp; done) | (simp; omega))) | refine Below.trans ?_ (hb2.mono (by first | omega | (simp; done) | (simp; omega))) | refine Below.trans ?_ (hb1.mono (by first | omega | (simp; done) | (simp; omega))) | refine Below.trans ?_ (hB.mono (by first | omega | (simp; done) | (simp; omega))))

    · by_cases g1 : k < len
      · have g2 : 25 ≤ k := by omega
        clear g
        go_wp2_with (go_at_call 50; (with_reducible refine (rwakes_any _).mono ?_); rintro e w9 ⟨rfl, hb9⟩)
        go_ret
        exact ⟨rfl, hB.trans (hb9.mono hBs)⟩
      · have g2 : len ≤ k := by omega
        clear g g1
        go_wp2_with (go_at_call 50; (with_reducible refine (rwakes_any _).mono ?_); rintro e w9 ⟨rfl, hb9⟩)
        go_ret
        exact ⟨rfl, hB.trans (hb9.mono hBs)⟩
end Go.Proofs.Ytdbgooobbemklaa
