/-
  FxSums' loop.
-/
import Derived.Test.YtofihgchokghhaaFxC
namespace Go.Proofs.Ytofihgchokghhaa
open Go.RowKit
theorem tw_turn (a b : Int) : wrap64 (-tw (b - a)) = tw (a - b) ∧ te (b - a) = te (a - b) := by
  cases g : wd (a - b) with
  | true =>
    have h := wd_bd g
    have k : wd (b - a) = true := wd_mk (by omega)
    rw [tw_in g, tw_in k, te_in g, te_in k]
    exact ⟨(IntWalk.wrap64_in _ ⟨by omega, by omega⟩).trans (by omega), rfl⟩
  | false =>
    have h := wd_no g
    have k : wd (b - a) = false := by
      unfold wd; simp only [decide_eq_false_iff_not]; omega
    rw [tw_out g, tw_out k, te_out g, te_out k]
    exact ⟨(IntWalk.wrap64_in _ ⟨by decide, by decide⟩).trans (by decide), rfl⟩

set_option maxRecDepth 100000 in
set_option maxHeartbeats 8000000 in
theorem sums_any (b off len cap : Nat) (es : Nat → Fl) (w : World) (_hl : len ≤ 9223372036854775807) (hb : b < w.heap.size) (hT : ∀ i, i < len → FlAt w b (off + i * 8) (es i)) (hok : ∀ i, i < len → (es i).ok) :
    Calls Try.prog 8 #[.slice (some ⟨b, off, none⟩) len cap] w fun e w' => e = .returned (.bool true) ∧ Below w.heap.size w w' := by
  have HT := Lib.hid (And.intro hT hok)
  clear hT hok
  go_enter Try.func8, Try.ntmps8
  go_wp2
  go_loopw [3] (fun s3 wr => ∃ k : Nat, k ≤ len ∧ s3 = .int .i64 k ∧ Below w.heap.size w wr) (fun s3 _ => len - (intOf s3).toNat)
  case atStart => exact ⟨0, Nat.zero_le _, rfl, Below.refl _ _⟩
  case round =>
    obtain ⟨k, hk, rfl, hB⟩ := hrel
    have hBs := hB.size
    by_cases g : k < len ∧ k < 30
    · obtain ⟨g1, g2⟩ := g
      obtain ⟨t1, t2, t3, t4, t5, t6, t7, t8⟩ := (HT.out.1 k g1).below hB hb
      have HO := Lib.hid (HT.out.2 k g1)
      generalize es k = p at *
      have MA := fun W : World => may_any p.a W
      have MB := fun W : World => may_any p.b W
      cases ga : wd p.a with
      | false =>
        rw [ga] at MA
        have MA := Lib.hid MA
        clear ga MB
        go_wp2_with (first | (go_at_call 27; (with_reducible refine (MA.out _).mono ?_); rintro e w' ⟨rfl, rfl⟩))
        refine ⟨⟨k + 1, by omega, by go_num, ?_⟩, by simp [intOf]; omega⟩
        repeat (first | exact Below.refl _ _ | assumption | apply Below.drew | refine Below.setCell ?_ (by first | omega | (simp; done) | (simp; omega)) _ | refine Below.alloc ?_ (by first | omega | (simp; done) | (simp; omega)) _)
      | true =>
      cases gb : wd p.b with
      | false =>
        rw [ga] at MA
        rw [gb] at MB
        have MA := Lib.hid MA
        have MB := Lib.hid MB
        clear ga gb
        go_wp2_with (first | (go_at_call 27; (with_reducible refine (MA.out _).mono ?_); rintro e w' ⟨rfl, rfl⟩) | (go_at_call 27; (with_reducible refine (MB.out _).mono ?_); rintro e w' ⟨rfl, rfl⟩))
        refine ⟨⟨k + 1, by omega, by go_num, ?_⟩, by simp [intOf]; omega⟩
        repeat (first | exact Below.refl _ _ | assumption | apply Below.drew | refine Below.setCell ?_ (by first | omega | (simp; done) | (simp; omega)) _ | refine Below.alloc ?_ (by first | omega | (simp; done) | (simp; omega)) _)
      | true =>
        rw [ga] at MA
        rw [gb] at MB
        have MA := Lib.hid MA
        have MB := Lib.hid MB
        have A1 := fun W : World => fxadd_any p.a p.b W ga gb
        have A2 := fun W : World => fxadd_any p.b p.a W gb ga
        rw [Int.add_comm p.b p.a] at A2
        have S1 := Lib.hid (fun W : World => fxsub_any p.a p.b W ga gb)
        have S2 := fun W : World => fxsub_any p.b p.a W gb ga
        have gn : wd (-p.a) = true := wd_mk (by have := wd_bd ga; omega)
        have N1 := fun W : World => fxneg_any p.a W ga
        have N2 := fun W : World => fxneg_any (-p.a) W gn
        rw [tw_in gn, te_in gn] at N1
        rw [Int.neg_neg, tw_in ga, te_in ga] at N2
        have N1 := Lib.hid N1
        have N2 := Lib.hid N2
        obtain ⟨y1, y2⟩ := tw_turn p.a p.b
        rw [y2] at S2
        have S2 := Lib.hid S2
        clear gn
        generalize tw (p.b - p.a) = c at *
        generalize tw (p.a - p.b) = d at *
        generalize te (p.a - p.b) = ed at *
        generalize -p.a = na at *
        cases gs : wd (p.a + p.b) with
        | true =>
          have S3 := fun W : World => fxsub_any (p.a + p.b) p.b W gs gb
          rw [Int.add_sub_cancel, tw_in ga, te_in ga] at S3
          rw [tw_in gs, te_in gs] at A1 A2
          have C1 := fun W : World => check_any (p.a + p.b) W
          rw [gs] at C1
          have C1 := Lib.hid C1
          have S3 := Lib.hid S3
          have A1 := Lib.hid A1
          have A2 := Lib.hid A2
          clear ga gb gs
          generalize p.a + p.b = s at *
          go_wp2_with (first | (go_at_call 27; (with_reducible refine (MA.out _).mono ?_); rintro e w' ⟨rfl, rfl⟩) | (go_at_call 27; (with_reducible refine (MB.out _).mono ?_); rintro e w' ⟨rfl, rfl⟩) | (go_at_call 29; (with_reducible refine (num2_any _ _).mono ?_); rintro e w' ⟨rfl, rfl⟩) | (go_at_call 38; (with_reducible refine (A1.out _).mono ?_); rintro e w' ⟨rfl, rfl⟩) | (go_at_call 38; (with_reducible refine (A2.out _).mono ?_); rintro e w' ⟨rfl, rfl⟩) | (go_at_call 40; (with_reducible refine (S3.out _).mono ?_); rintro e w' ⟨rfl, rfl⟩) | (go_at_call 40; (with_reducible refine (S1.out _).mono ?_); rintro e w' ⟨rfl, rfl⟩) | (go_at_call 40; (with_reducible refine (S2.out _).mono ?_); rintro e w' ⟨rfl, rfl⟩) | (go_at_call 41; (with_reducible refine (N1.out _).mono ?_); rintro e w' ⟨rfl, rfl⟩) | (go_at_call 41; (with_reducible refine (N2.out _).mono ?_); rintro e w' ⟨rfl, rfl⟩) | (go_at_call 30; (with_reducible refine (C1.out _).mono ?_); rintro e w' ⟨rfl, rfl⟩))
          refine ⟨⟨k + 1, by omega, by go_num, ?_⟩, by simp [intOf]; omega⟩
          repeat (first | exact Below.refl _ _ | assumption | apply Below.drew | refine Below.setCell ?_ (by first | omega | (simp; done) | (simp; omega)) _ | refine Below.alloc ?_ (by first | omega | (simp; done) | (simp; omega)) _)
        | false =>
          rw [tw_out gs, te_out gs] at A1 A2
          have C1 := fun W : World => check_any 0 W
          rw [show wd 0 = true from rfl] at C1
          have C1 := Lib.hid C1
          have A1 := Lib.hid A1
          have A2 := Lib.hid A2
          clear ga gb gs
          go_wp2_with (first | (go_at_call 27; (with_reducible refine (MA.out _).mono ?_); rintro e w' ⟨rfl, rfl⟩) | (go_at_call 27; (with_reducible refine (MB.out _).mono ?_); rintro e w' ⟨rfl, rfl⟩) | (go_at_call 29; (with_reducible refine (num2_any _ _).mono ?_); rintro e w' ⟨rfl, rfl⟩) | (go_at_call 38; (with_reducible refine (A1.out _).mono ?_); rintro e w' ⟨rfl, rfl⟩) | (go_at_call 38; (with_reducible refine (A2.out _).mono ?_); rintro e w' ⟨rfl, rfl⟩) | (go_at_call 40; (with_reducible refine (S1.out _).mono ?_); rintro e w' ⟨rfl, rfl⟩) | (go_at_call 40; (with_reducible refine (S2.out _).mono ?_); rintro e w' ⟨rfl, rfl⟩) | (go_at_call 41; (with_reducible refine (N1.out _).mono ?_); rintro e w' ⟨rfl, rfl⟩) | (go_at_call 41; (with_reducible refine (N2.out _).mono ?_); rintro e w' ⟨rfl, rfl⟩) | (go_at_call 30; (with_reducible refine (C1.out _).mono ?_); rintro e w' ⟨rfl, rfl⟩))
          refine ⟨⟨k + 1, by omega, by go_num, ?_⟩, by simp [intOf]; omega⟩
          repeat (first | exact Below.refl _ _ | assumption | apply Below.drew | refine Below.setCell ?_ (by first | omega | (simp; done) | (simp; omega)) _ | refine Below.alloc ?_ (by first | omega | (simp; done) | (simp; omega)) _)
    · by_cases g1 : k < len
      · have g2 : 30 ≤ k := by omega
        clear g
        go_wp2_with (go_at_call 46; (with_reducible refine (fwakes_any _).mono ?_); rintro e w9 ⟨rfl, hb9⟩)
        go_ret
        exact ⟨rfl, hB.trans (hb9.mono hBs)⟩
      · have g2 : len ≤ k := by omega
        clear g g1
        go_wp2_with (go_at_call 46; (with_reducible refine (fwakes_any _).mono ?_); rintro e w9 ⟨rfl, hb9⟩)
        go_ret
        exact ⟨rfl, hB.trans (hb9.mono hBs)⟩
end Go.Proofs.Ytofihgchokghhaa
