/-
  ShapeAll's loop.
-/
import Derived.Test.YteplhlmdaabpaaaSp
import Derived.Test.YteplhlmdaabpaaaShG
namespace Go.Proofs.Yteplhlmdaabpaaa
open Go.RowKit

set_option maxRecDepth 100000 in
set_option maxHeartbeats 8000000 in
theorem shall_any (b off len cap : Nat) (es : Nat → Tw) (w : World) (_hl : len ≤ 9223372036854775807) (hb : b < w.heap.size) (hT : ∀ i, i < len → TwAt w b (off + i * 4) (es i)) (hok : ∀ i, i < len → (es i).ok w) :
    Calls Try.prog 6 #[.slice (some ⟨b, off, none⟩) len cap] w fun e w' => e = .returned (.bool true) ∧ Below w.heap.size w w' := by
  have HT := Lib.hid (And.intro hT hok)
  clear hT hok
  go_enter Try.func6, Try.ntmps6
  go_wp2
  go_loopw [3] (fun s3 wr => ∃ k : Nat, k ≤ len ∧ s3 = .int .i64 k ∧ Below w.heap.size w wr) (fun s3 _ => len - (intOf s3).toNat)
  case atStart => exact ⟨0, Nat.zero_le _, rfl, Below.refl _ _⟩
  case round =>
    obtain ⟨k, hk, rfl, hB⟩ := hrel
    have hBs := hB.size
    by_cases g : k < len ∧ k < 20
    · obtain ⟨g1, g2⟩ := g
      obtain ⟨t1, t2, t3, t4⟩ := (HT.out.1 k (by omega)).below hB hb
      obtain ⟨hS, hT, hI, lS, lT, lI, n0, n1⟩ := HT.out.2 k (by omega)
      replace hS := hS.below hB
      replace hT := hT.below hB
      replace hI := hI.below hB
      generalize es k = p at *
      obtain ⟨S, T, I, s, t, i, n⟩ := p
      simp only at t1 t2 t3 t4 hS hT hI lS lT lI n0 n1
      obtain ⟨oS, cS, rfl, _, _⟩ := id hS
      obtain ⟨oT, cT, rfl, _, _⟩ := id hT
      obtain ⟨oI, cI, rfl, _, _⟩ := id hI
      cases lg : (decide (12 < s.length) || decide (12 < t.length) || decide (12 < i.length)) with
      | true =>
        have LG := Lib.hid (fun W => long_below oS oT oI s.length t.length i.length cS cT cI n W lS lT lI true lg.symm)
        have O0 := Lib.hid (On.start wr (.slice oS s.length cS) (.slice oT t.length cT) (.slice oI i.length cI) n 25)
        clear lg hS hT hI
        go_wp2_with (go_at_call 8; (with_reducible refine (LG.out _).mono ?_); rintro e w1 ⟨rfl, hb1⟩; have O1 := Lib.hid (O0.out.next hb1); obtain ⟨⟨x10, x11, x12, x13⟩, _, z1⟩ := O1.out)
        go_ret
        exact ⟨rfl, hB.trans (O1.out.below.mono hBs)⟩
      | false =>
        have LG := Lib.hid (fun W => long_below oS oT oI s.length t.length i.length cS cT cI n W lS lT lI false lg.symm)
        simp only [Bool.or_eq_false_iff, decide_eq_false_iff_not, Nat.not_lt] at lg
        obtain ⟨⟨ls, lt⟩, li⟩ := lg
        have O0 := Lib.hid (On.start wr (.slice oS s.length cS) (.slice oT t.length cT) (.slice oI i.length cI) n 25)
        have KM := Lib.hid (fun (W : World) (h : Hid (On wr (.slice oS s.length cS) (.slice oT t.length cT) (.slice oI i.length cI) n W)) => rmay_any _ s W (hS.below h.out.below) (by omega))
        have KG : Hid (∀ (N m : Nat), N = (if may s then (prod s).toNat else 0) → m ≤ 65537 → ∀ (W : World) (h : Hid (On wr (.slice oS s.length cS) (.slice oT t.length cT) (.slice oI i.length cI) n W)), Calls Try.prog 31 #[.slice oS s.length cS, .int .i64 m] W fun e w' => e = .returned (.int .i64 ((min m N : Nat) : Int)) ∧ Below W.heap.size W w') := fun N m hN hm W h => gone_any _ s m W (hS.below h.out.below) ls hm N hN
        cases ms : may s with
        | false =>
          have e0 : n % 18446744073709551616 % 1 = 0 := by omega
          have KW := Lib.hid (fun W => win_any n 1 W (by decide) (by decide))
          rw [e0] at KW
          have K1 := Lib.hid (KG.out 0 1 (by rw [ms]; rfl) (by decide))
          have K2 := Lib.hid (KG.out 0 0 (by rw [ms]; rfl) (by decide))
          simp only [Int.natCast_one, Int.natCast_zero, Nat.min_zero] at K1 K2
          rw [ms] at KM
          clear hS hT hI ms KG e0
          go_wp2_with (first | (go_at_call 8; (with_reducible refine (LG.out _).mono ?_); rintro e w1 ⟨rfl, hb1⟩; have O1 := Lib.hid (O0.out.next hb1); obtain ⟨⟨x10, x11, x12, x13⟩, _, z1⟩ := O1.out) | (go_at_call 9; (with_reducible refine (KM.out _ O1).mono ?_); rintro e w' ⟨rfl, rfl⟩) | (go_at_call 31; (with_reducible refine (K1.out _ O1).mono ?_); rintro e w2 ⟨rfl, hb2⟩; have O2 := Lib.hid (O1.out.next hb2); obtain ⟨⟨x20, x21, x22, x23⟩, _, z2⟩ := O2.out) | (go_at_call 13; (with_reducible refine (KW.out _).mono ?_); rintro e w' ⟨rfl, rfl⟩) | (go_at_call 31; (with_reducible refine (K2.out _ O2).mono ?_); rintro e w3 ⟨rfl, hb3⟩; have O3 := Lib.hid (O2.out.next hb3); obtain ⟨⟨x30, x31, x32, x33⟩, _, z3⟩ := O3.out))
          refine ⟨⟨k + 1, by omega, by go_num, hB.trans (O3.out.below.mono hBs)⟩, by simp [intOf]; omega⟩
        | true =>
          have mp := may_prod ms
          have rp := rct_may ms
          obtain ⟨N, hN⟩ : ∃ N : Nat, (N : Int) = prod s := ⟨(prod s).toNat, by omega⟩
          have hN2 : N = (if may s then (prod s).toNat else 0) := by rw [ms]; simp; omega
          have KO := Lib.hid (fun (W : World) (h : Hid (On wr (.slice oS s.length cS) (.slice oT t.length cT) (.slice oI i.length cI) n W)) => rcount_any _ s W (hS.below h.out.below) (may_dms ms) (by omega))
          rw [rp, ← hN] at KO
          have n1' : 1 ≤ N := by omega
          have n2' : N ≤ 65536 := by omega
          obtain ⟨q, hq⟩ : ∃ q : Nat, (q : Int) = n % 18446744073709551616 % ((N : Int) + 1) := ⟨(n % 18446744073709551616 % ((N : Int) + 1)).toNat, by have := Int.emod_nonneg (n % 18446744073709551616) (show ((N : Int) + 1) ≠ 0 by omega); omega⟩
          have q1 : q ≤ N := by have := Int.emod_lt_of_pos (n % 18446744073709551616) (show 0 < ((N : Int) + 1) by omega); omega
          have KW := Lib.hid (fun W => win_any n ((N : Int) + 1) W (by omega) (by omega))
          rw [← hq] at KW
          have K1 := Lib.hid (KG.out N (N + 1) hN2 (by omega))
          have K2 := Lib.hid (KG.out N q hN2 (by omega))
          rw [show min (N + 1) N = N by omega, show ((N + 1 : Nat) : Int) = (N : Int) + 1 by omega] at K1
          rw [show min q N = q by omega] at K2
          rw [ms] at KM
          clear hS hT hI ms KG mp rp hN hN2 hq
          by_cases g3 : 2000 < N
          · have g3' : (2000 : Int) < (N : Int) := by omega
            go_wp2_with (first | (go_at_call 8; (with_reducible refine (LG.out _).mono ?_); rintro e w1 ⟨rfl, hb1⟩; have O1 := Lib.hid (O0.out.next hb1); obtain ⟨⟨x10, x11, x12, x13⟩, _, z1⟩ := O1.out) | (go_at_call 9; (with_reducible refine (KM.out _ O1).mono ?_); rintro e w' ⟨rfl, rfl⟩) | (go_at_call 19; (with_reducible refine (KO.out _ O1).mono ?_); rintro e w' ⟨rfl, rfl⟩))
            go_ret
            exact ⟨rfl, hB.trans (O1.out.below.mono hBs)⟩
          · have g3' : ¬ (2000 : Int) < (N : Int) := by omega
            go_wp2_with (first | (go_at_call 8; (with_reducible refine (LG.out _).mono ?_); rintro e w1 ⟨rfl, hb1⟩; have O1 := Lib.hid (O0.out.next hb1); obtain ⟨⟨x10, x11, x12, x13⟩, _, z1⟩ := O1.out) | (go_at_call 9; (with_reducible refine (KM.out _ O1).mono ?_); rintro e w' ⟨rfl, rfl⟩) | (go_at_call 19; (with_reducible refine (KO.out _ O1).mono ?_); rintro e w' ⟨rfl, rfl⟩) | (go_at_call 31; (with_reducible refine (K1.out _ O1).mono ?_); rintro e w2 ⟨rfl, hb2⟩; have O2 := Lib.hid (O1.out.next hb2); obtain ⟨⟨x20, x21, x22, x23⟩, _, z2⟩ := O2.out) | (go_at_call 13; (with_reducible refine (KW.out _).mono ?_); rintro e w' ⟨rfl, rfl⟩) | (go_at_call 31; (with_reducible refine (K2.out _ O2).mono ?_); rintro e w3 ⟨rfl, hb3⟩; have O3 := Lib.hid (O2.out.next hb3); obtain ⟨⟨x30, x31, x32, x33⟩, _, z3⟩ := O3.out))
            refine ⟨⟨k + 1, by omega, by go_num, hB.trans (O3.out.below.mono hBs)⟩, by simp [intOf]; omega⟩
    · by_cases g1 : k < len
      · have g2 : 20 ≤ k := by omega
        clear g
        go_wp2_with (go_at_call 18; (with_reducible refine (wakes6_any _).mono ?_); rintro e w9 ⟨rfl, hb9⟩)
        go_ret
        exact ⟨rfl, hB.trans (hb9.mono hBs)⟩
      · have g2 : len ≤ k := by omega
        clear g g1
        go_wp2_with (go_at_call 18; (with_reducible refine (wakes6_any _).mono ?_); rintro e w9 ⟨rfl, hb9⟩)
        go_ret
        exact ⟨rfl, hB.trans (hb9.mono hBs)⟩
end Go.Proofs.Yteplhlmdaabpaaa
