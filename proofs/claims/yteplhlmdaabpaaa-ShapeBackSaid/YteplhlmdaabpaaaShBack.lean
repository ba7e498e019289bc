/-
  ShapeBack's loop.
-/
import Derived.Test.YteplhlmdaabpaaaSp
namespace Go.Proofs.Yteplhlmdaabpaaa
open Go.RowKit

set_option maxRecDepth 100000 in
set_option maxHeartbeats 8000000 in
theorem shback_any (b off len cap : Nat) (es : Nat → Tw) (w : World) (_hl : len ≤ 9223372036854775807) (hb : b < w.heap.size) (hT : ∀ i, i < len → TwAt w b (off + i * 4) (es i)) (hok : ∀ i, i < len → (es i).ok w) :
    Calls Try.prog 7 #[.slice (some ⟨b, off, none⟩) len cap] w fun e w' => e = .returned (.bool true) ∧ Below w.heap.size w w' := by
  have HT := Lib.hid (And.intro hT hok)
  clear hT hok
  go_enter Try.func7, Try.ntmps7
  go_wp2
  go_loopw [3] (fun s3 wr => ∃ k : Nat, k ≤ len ∧ s3 = .int .i64 k ∧ Below w.heap.size w wr) (fun s3 _ => len - (intOf s3).toNat)
  case atStart => exact ⟨0, Nat.zero_le _, rfl, Below.refl _ _⟩
  case round =>
    obtain ⟨k, hk, rfl, hB⟩ := hrel
    have hBs := hB.size
    by_cases g : k < len ∧ k < 20
    · obtain ⟨g1, g2⟩ := g
      obtain ⟨t1, t2, t3, t4⟩ := (HT.out.1 k (by omega)).below hB hb
      obtain ⟨hS, hT, hI, lS, lT, lI, n0, n1⟩ := HT.out.2 k (by omega)
      replace hS := hS.below hB
      replace hT := hT.below hB
      replace hI := hI.below hB
      generalize es k = p at *
      obtain ⟨S, T, I, s, t, i, n⟩ := p
      simp only at t1 t2 t3 t4 hS hT hI lS lT lI n0 n1
      obtain ⟨oS, cS, rfl, _, _⟩ := id hS
      obtain ⟨oT, cT, rfl, _, _⟩ := id hT
      obtain ⟨oI, cI, rfl, _, _⟩ := id hI
      cases lg : (decide (12 < s.length) || decide (12 < t.length) || decide (12 < i.length)) with
      | true =>
        have LG := Lib.hid (fun W => long_below oS oT oI s.length t.length i.length cS cT cI n W lS lT lI true lg.symm)
        clear lg hS hT hI
        go_wp2_with (go_at_call 8; (with_reducible refine (LG.out _).mono ?_); rintro e w1 ⟨rfl, hb1⟩)
        go_ret
        exact ⟨rfl, hB.trans ((((Below.refl _ _).alloc (Nat.le_refl _) _).trans (hb1.mono (by simp))).mono hBs)⟩
      | false =>
        have LG := Lib.hid (fun W => long_below oS oT oI s.length t.length i.length cS cT cI n W lS lT lI false lg.symm)
        simp only [Bool.or_eq_false_iff, decide_eq_false_iff_not, Nat.not_lt] at lg
        obtain ⟨⟨ls, lt⟩, li⟩ := lg
        have O0 := Lib.hid (On.start wr (.slice oS s.length cS) (.slice oT t.length cT) (.slice oI i.length cI) n 25)
        have KM := Lib.hid (fun (W : World) (h : Hid (On wr (.slice oS s.length cS) (.slice oT t.length cT) (.slice oI i.length cI) n W)) => rmay_any _ s W (hS.below h.out.below) (by omega))
        cases ms : may s with
        | false =>
          have KC := Lib.hid (fun (W : World) (h : Hid (On wr (.slice oS s.length cS) (.slice oT t.length cT) (.slice oI i.length cI) n W)) => check_no _ s W (hS.below h.out.below) ms)
          rw [ms] at KM
          clear hS hT hI ms
          go_wp2_with (first | (go_at_call 8; (with_reducible refine (LG.out _).mono ?_); rintro e w1 ⟨rfl, hb1⟩; have O1 := Lib.hid (O0.out.next hb1); obtain ⟨⟨x10, x11, x12, x13⟩, _, z1⟩ := O1.out) | (go_at_call 12; (with_reducible refine (num6_any _ _).mono ?_); rintro e w' ⟨rfl, rfl⟩) | (go_at_call 21; (with_reducible refine (KC.out _ O1).mono ?_); rintro e w' ⟨rfl, rfl⟩))
          refine ⟨⟨k + 1, by omega, by go_num, hB.trans (O1.out.below.mono hBs)⟩, by simp [intOf]; omega⟩
        | true =>
          have mp := may_prod ms
          have hp := may_pos ms
          obtain ⟨m, hm⟩ : ∃ m, m = n % 18446744073709551616 % prod s := ⟨_, rfl⟩
          have m0 : 0 ≤ m := by rw [hm]; exact Int.emod_nonneg _ (by omega)
          have m1 : m < prod s := by rw [hm]; exact Int.emod_lt_of_pos _ (by omega)
          have KW := Lib.hid (fun W => win_any n (prod s) W (by omega) (by omega))
          rw [← hm] at KW
          have e0 : sxe s s = 0 := by unfold sxe; rw [ms]; exact (spe_self ms).1
          have e1 : sxv s s = s := by unfold sxv; rw [ms]; exact (spe_self ms).2
          have e2 : sxe s [1] = 0 := by
            unfold sxe
            rw [ms, if_pos (by decide)]
            by_cases h0 : s.length = 0
            · rw [List.eq_nil_of_length_eq_zero h0]; exact spe_nil
            · exact (spe_one ms (by omega)).1
          have e3 : 0 < s.length → sxv s [1] = s := by
            intro h0
            unfold sxv
            rw [ms, if_pos (by decide)]
            exact (spe_one ms h0).2
          have l3 := sxv_len s [1]
          have l4 := sxv_len s t
          have KC := Lib.hid (fun (W : World) (h : Hid (On wr (.slice oS s.length cS) (.slice oT t.length cT) (.slice oI i.length cI) n W)) => check_ok _ s W (hS.below h.out.below) ms)
          have KN := Lib.hid (fun (W : World) (h : Hid (On wr (.slice oS s.length cS) (.slice oT t.length cT) (.slice oI i.length cI) n W)) => count_ok _ s W (hS.below h.out.below) ms)
          have KA := Lib.hid (fun (W : World) (h : Hid (On wr (.slice oS s.length cS) (.slice oT t.length cT) (.slice oI i.length cI) n W)) => at_ok _ s m W (hS.below h.out.below) ms m0 m1)
          have KX : Hid (∀ (W : World) (h : Hid (On wr (.slice oS s.length cS) (.slice oT t.length cT) (.slice oI i.length cI) n W)) (g : Nat), Blk W g 3 (ints (atl s m)).toArray → Calls Try.prog 16 #[.slice oS s.length cS, .slice (some ⟨g, 0, none⟩) s.length s.length] W fun e w' => e = .returned (.tuple #[.int .i64 m, .int .i64 0]) ∧ W = w') := fun W h g hg => by
            have hl := Ld.of_blk hg (c := s.length) (by rw [atl_len]; exact Nat.le_refl _)
            rw [atl_len] at hl
            have := index_ok _ _ s (atl s m) W (hS.below h.out.below) hl ms (atl_inx s m hp m0 m1)
            rw [ix_atl s m hp m0 m1] at this
            exact this
          have KS := Lib.hid (fun (W : World) (h : Hid (On wr (.slice oS s.length cS) (.slice oT t.length cT) (.slice oI i.length cI) n W)) => spreadx_any _ _ s s W (hS.below h.out.below) (hS.below h.out.below))
          rw [e0, e1] at KS
          have KO := Lib.hid (fun (W : World) (h : Hid (On wr (.slice oS s.length cS) (.slice oT t.length cT) (.slice oI i.length cI) n W)) => spreadx_any _ (.slice (some ⟨W.heap.size, 0, none⟩) 1 1) s [1] (W.alloc (.cells #[.int .i64 1] 3)) (hS.below (h.out.alloc _).below) (Ld.of_blk (ls := [1]) (Blk.new _ _ _) (Nat.le_refl _)))
          rw [e2] at KO
          have KT := Lib.hid (fun (W : World) (h : Hid (On wr (.slice oS s.length cS) (.slice oT t.length cT) (.slice oI i.length cI) n W)) => spreadx_any _ _ s t W (hS.below h.out.below) (hT.below h.out.below))
          have KU := Lib.hid (fun (W : World) (h : Hid (On wr (.slice oS s.length cS) (.slice oT t.length cT) (.slice oI i.length cI) n W)) => spreadx_any _ _ t s W (hT.below h.out.below) (hS.below h.out.below))
          rw [sxe_sym t s, sxv_sym t s] at KU
          have KE := Lib.hid (fun (W : World) (h : Hid (On wr (.slice oS s.length cS) (.slice oT t.length cT) (.slice oI i.length cI) n W)) (v : Value) (hv : Ld W v s) => eqn_any v _ s s W hv (hS.below h.out.below) (by omega) (by omega))
          have KV := Lib.hid (fun (W : World) (v v' : Value) (hv : Ld W v (sxv s t)) (hv' : Ld W v' (sxv s t)) => eqn_any v v' (sxv s t) (sxv s t) W hv hv' (by omega) (by omega))
          rw [show decide (s = s) = true by simp] at KE
          rw [show decide (sxv s t = sxv s t) = true by simp] at KV
          rw [ms] at KM
          have E3 := Lib.hid e3
          obtain ⟨mp0, mp1⟩ := mp
          have cn : ¬ prod s < 1 := by omega
          generalize sxe s t = r at *
          generalize sxv s t = rv at *
          generalize sxv s [1] = u at *
          generalize prod s = P at *
          clear hS hT hI ms e0 e1 e2 e3 hm hp l3 l4
          by_cases h0 : s.length = 0
          · clear E3
            generalize s.length = L at *
            subst h0
            go_wp2_with (first | (go_at_call 8; (with_reducible refine (LG.out _).mono ?_); rintro e w1 ⟨rfl, hb1⟩; have O1 := Lib.hid (O0.out.next hb1); obtain ⟨⟨x10, x11, x12, x13⟩, _, z1⟩ := O1.out) | (go_at_call 12; (with_reducible refine (num6_any _ _).mono ?_); rintro e w' ⟨rfl, rfl⟩) | (go_at_call 21; (with_reducible refine (KC.out _ O1).mono ?_); rintro e w' ⟨rfl, rfl⟩) | (go_at_call 9; (with_reducible refine (KM.out _ O1).mono ?_); rintro e w' ⟨rfl, rfl⟩) | (go_at_call 10; (with_reducible refine (KN.out _ O1).mono ?_); rintro e w' ⟨rfl, rfl⟩) | (go_at_call 13; (with_reducible refine (KW.out _).mono ?_); rintro e w' ⟨rfl, rfl⟩) | (go_at_call 14; (with_reducible refine (KA.out _ O1).mono ?_); rintro e w2 ⟨rfl, hk2, hb2⟩; have O2 := Lib.hid (O1.out.next hb2); obtain ⟨⟨x20, x21, x22, x23⟩, _, z2⟩ := O2.out; have KY := Lib.hid (KX.out w2 O2 _ hk2); clear hk2) | (go_at_call 16; (with_reducible refine (KY.out).mono ?_); rintro e w' ⟨rfl, rfl⟩) | (go_at_call 27; (with_reducible refine (KS.out _ O2).mono ?_); rintro e w3 ⟨v3, rfl, hv3, hb3⟩; have O3 := Lib.hid (O2.out.next hb3); obtain ⟨⟨x30, x31, x32, x33⟩, _, z3⟩ := O3.out; have V3 := Lib.hid hv3; clear hv3) | (go_at_call 27; (with_reducible refine (KO.out _ O3).mono ?_); rintro e w4 ⟨v4, rfl, hv4, hb4⟩; have O4 := Lib.hid ((O3.out.alloc _).next hb4); obtain ⟨⟨x40, x41, x42, x43⟩, _, z4⟩ := O4.out; have V4 := Lib.hid hv4; have V5 := Lib.hid (V3.out.below (((Below.refl _ _).alloc (Nat.le_refl _) _).trans (hb4.mono (by simp)))); clear hv4) | (go_at_call 17; (with_reducible refine (KE.out _ O4 _ V5.out).mono ?_); rintro e w5 ⟨rfl, hb5⟩; have O5 := Lib.hid (O4.out.next hb5); obtain ⟨⟨x50, x51, x52, x53⟩, _, z5⟩ := O5.out; have V6 := Lib.hid (V4.out.below hb5)) | (go_at_call 27; (with_reducible refine (KT.out _ O5).mono ?_); rintro e w7 ⟨v7, rfl, hv7, hb7⟩; have O7 := Lib.hid (O5.out.next hb7); obtain ⟨⟨x70, x71, x72, x73⟩, _, z7⟩ := O7.out; have V7 := Lib.hid hv7; clear hv7) | (go_at_call 27; (with_reducible refine (KU.out _ O7).mono ?_); rintro e w8 ⟨v8, rfl, hv8, hb8⟩; have O8 := Lib.hid (O7.out.next hb8); obtain ⟨⟨x80, x81, x82, x83⟩, _, z8⟩ := O8.out; have V8 := Lib.hid hv8; have V9 := Lib.hid (V7.out.below hb8); clear hv8) | (go_at_call 17; (with_reducible refine (KV.out _ _ _ V9.out V8.out).mono ?_); rintro e w9 ⟨rfl, hb9⟩; have O9 := Lib.hid (O8.out.next hb9); obtain ⟨⟨x90, x91, x92, x93⟩, _, z9⟩ := O9.out))
            refine ⟨⟨k + 1, by omega, by go_num, hB.trans (O9.out.below.mono hBs)⟩, by simp [intOf]; omega⟩
          · have hu := E3.out (by omega)
            subst hu
            have h0' : (0 : Int) < (u.length : Int) := by omega
            clear E3
            go_wp2_with (first | (go_at_call 8; (with_reducible refine (LG.out _).mono ?_); rintro e w1 ⟨rfl, hb1⟩; have O1 := Lib.hid (O0.out.next hb1); obtain ⟨⟨x10, x11, x12, x13⟩, _, z1⟩ := O1.out) | (go_at_call 12; (with_reducible refine (num6_any _ _).mono ?_); rintro e w' ⟨rfl, rfl⟩) | (go_at_call 21; (with_reducible refine (KC.out _ O1).mono ?_); rintro e w' ⟨rfl, rfl⟩) | (go_at_call 9; (with_reducible refine (KM.out _ O1).mono ?_); rintro e w' ⟨rfl, rfl⟩) | (go_at_call 10; (with_reducible refine (KN.out _ O1).mono ?_); rintro e w' ⟨rfl, rfl⟩) | (go_at_call 13; (with_reducible refine (KW.out _).mono ?_); rintro e w' ⟨rfl, rfl⟩) | (go_at_call 14; (with_reducible refine (KA.out _ O1).mono ?_); rintro e w2 ⟨rfl, hk2, hb2⟩; have O2 := Lib.hid (O1.out.next hb2); obtain ⟨⟨x20, x21, x22, x23⟩, _, z2⟩ := O2.out; have KY := Lib.hid (KX.out w2 O2 _ hk2); clear hk2) | (go_at_call 16; (with_reducible refine (KY.out).mono ?_); rintro e w' ⟨rfl, rfl⟩) | (go_at_call 27; (with_reducible refine (KS.out _ O2).mono ?_); rintro e w3 ⟨v3, rfl, hv3, hb3⟩; have O3 := Lib.hid (O2.out.next hb3); obtain ⟨⟨x30, x31, x32, x33⟩, _, z3⟩ := O3.out; have V3 := Lib.hid hv3; clear hv3) | (go_at_call 27; (with_reducible refine (KO.out _ O3).mono ?_); rintro e w4 ⟨v4, rfl, hv4, hb4⟩; have O4 := Lib.hid ((O3.out.alloc _).next hb4); obtain ⟨⟨x40, x41, x42, x43⟩, _, z4⟩ := O4.out; have V4 := Lib.hid hv4; have V5 := Lib.hid (V3.out.below (((Below.refl _ _).alloc (Nat.le_refl _) _).trans (hb4.mono (by simp)))); clear hv4) | (go_at_call 17; (with_reducible refine (KE.out _ O4 _ V5.out).mono ?_); rintro e w5 ⟨rfl, hb5⟩; have O5 := Lib.hid (O4.out.next hb5); obtain ⟨⟨x50, x51, x52, x53⟩, _, z5⟩ := O5.out; have V6 := Lib.hid (V4.out.below hb5)) | (go_at_call 17; (with_reducible refine (KE.out _ O5 _ V6.out).mono ?_); rintro e w6 ⟨rfl, hb6⟩; have O6 := Lib.hid (O5.out.next hb6); obtain ⟨⟨x60, x61, x62, x63⟩, _, z6⟩ := O6.out) | (go_at_call 27; (with_reducible refine (KT.out _ O6).mono ?_); rintro e w7 ⟨v7, rfl, hv7, hb7⟩; have O7 := Lib.hid (O6.out.next hb7); obtain ⟨⟨x70, x71, x72, x73⟩, _, z7⟩ := O7.out; have V7 := Lib.hid hv7; clear hv7) | (go_at_call 27; (with_reducible refine (KU.out _ O7).mono ?_); rintro e w8 ⟨v8, rfl, hv8, hb8⟩; have O8 := Lib.hid (O7.out.next hb8); obtain ⟨⟨x80, x81, x82, x83⟩, _, z8⟩ := O8.out; have V8 := Lib.hid hv8; have V9 := Lib.hid (V7.out.below hb8); clear hv8) | (go_at_call 17; (with_reducible refine (KV.out _ _ _ V9.out V8.out).mono ?_); rintro e w9 ⟨rfl, hb9⟩; have O9 := Lib.hid (O8.out.next hb9); obtain ⟨⟨x90, x91, x92, x93⟩, _, z9⟩ := O9.out))
            refine ⟨⟨k + 1, by omega, by go_num, hB.trans (O9.out.below.mono hBs)⟩, by simp [intOf]; omega⟩
    · by_cases g1 : k < len
      · have g2 : 20 ≤ k := by omega
        clear g
        go_wp2_with (go_at_call 18; (with_reducible refine (wakes6_any _).mono ?_); rintro e w9 ⟨rfl, hb9⟩)
        go_ret
        exact ⟨rfl, hB.trans (hb9.mono hBs)⟩
      · have g2 : len ≤ k := by omega
        clear g g1
        go_wp2_with (go_at_call 18; (with_reducible refine (wakes6_any _).mono ?_); rintro e w9 ⟨rfl, hb9⟩)
        go_ret
        exact ⟨rfl, hB.trans (hb9.mono hBs)⟩
end Go.Proofs.Yteplhlmdaabpaaa
