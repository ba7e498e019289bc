/-
  ShapeSpreads' loop.
-/
import Derived.Test.YteplhlmdaabpaaaSp
namespace Go.Proofs.Yteplhlmdaabpaaa
open Go.RowKit

set_option maxRecDepth 100000 in
set_option maxHeartbeats 8000000 in
theorem shspreads_any (b off len cap : Nat) (es : Nat → Tw) (w : World) (_hl : len ≤ 9223372036854775807) (hb : b < w.heap.size) (hT : ∀ i, i < len → TwAt w b (off + i * 4) (es i)) (hok : ∀ i, i < len → (es i).ok w) :
    Calls Try.prog 5 #[.slice (some ⟨b, off, none⟩) len cap] w fun e w' => e = .returned (.bool true) ∧ Below w.heap.size w w' := by
  have HT := Lib.hid (And.intro hT hok)
  clear hT hok
  go_enter Try.func5, Try.ntmps5
  go_wp2
  go_loopw [3] (fun s3 wr => ∃ k : Nat, k ≤ len ∧ s3 = .int .i64 k ∧ Below w.heap.size w wr) (fun s3 _ => len - (intOf s3).toNat)
  case atStart => exact ⟨0, Nat.zero_le _, rfl, Below.refl _ _⟩
  case round =>
    obtain ⟨k, hk, rfl, hB⟩ := hrel
    have hBs := hB.size
    by_cases g : k < len ∧ k < 20
    · obtain ⟨g1, g2⟩ := g
      obtain ⟨t1, t2, t3, t4⟩ := (HT.out.1 k (by omega)).below hB hb
      obtain ⟨hS, hT, hI, lS, lT, lI, n0, n1⟩ := HT.out.2 k (by omega)
      replace hS := hS.below hB
      replace hT := hT.below hB
      replace hI := hI.below hB
      generalize es k = p at *
      obtain ⟨S, T, I, s, t, i, n⟩ := p
      simp only at t1 t2 t3 t4 hS hT hI lS lT lI n0 n1
      obtain ⟨oS, cS, rfl, _, _⟩ := id hS
      obtain ⟨oT, cT, rfl, _, _⟩ := id hT
      obtain ⟨oI, cI, rfl, _, _⟩ := id hI
      cases lg : (decide (12 < s.length) || decide (12 < t.length) || decide (12 < i.length)) with
      | true =>
        have LG := Lib.hid (fun W => long_below oS oT oI s.length t.length i.length cS cT cI n W lS lT lI true lg.symm)
        have O0 := Lib.hid (On.start wr (.slice oS s.length cS) (.slice oT t.length cT) (.slice oI i.length cI) n 25)
        clear lg hS hT hI
        go_wp2_with (go_at_call 8; (with_reducible refine (LG.out _).mono ?_); rintro e w1 ⟨rfl, hb1⟩; have O1 := Lib.hid (O0.out.next hb1); obtain ⟨⟨x10, x11, x12, x13⟩, _, z1⟩ := O1.out)
        go_ret
        exact ⟨rfl, hB.trans (O1.out.below.mono hBs)⟩
      | false =>
        have LG := Lib.hid (fun W => long_below oS oT oI s.length t.length i.length cS cT cI n W lS lT lI false lg.symm)
        simp only [Bool.or_eq_false_iff, decide_eq_false_iff_not, Nat.not_lt] at lg
        obtain ⟨⟨ls, lt⟩, li⟩ := lg
        have O0 := Lib.hid (On.start wr (.slice oS s.length cS) (.slice oT t.length cT) (.slice oI i.length cI) n 25)
        have KM := Lib.hid (fun (W : World) (h : Hid (On wr (.slice oS s.length cS) (.slice oT t.length cT) (.slice oI i.length cI) n W)) => rmay_any _ s W (hS.below h.out.below) (by omega))
        have KL := Lib.hid (fun (W : World) (h : Hid (On wr (.slice oS s.length cS) (.slice oT t.length cT) (.slice oI i.length cI) n W)) => rmay_any _ t W (hT.below h.out.below) (by omega))
        have KE := Lib.hid (fun (W : World) (v v' : Value) (x : List Int) (lx : x.length ≤ 4) (hv : Ld W v x) (hv' : Ld W v' x) => eqn_any v v' x x W hv hv' (by omega) (by omega))
        have l4 := sxv_len s t
        cases mm : (may s && may t) with
        | false =>
          have KS := Lib.hid (fun (W : World) (h : Hid (On wr (.slice oS s.length cS) (.slice oT t.length cT) (.slice oI i.length cI) n W)) => spread_no _ _ s t W (hS.below h.out.below) (hT.below h.out.below) mm)
          have KU := Lib.hid (fun (W : World) (h : Hid (On wr (.slice oS s.length cS) (.slice oT t.length cT) (.slice oI i.length cI) n W)) => under_no _ _ (.slice oI i.length cI) s t W (hS.below h.out.below) (hT.below h.out.below) mm)
          have KV := Lib.hid (fun W => eqn_any _ _ [] [] W (Ld.nil W) (Ld.nil W) (by decide) (by decide))
          rw [show decide (([] : List Int) = []) = true by simp] at KV
          cases ms : may s with
          | false =>
            rw [ms] at KM
            clear hS hT hI ms mm l4
            go_wp2_with (first | (go_at_call 8; (with_reducible refine (LG.out _).mono ?_); rintro e w1 ⟨rfl, hb1⟩; have O1 := Lib.hid (O0.out.next hb1); obtain ⟨⟨x10, x11, x12, x13⟩, _, z1⟩ := O1.out) | (go_at_call 12; (with_reducible refine (num6_any _ _).mono ?_); rintro e w' ⟨rfl, rfl⟩) | (go_at_call 9; (with_reducible refine (KM.out _ O1).mono ?_); rintro e w' ⟨rfl, rfl⟩) | (go_at_call 27; (with_reducible refine (KS.out _ O1).mono ?_); rintro e w' ⟨rfl, rfl⟩) | (go_at_call 17; (with_reducible refine (KV.out _).mono ?_); rintro e w2 ⟨rfl, hb2⟩; have O2 := Lib.hid (O1.out.next hb2); obtain ⟨⟨x20, x21, x22, x23⟩, _, z2⟩ := O2.out) | (go_at_call 9; (with_reducible refine (KM.out _ O2).mono ?_); rintro e w' ⟨rfl, rfl⟩) | (go_at_call 30; (with_reducible refine (KU.out _ O2).mono ?_); rintro e w' ⟨rfl, rfl⟩))
            refine ⟨⟨k + 1, by omega, by go_num, hB.trans (O2.out.below.mono hBs)⟩, by simp [intOf]; omega⟩
          | true =>
            have mt : may t = false := by rw [ms, Bool.true_and] at mm; exact mm
            rw [ms] at KM
            rw [mt] at KL
            clear hS hT hI ms mt mm l4
            go_wp2_with (first | (go_at_call 8; (with_reducible refine (LG.out _).mono ?_); rintro e w1 ⟨rfl, hb1⟩; have O1 := Lib.hid (O0.out.next hb1); obtain ⟨⟨x10, x11, x12, x13⟩, _, z1⟩ := O1.out) | (go_at_call 12; (with_reducible refine (num6_any _ _).mono ?_); rintro e w' ⟨rfl, rfl⟩) | (go_at_call 9; (with_reducible refine (KM.out _ O1).mono ?_); rintro e w' ⟨rfl, rfl⟩) | (go_at_call 9; (with_reducible refine (KL.out _ O1).mono ?_); rintro e w' ⟨rfl, rfl⟩) | (go_at_call 27; (with_reducible refine (KS.out _ O1).mono ?_); rintro e w' ⟨rfl, rfl⟩) | (go_at_call 17; (with_reducible refine (KV.out _).mono ?_); rintro e w2 ⟨rfl, hb2⟩; have O2 := Lib.hid (O1.out.next hb2); obtain ⟨⟨x20, x21, x22, x23⟩, _, z2⟩ := O2.out) | (go_at_call 9; (with_reducible refine (KM.out _ O2).mono ?_); rintro e w' ⟨rfl, rfl⟩) | (go_at_call 9; (with_reducible refine (KL.out _ O2).mono ?_); rintro e w' ⟨rfl, rfl⟩) | (go_at_call 30; (with_reducible refine (KU.out _ O2).mono ?_); rintro e w' ⟨rfl, rfl⟩))
            refine ⟨⟨k + 1, by omega, by go_num, hB.trans (O2.out.below.mono hBs)⟩, by simp [intOf]; omega⟩
        | true =>
          simp only [Bool.and_eq_true] at mm
          obtain ⟨ms, mt⟩ := mm
          have l5 := spv_len (may_len ms) (may_len mt)
          have KR := Lib.hid (fun (W : World) (h : Hid (On wr (.slice oS s.length cS) (.slice oT t.length cT) (.slice oI i.length cI) n W)) => rspread_any _ _ s t W (hS.below h.out.below) (hT.below h.out.below) ms mt)
          have KS := Lib.hid (fun (W : World) (h : Hid (On wr (.slice oS s.length cS) (.slice oT t.length cT) (.slice oI i.length cI) n W)) => spread_any _ _ s t W (hS.below h.out.below) (hT.below h.out.below) ms mt)
          have KG := Lib.hid (fun (W : World) (h : Hid (On wr (.slice oS s.length cS) (.slice oT t.length cT) (.slice oI i.length cI) n W)) => rgoes_any _ _ s t W (hS.below h.out.below) (hT.below h.out.below) ms mt)
          have KI := Lib.hid (fun (W : World) (h : Hid (On wr (.slice oS s.length cS) (.slice oT t.length cT) (.slice oI i.length cI) n W)) => rmayix_any _ _ t i W (hT.below h.out.below) (hI.below h.out.below) (by omega) (by omega))
          rw [ms] at KM
          rw [mt] at KL
          have KV := Lib.hid (fun (W : World) (v v' : Value) (hv : Ld W v (spv s t)) (hv' : Ld W v' (spv s t)) => eqn_any v v' (spv s t) (spv s t) W hv hv' (by omega) (by omega))
          rw [show decide (spv s t = spv s t) = true by simp] at KV
          cases gg : goes s t with
          | false =>
            rw [gg] at KG
            have KU := Lib.hid (fun (W : World) (h : Hid (On wr (.slice oS s.length cS) (.slice oT t.length cT) (.slice oI i.length cI) n W)) => under_far _ _ _ s t i W (hS.below h.out.below) (hT.below h.out.below) (hI.below h.out.below) ms mt (by rw [gg]; rfl))
            generalize spe s t = r at *
            generalize spv s t = rv at *
            clear hS hT hI ms mt l4 l5 gg
            go_wp2_with (first | (go_at_call 8; (with_reducible refine (LG.out _).mono ?_); rintro e w1 ⟨rfl, hb1⟩; have O1 := Lib.hid (O0.out.next hb1); obtain ⟨⟨x10, x11, x12, x13⟩, _, z1⟩ := O1.out) | (go_at_call 12; (with_reducible refine (num6_any _ _).mono ?_); rintro e w' ⟨rfl, rfl⟩) | (go_at_call 9; (with_reducible refine (KM.out _ O1).mono ?_); rintro e w' ⟨rfl, rfl⟩) | (go_at_call 9; (with_reducible refine (KL.out _ O1).mono ?_); rintro e w' ⟨rfl, rfl⟩) | (go_at_call 26; (with_reducible refine (KR.out _ O1).mono ?_); rintro e w2 ⟨v2, rfl, hv2, hb2⟩; have O2 := Lib.hid (O1.out.next hb2); obtain ⟨⟨x20, x21, x22, x23⟩, _, z2⟩ := O2.out; have V2 := Lib.hid hv2; clear hv2) | (go_at_call 27; (with_reducible refine (KS.out _ O2).mono ?_); rintro e w3 ⟨v3, rfl, hv3, hb3⟩; have O3 := Lib.hid (O2.out.next hb3); obtain ⟨⟨x30, x31, x32, x33⟩, _, z3⟩ := O3.out; have V3 := Lib.hid hv3; have V4 := Lib.hid (V2.out.below hb3); clear hv3) | (go_at_call 17; (with_reducible refine (KV.out _ _ _ V3.out V4.out).mono ?_); rintro e w4 ⟨rfl, hb4⟩; have O4 := Lib.hid (O3.out.next hb4); obtain ⟨⟨x40, x41, x42, x43⟩, _, z4⟩ := O4.out) | (go_at_call 9; (with_reducible refine (KM.out _ O4).mono ?_); rintro e w' ⟨rfl, rfl⟩) | (go_at_call 9; (with_reducible refine (KL.out _ O4).mono ?_); rintro e w' ⟨rfl, rfl⟩) | (go_at_call 28; (with_reducible refine (KG.out _ O4).mono ?_); rintro e w5 ⟨rfl, hb5⟩; have O5 := Lib.hid (O4.out.next hb5); obtain ⟨⟨x50, x51, x52, x53⟩, _, z5⟩ := O5.out) | (go_at_call 30; (with_reducible refine (KU.out _ O5).mono ?_); rintro e w' ⟨rfl, rfl⟩))
            refine ⟨⟨k + 1, by omega, by go_num, hB.trans (O5.out.below.mono hBs)⟩, by simp [intOf]; omega⟩
          | true =>
            rw [gg] at KG
            cases hx : inx t i with
            | false =>
              rw [hx] at KI
              have KU := Lib.hid (fun (W : World) (h : Hid (On wr (.slice oS s.length cS) (.slice oT t.length cT) (.slice oI i.length cI) n W)) => under_far _ _ _ s t i W (hS.below h.out.below) (hT.below h.out.below) (hI.below h.out.below) ms mt (by rw [gg, hx]; rfl))
              generalize spe s t = r at *
              generalize spv s t = rv at *
              clear hS hT hI ms mt l4 l5 gg hx
              go_wp2_with (first | (go_at_call 8; (with_reducible refine (LG.out _).mono ?_); rintro e w1 ⟨rfl, hb1⟩; have O1 := Lib.hid (O0.out.next hb1); obtain ⟨⟨x10, x11, x12, x13⟩, _, z1⟩ := O1.out) | (go_at_call 12; (with_reducible refine (num6_any _ _).mono ?_); rintro e w' ⟨rfl, rfl⟩) | (go_at_call 9; (with_reducible refine (KM.out _ O1).mono ?_); rintro e w' ⟨rfl, rfl⟩) | (go_at_call 9; (with_reducible refine (KL.out _ O1).mono ?_); rintro e w' ⟨rfl, rfl⟩) | (go_at_call 26; (with_reducible refine (KR.out _ O1).mono ?_); rintro e w2 ⟨v2, rfl, hv2, hb2⟩; have O2 := Lib.hid (O1.out.next hb2); obtain ⟨⟨x20, x21, x22, x23⟩, _, z2⟩ := O2.out; have V2 := Lib.hid hv2; clear hv2) | (go_at_call 27; (with_reducible refine (KS.out _ O2).mono ?_); rintro e w3 ⟨v3, rfl, hv3, hb3⟩; have O3 := Lib.hid (O2.out.next hb3); obtain ⟨⟨x30, x31, x32, x33⟩, _, z3⟩ := O3.out; have V3 := Lib.hid hv3; have V4 := Lib.hid (V2.out.below hb3); clear hv3) | (go_at_call 17; (with_reducible refine (KV.out _ _ _ V3.out V4.out).mono ?_); rintro e w4 ⟨rfl, hb4⟩; have O4 := Lib.hid (O3.out.next hb4); obtain ⟨⟨x40, x41, x42, x43⟩, _, z4⟩ := O4.out) | (go_at_call 9; (with_reducible refine (KM.out _ O4).mono ?_); rintro e w' ⟨rfl, rfl⟩) | (go_at_call 9; (with_reducible refine (KL.out _ O4).mono ?_); rintro e w' ⟨rfl, rfl⟩) | (go_at_call 28; (with_reducible refine (KG.out _ O4).mono ?_); rintro e w5 ⟨rfl, hb5⟩; have O5 := Lib.hid (O4.out.next hb5); obtain ⟨⟨x50, x51, x52, x53⟩, _, z5⟩ := O5.out) | (go_at_call 22; (with_reducible refine (KI.out _ O5).mono ?_); rintro e w6 ⟨rfl, hb6⟩; have O6 := Lib.hid (O5.out.next hb6); obtain ⟨⟨x60, x61, x62, x63⟩, _, z6⟩ := O6.out) | (go_at_call 30; (with_reducible refine (KU.out _ O6).mono ?_); rintro e w' ⟨rfl, rfl⟩))
              refine ⟨⟨k + 1, by omega, by go_num, hB.trans (O6.out.below.mono hBs)⟩, by simp [intOf]; omega⟩
            | true =>
              rw [hx] at KI
              have KU := Lib.hid (fun (W : World) (h : Hid (On wr (.slice oS s.length cS) (.slice oT t.length cT) (.slice oI i.length cI) n W)) => under_ok _ _ _ s t i W (hS.below h.out.below) (hT.below h.out.below) (hI.below h.out.below) ms mt gg hx)
              have KN := Lib.hid (fun (W : World) (h : Hid (On wr (.slice oS s.length cS) (.slice oT t.length cT) (.slice oI i.length cI) n W)) => runder_any _ _ _ s t i W (hS.below h.out.below) (hT.below h.out.below) (hI.below h.out.below) ms mt gg hx)
              generalize und s i = y at *
              generalize spe s t = r at *
              generalize spv s t = rv at *
              clear hS hT hI ms mt l4 l5 gg hx
              go_wp2_with (first | (go_at_call 8; (with_reducible refine (LG.out _).mono ?_); rintro e w1 ⟨rfl, hb1⟩; have O1 := Lib.hid (O0.out.next hb1); obtain ⟨⟨x10, x11, x12, x13⟩, _, z1⟩ := O1.out) | (go_at_call 12; (with_reducible refine (num6_any _ _).mono ?_); rintro e w' ⟨rfl, rfl⟩) | (go_at_call 9; (with_reducible refine (KM.out _ O1).mono ?_); rintro e w' ⟨rfl, rfl⟩) | (go_at_call 9; (with_reducible refine (KL.out _ O1).mono ?_); rintro e w' ⟨rfl, rfl⟩) | (go_at_call 26; (with_reducible refine (KR.out _ O1).mono ?_); rintro e w2 ⟨v2, rfl, hv2, hb2⟩; have O2 := Lib.hid (O1.out.next hb2); obtain ⟨⟨x20, x21, x22, x23⟩, _, z2⟩ := O2.out; have V2 := Lib.hid hv2; clear hv2) | (go_at_call 27; (with_reducible refine (KS.out _ O2).mono ?_); rintro e w3 ⟨v3, rfl, hv3, hb3⟩; have O3 := Lib.hid (O2.out.next hb3); obtain ⟨⟨x30, x31, x32, x33⟩, _, z3⟩ := O3.out; have V3 := Lib.hid hv3; have V4 := Lib.hid (V2.out.below hb3); clear hv3) | (go_at_call 17; (with_reducible refine (KV.out _ _ _ V3.out V4.out).mono ?_); rintro e w4 ⟨rfl, hb4⟩; have O4 := Lib.hid (O3.out.next hb4); obtain ⟨⟨x40, x41, x42, x43⟩, _, z4⟩ := O4.out) | (go_at_call 9; (with_reducible refine (KM.out _ O4).mono ?_); rintro e w' ⟨rfl, rfl⟩) | (go_at_call 9; (with_reducible refine (KL.out _ O4).mono ?_); rintro e w' ⟨rfl, rfl⟩) | (go_at_call 28; (with_reducible refine (KG.out _ O4).mono ?_); rintro e w5 ⟨rfl, hb5⟩; have O5 := Lib.hid (O4.out.next hb5); obtain ⟨⟨x50, x51, x52, x53⟩, _, z5⟩ := O5.out) | (go_at_call 22; (with_reducible refine (KI.out _ O5).mono ?_); rintro e w6 ⟨rfl, hb6⟩; have O6 := Lib.hid (O5.out.next hb6); obtain ⟨⟨x60, x61, x62, x63⟩, _, z6⟩ := O6.out) | (go_at_call 29; (with_reducible refine (KN.out _ O6).mono ?_); rintro e w7 ⟨rfl, hb7⟩; have O7 := Lib.hid (O6.out.next hb7); obtain ⟨⟨x70, x71, x72, x73⟩, _, z7⟩ := O7.out) | (go_at_call 30; (with_reducible refine (KU.out _ O7).mono ?_); rintro e w' ⟨rfl, rfl⟩))
              refine ⟨⟨k + 1, by omega, by go_num, hB.trans (O7.out.below.mono hBs)⟩, by simp [intOf]; omega⟩
    · by_cases g1 : k < len
      · have g2 : 20 ≤ k := by omega
        clear g
        go_wp2_with (go_at_call 18; (with_reducible refine (wakes6_any _).mono ?_); rintro e w9 ⟨rfl, hb9⟩)
        go_ret
        exact ⟨rfl, hB.trans (hb9.mono hBs)⟩
      · have g2 : len ≤ k := by omega
        clear g g1
        go_wp2_with (go_at_call 18; (with_reducible refine (wakes6_any _).mono ?_); rintro e w9 ⟨rfl, hb9⟩)
        go_ret
        exact ⟨rfl, hB.trans (hb9.mono hBs)⟩
end Go.Proofs.Yteplhlmdaabpaaa
