/-
  ShapeSteps' loop.
-/
import Derived.Test.YteplhlmdaabpaaaSr
namespace Go.Proofs.Yteplhlmdaabpaaa
open Go.RowKit

set_option maxRecDepth 100000 in
set_option maxHeartbeats 8000000 in
theorem shsteps_any (b off len cap : Nat) (es : Nat → Tw) (w : World) (_hl : len ≤ 9223372036854775807) (hb : b < w.heap.size) (hT : ∀ i, i < len → TwAt w b (off + i * 4) (es i)) (hok : ∀ i, i < len → (es i).ok w) :
    Calls Try.prog 3 #[.slice (some ⟨b, off, none⟩) len cap] w fun e w' => e = .returned (.bool true) ∧ Below w.heap.size w w' := by
  have HT := Lib.hid (And.intro hT hok)
  clear hT hok
  go_enter Try.func3, Try.ntmps3
  go_wp2
  go_loopw [3] (fun s3 wr => ∃ k : Nat, k ≤ len ∧ s3 = .int .i64 k ∧ Below w.heap.size w wr) (fun s3 _ => len - (intOf s3).toNat)
  case atStart => exact ⟨0, Nat.zero_le _, rfl, Below.refl _ _⟩
  case round =>
    obtain ⟨k, hk, rfl, hB⟩ := hrel
    have hBs := hB.size
    by_cases g : k < len ∧ k < 20
    · obtain ⟨g1, g2⟩ := g
      obtain ⟨t1, t2, t3, t4⟩ := (HT.out.1 k (by omega)).below hB hb
      obtain ⟨hS, hT, hI, lS, lT, lI, n0, n1⟩ := HT.out.2 k (by omega)
      replace hS := hS.below hB
      replace hT := hT.below hB
      replace hI := hI.below hB
      generalize es k = p at *
      obtain ⟨S, T, I, s, t, i, n⟩ := p
      simp only at t1 t2 t3 t4 hS hT hI lS lT lI n0 n1
      obtain ⟨oS, cS, rfl, _, _⟩ := id hS
      obtain ⟨oT, cT, rfl, _, _⟩ := id hT
      obtain ⟨oI, cI, rfl, _, _⟩ := id hI
      cases lg : (decide (12 < s.length) || decide (12 < t.length) || decide (12 < i.length)) with
      | true =>
        have LG := Lib.hid (fun W => long_below oS oT oI s.length t.length i.length cS cT cI n W lS lT lI true lg.symm)
        have O0 := Lib.hid (On.start wr (.slice oS s.length cS) (.slice oT t.length cT) (.slice oI i.length cI) n 25)
        clear lg hS hT hI
        go_wp2_with (go_at_call 8; (with_reducible refine (LG.out _).mono ?_); rintro e w1 ⟨rfl, hb1⟩; have O1 := Lib.hid (O0.out.next hb1); obtain ⟨⟨x10, x11, x12, x13⟩, _, z1⟩ := O1.out)
        refine ⟨⟨k + 1, by omega, by go_num, hB.trans (O1.out.below.mono hBs)⟩, by simp [intOf]; omega⟩
      | false =>
        have LG := Lib.hid (fun W => long_below oS oT oI s.length t.length i.length cS cT cI n W lS lT lI false lg.symm)
        simp only [Bool.or_eq_false_iff, decide_eq_false_iff_not, Nat.not_lt] at lg
        obtain ⟨⟨ls, lt⟩, li⟩ := lg
        have O0 := Lib.hid (On.start wr (.slice oS s.length cS) (.slice oT t.length cT) (.slice oI i.length cI) n 25)
        have KM := Lib.hid (fun (W : World) (h : Hid (On wr (.slice oS s.length cS) (.slice oT t.length cT) (.slice oI i.length cI) n W)) => rmay_any _ s W (hS.below h.out.below) (by omega))
        cases ms : may s with
        | false =>
          rw [ms] at KM
          clear hS hT hI ms
          go_wp2_with (first | (go_at_call 8; (with_reducible refine (LG.out _).mono ?_); rintro e w1 ⟨rfl, hb1⟩; have O1 := Lib.hid (O0.out.next hb1); obtain ⟨⟨x10, x11, x12, x13⟩, _, z1⟩ := O1.out) | (go_at_call 9; (with_reducible refine (KM.out _ O1).mono ?_); rintro e w' ⟨rfl, rfl⟩))
          refine ⟨⟨k + 1, by omega, by go_num, hB.trans (O1.out.below.mono hBs)⟩, by simp [intOf]; omega⟩
        | true =>
          have mp := may_prod ms
          have hp := may_pos ms
          have ml := may_len ms
          obtain ⟨m, hm⟩ : ∃ m, m = n % 18446744073709551616 % prod s := ⟨_, rfl⟩
          have m0 : 0 ≤ m := by rw [hm]; exact Int.emod_nonneg _ (by omega)
          have m1 : m < prod s := by rw [hm]; exact Int.emod_lt_of_pos _ (by omega)
          have KW := Lib.hid (fun W => win_any n (prod s) W (by omega) (by omega))
          rw [← hm] at KW
          have KN := Lib.hid (fun (W : World) (h : Hid (On wr (.slice oS s.length cS) (.slice oT t.length cT) (.slice oI i.length cI) n W)) => count_ok _ s W (hS.below h.out.below) ms)
          have KS := Lib.hid (fun (W : World) (h : Hid (On wr (.slice oS s.length cS) (.slice oT t.length cT) (.slice oI i.length cI) n W)) => strides_ok _ s W (hS.below h.out.below) ms)
          have KA := Lib.hid (fun (W : World) (h : Hid (On wr (.slice oS s.length cS) (.slice oT t.length cT) (.slice oI i.length cI) n W)) => at_ok _ s m W (hS.below h.out.below) ms m0 m1)
          have KB : Hid (m + 1 < prod s → ∀ (W : World) (h : Hid (On wr (.slice oS s.length cS) (.slice oT t.length cT) (.slice oI i.length cI) n W)), Calls Try.prog 14 #[.slice oS s.length cS, .int .i64 (m + 1)] W fun e w' => e = .returned (.tuple #[.slice (some ⟨W.heap.size + 1, 0, none⟩) s.length s.length, .int .i64 0]) ∧ Blk w' (W.heap.size + 1) 3 (ints (atl s (m + 1))).toArray ∧ Below W.heap.size W w') := fun hm W h => at_ok _ s (m + 1) W (hS.below h.out.below) ms (by omega) hm
          have KP := Lib.hid (fun (W : World) (g : Nat) (hg : Hid (Blk W g 3 (ints (atl s m)).toArray)) (h0 : 0 < s.length) => copy_row (.slice (some ⟨g, 0, none⟩) s.length s.length) (atl s m) s.length (atl_len s m) W (ld_len hg.out (atl_len s m)) h0 (by omega))
          have KX : Hid (∀ (k : Nat), k < s.length → (atl s m).getD k 0 + 1 < s.getD k 0 → ∀ (W : World) (v : Value) (h : Hid (On wr (.slice oS s.length cS) (.slice oT t.length cT) (.slice oI i.length cI) n W)), Ld W v ((atl s m).set k ((atl s m).getD k 0 + 1)) → Calls Try.prog 16 #[.slice oS s.length cS, v] W fun e w' => e = .returned (.tuple #[.int .i64 (m + prod (s.drop (k + 1))), .int .i64 0]) ∧ W = w') := fun k hk hlt W v h hv => by
            obtain ⟨a1, a2⟩ := ix_step hp m0 m1 hk hlt
            have := index_ok _ v s _ W (hS.below h.out.below) hv ms a1
            rw [a2] at this
            exact this
          have KE := Lib.hid (fun (W : World) (g g' : Nat) (L : List Int) (hl : L.length = s.length) (hg : Hid (Blk W g 3 (ints L).toArray)) (hg' : Hid (Blk W g' 3 (ints L).toArray)) => eqn_any (.slice (some ⟨g, 0, none⟩) s.length s.length) (.slice (some ⟨g', 0, none⟩) s.length s.length) L L W (ld_len hg.out hl) (ld_len hg'.out hl) (by omega) (by omega))
          simp only [decide_true] at KE
          have HS : Hid (∀ (W : World) (h : Hid (On wr (.slice oS s.length cS) (.slice oT t.length cT) (.slice oI i.length cI) n W)) (k : Nat), k < s.length → ∃ b f, oS = some ⟨b, f, none⟩ ∧ W.cell? ⟨b, f + k, none⟩ = some (.int .i64 (s.getD k 0))) := fun W h k hk => by
            obtain ⟨o, c, hv, _, hx⟩ := hS.below h.out.below
            simp only [Value.slice.injEq] at hv
            obtain ⟨rfl, _, rfl⟩ := hv
            obtain ⟨b, f, e1, _, e2⟩ := hx k hk
            exact ⟨b, f, e1, e2⟩
          have HM := Lib.hid (And.intro ms (And.intro hp (And.intro m0 (And.intro m1 mp))))
          have HP := Lib.hid (may_drop ms)
          have HD : Hid (∀ k, k < s.length → 1 ≤ s.getD k 0 ∧ s.getD k 0 ≤ 4096) := fun k hk => may_dim ms hk
          have HA : Hid (∀ k, k < s.length → 0 ≤ (atl s m).getD k 0 ∧ (atl s m).getD k 0 < s.getD k 0) := fun k hk => (inx_iff.1 (atl_inx s m hp m0 m1)).2 k hk
          have HC : Hid (Car s (atl s m) m s.length) := car_start hp m0 m1
          rw [ms] at KM
          have HPR : Hid (∃ P, P = prod s) := ⟨_, rfl⟩
          have q0 : prod s ≤ 65536 := mp.2
          clear hS hT hI ms hm hp mp ml
          go_wp2_with (first | (go_at_call 8; (with_reducible refine (LG.out _).mono ?_); rintro e w1 ⟨rfl, hb1⟩; have O1 := Lib.hid (O0.out.next hb1); obtain ⟨⟨x10, x11, x12, x13⟩, _, z1⟩ := O1.out) | (go_at_call 12; (with_reducible refine (num6_any _ _).mono ?_); rintro e w' ⟨rfl, rfl⟩) | (go_at_call 9; (with_reducible refine (KM.out _ O1).mono ?_); rintro e w' ⟨rfl, rfl⟩) | (go_at_call 10; (with_reducible refine (KN.out _ O1).mono ?_); rintro e w' ⟨rfl, rfl⟩) | (go_at_call 11; (with_reducible refine (KS.out _ O1).mono ?_); rintro e w2 ⟨rfl, hk2, hb2⟩; have O2 := Lib.hid (O1.out.next hb2); obtain ⟨⟨x20, x21, x22, x23⟩, _, z2⟩ := O2.out; have BT := Lib.hid hk2; clear hk2) | (go_at_call 13; (with_reducible refine (KW.out _).mono ?_); rintro e w' ⟨rfl, rfl⟩) | (go_at_call 14; (with_reducible refine (KA.out _ O2).mono ?_); rintro e w3 ⟨rfl, hk3, hb3⟩; have O3 := Lib.hid (O2.out.next hb3); obtain ⟨⟨x30, x31, x32, x33⟩, _, z3⟩ := O3.out; replace BT := Lib.hid (BT.out.on hb3); have BX := Lib.hid hk3; clear hk3))
          have s2 := O2.out.2.2
          have s3 := BX.out.lt
          have s4 := hb2.size
          have s5 := BT.out.lt
          have W3 : Hid (∃ W, W = w3) := ⟨_, rfl⟩
          clear x10 x11 x12 x13 x20 x21 x22 x23 x30 x31 x32 x33 hb1 hb2 hb3 t1 t2 t3 t4
          go_loopw [12] (fun s12 wl => ∃ k : Nat, k ≤ s.length ∧ s12 = .int .i64 k ∧ Below w3.heap.size w3 wl) (fun s12 _ => s.length - (intOf s12).toNat)
          case atStart => exact ⟨0, Nat.zero_le _, rfl, Below.refl _ _⟩
          case round =>
            obtain ⟨k2, hk2, rfl, hL⟩ := hrel
            have O4 := Lib.hid (O3.out.next hL)
            have BT4 := Lib.hid (BT.out.on hL)
            have BX4 := Lib.hid (BX.out.on hL)
            obtain ⟨⟨x40, x41, x42, x43⟩, _, z4⟩ := O4.out
            by_cases hlt : k2 < s.length
            · obtain ⟨bs, fs, rfl, cs1⟩ := HS.out _ O4 k2 hlt
              have cx := BX4.out.cell k2
              rw [ints_at (by rw [atl_len]; exact hlt)] at cx
              have ha := HA.out k2 hlt
              have hd := HD.out k2 hlt
              have KY0 := KX.out k2 hlt
              by_cases g3 : (atl s m).getD k2 0 + 1 < s.getD k2 0
              · have KY := Lib.hid (KY0 g3)
                clear KY0
                have pd := HP.out (k2 + 1)
                have ct := BT4.out.cell k2
                rw [ints_at (by rw [stl_len]; exact hlt), stl_getD s k2 hlt] at ct
                have HP2 : Hid (∀ k, k < s.length → (stl s).getD k 0 = prod (s.drop (k + 1))) := fun k hk => stl_getD s k hk
                replace HP2 : Hid (∀ k, k = k2 → k < s.length → (stl s).getD k 0 = prod (s.drop (k2 + 1))) := fun k e hk => by subst e; exact HP2.out k hk
                generalize prod (s.drop (k2 + 1)) = P at *
                have HXX : Hid (∃ x, (atl s m).getD k2 0 = x) := ⟨_, rfl⟩
                generalize hxx : (atl s m).getD k2 0 = x at *
                replace HXX := Lib.hid hxx
                clear hxx
                generalize s.getD k2 0 = d at *
                obtain ⟨a0, a1⟩ := ha
                obtain ⟨d0, d1⟩ := hd
                obtain ⟨p0, p1⟩ := pd
                have hLs := hL.size
                have e1 : IntKind.i64.wrap (x + 1) = x + 1 := IntWalk.i64_in _ ⟨by omega, by omega⟩
                have e2 : decide (x + 1 < d) = true := decide_eq_true g3
                have qm : m ≤ 65536 := by omega
                go_wp2
                go_quiet (fail)
                clear e1 e2
                go_wp2_with (first | (go_at_call 15; (with_reducible refine (KP.out _ _ (Lib.hid (BX4.out.drwn _)) (by omega)).mono ?_); rintro e w5 ⟨g5, c5, rfl, hg5, hc5, hb5, R5⟩; have hg6 : wr.heap.size ≤ g5 := hg5; obtain ⟨y1, y2, y3⟩ := R5.out k2 hlt; rw [HXX.out] at y1; have O5 := Lib.hid ((O4.out.drw _).next hb5); have O6 := Lib.hid (O5.out.set (p := ⟨g5, k2, none⟩) (by show _ < g5; omega) (.int .i64 (x + 1))); have hL5 := (below_drw hL _).trans (hb5.mono hLs); have BT5 := Lib.hid ((BT4.out.drwn _).on hb5); have ct6 := (BT5.out.far (p := ⟨g5, k2, none⟩) (by show _ ≠ g5; omega) (.int .i64 (x + 1))).cell k2; rw [ints_at (by rw [stl_len]; exact hlt), HP2.out k2 rfl hlt] at ct6; obtain ⟨⟨x50, x51, x52, x53⟩, _, z5⟩ := O5.out; obtain ⟨⟨x60, x61, x62, x63⟩, _, z6⟩ := O6.out; replace y3 := Lib.hid (y3 (x + 1))) | (go_at_call 16; (with_reducible refine (KY.out _ _ O6 y3.out).mono ?_); rintro e w' ⟨rfl, rfl⟩) | (go_at_call 12; (with_reducible refine (num6_any _ _).mono ?_); rintro e w' ⟨rfl, rfl⟩))
                refine ⟨⟨k2 + 1, by omega, by go_num, hL5.setCell (by show _ ≤ g5; omega) _⟩, by simp [intOf]; omega⟩
              · clear KY0
                generalize (atl s m).getD k2 0 = x at *
                generalize s.getD k2 0 = d at *
                obtain ⟨a0, a1⟩ := ha
                obtain ⟨d0, d1⟩ := hd
                have e1 : IntKind.i64.wrap (x + 1) = x + 1 := IntWalk.i64_in _ ⟨by omega, by omega⟩
                have e2 : decide (x + 1 < d) = false := decide_eq_false g3
                go_wp2
                go_quiet (fail)
                clear e1 e2
                go_wp2
                refine ⟨⟨k2 + 1, by omega, by go_num, by first | exact below_drw hL _ | exact hL⟩, by simp [intOf]; omega⟩
            · by_cases g4 : m + 1 < prod s
              · have KZ := Lib.hid (KB.out g4)
                have hLs := hL.size
                have MP := Lib.hid (And.intro m0 q0)
                have qm : m ≤ 65536 := by omega
                go_wp2_with (first | (go_at_call 14; (with_reducible refine (KZ.out _ O4).mono ?_); rintro e w5 ⟨rfl, hk5, hb5⟩; have O5 := Lib.hid (O4.out.next hb5); have BY := Lib.hid hk5; have BX5 := Lib.hid (BX4.out.on hb5); have zz := hb5.size; clear hk5))
                clear x40 x41 x42 x43
                have zy := BX.out.lt
                go_loopw [18] (fun s18 wm => ∃ (j : Nat) (xs : List Int), s18 = .int .i64 ((j : Int) - 1) ∧ Hid (On _ (.slice oS s.length cS) (.slice oT t.length cT) (.slice oI i.length cI) n wm) ∧ Blk wm (w2.heap.size + 1) 3 (ints xs).toArray ∧ Blk wm (wr.heap.size + 1) 3 (ints (atl s (m + 1))).toArray ∧ Hid (Car s xs m j)) (fun s18 _ => (intOf s18 + 1).toNat)
                case atStart => exact ⟨s.length, atl s m, rfl, O5, BX5.out, BY.out, HC⟩
                case round =>
                  obtain ⟨j, xs, rfl, O6, bx, bY, HK⟩ := hrel
                  obtain ⟨⟨x60, x61, x62, x63⟩, _, z6⟩ := O6.out
                  cases j with
                  | zero => exact (car_no HK.out g4).elim
                  | succ j =>
                    have hk6 := HK.out
                    have hlx := inx_len hk6.2.1
                    have hj : j < s.length := hk6.1
                    obtain ⟨bs, fs, rfl, cs1⟩ := HS.out _ O6 j hj
                    have cx := bx.cell j
                    rw [ints_at (by omega)] at cx
                    have fx := bx.frozen j
                    obtain ⟨a0, a1⟩ := (inx_iff.1 hk6.2.1).2 j hj
                    obtain ⟨d0, d1⟩ := HD.out j hj
                    have HK1 : Hid (xs.getD j 0 + 1 = s.getD j 0 → Car s (xs.set j 0) m j) := car_step hk6 HM.out.2.1
                    have HK2 : Hid (¬ xs.getD j 0 + 1 = s.getD j 0 → xs.set j (xs.getD j 0 + 1) = atl s (m + 1)) := car_end hk6
                    have HLX := Lib.hid hlx
                    clear hk6 hlx HK
                    generalize xs.getD j 0 = x at *
                    generalize s.getD j 0 = d at *
                    have e1 : IntKind.i64.wrap (x + 1) = x + 1 := IntWalk.i64_in _ ⟨by omega, by omega⟩
                    have ej : ((j + 1 : Nat) : Int) - 1 = (j : Int) := by omega
                    rw [ej]
                    by_cases g5 : x + 1 = d
                    · have R := Lib.hid (HK1.out g5)
                      have e2 : (x + 1 == d) = true := by rw [beq_iff_eq]; exact g5
                      clear g5
                      go_wp2
                      go_quiet (fail)
                      clear e1 e2
                      go_wp2
                      refine ⟨⟨j, xs.set j 0, by go_num, ?_, ?_, ?_, R⟩, by simp [intOf]; try omega⟩
                      · exact Lib.hid ((O6.out.drw _).set (by show _ < w2.heap.size + 1; omega) _)
                      · exact (bx.drwn _).put j 0
                      · exact (bY.drwn _).far (by show _ ≠ w2.heap.size + 1; omega) _
                    · have R := Lib.hid (HK2.out g5)
                      have e2 : (x + 1 == d) = false := by rw [beq_eq_false_iff_ne]; exact g5
                      clear g5
                      go_wp2
                      go_quiet (fail)
                      clear e1 e2
                      go_wp2_with (first | (go_at_call 17; (with_reducible refine (KE.out _ _ _ _ (atl_len s (m + 1)) ?h1 ?h2).mono ?_); rotate_left 2; rintro e w8 ⟨rfl, hb8⟩; have O8 := Lib.hid (((O6.out.drw _).set (p := ⟨w2.heap.size + 1, j, none⟩) (by show _ < w2.heap.size + 1; omega) (.int .i64 (x + 1))).next hb8); obtain ⟨⟨x80, x81, x82, x83⟩, _, z8⟩ := O8.out) | (go_at_call 12; (with_reducible refine (num6_any _ _).mono ?_); rintro e w' ⟨rfl, rfl⟩))
                      case h1 => rw [Hid, ← R.out]; exact (bx.drwn _).put j _
                      case h2 => exact Lib.hid ((bY.drwn _).far (by show _ ≠ w2.heap.size + 1; omega) _)
                      refine ⟨⟨k + 1, by omega, by go_num, hB.trans (O8.out.below.mono hBs)⟩, by simp [intOf]; omega⟩
              · go_wp2
                refine ⟨⟨k + 1, by omega, by go_num, hB.trans (O4.out.below.mono hBs)⟩, by simp [intOf]; omega⟩
    · by_cases g1 : k < len
      · have g2 : 20 ≤ k := by omega
        clear g
        go_wp2_with (go_at_call 18; (with_reducible refine (wakes6_any _).mono ?_); rintro e w9 ⟨rfl, hb9⟩)
        go_ret
        exact ⟨rfl, hB.trans (hb9.mono hBs)⟩
      · have g2 : len ≤ k := by omega
        clear g g1
        go_wp2_with (go_at_call 18; (with_reducible refine (wakes6_any _).mono ?_); rintro e w9 ⟨rfl, hb9⟩)
        go_ret
        exact ⟨rfl, hB.trans (hb9.mono hBs)⟩
end Go.Proofs.Yteplhlmdaabpaaa
