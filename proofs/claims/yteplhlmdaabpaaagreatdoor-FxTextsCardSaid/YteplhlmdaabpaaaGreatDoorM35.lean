/-
  FxTexts' two loops.
-/
import Derived.Test.YteplhlmdaabpaaaGreatDoorM01
import Derived.Test.YteplhlmdaabpaaaGreatDoorM06
import Derived.Test.YteplhlmdaabpaaaGreatDoorM07
import Derived.Test.YteplhlmdaabpaaaGreatDoorM20
import Derived.Test.YteplhlmdaabpaaaGreatDoorM23
import Derived.Test.YteplhlmdaabpaaaGreatDoorM28
import Derived.Test.YteplhlmdaabpaaaGreatDoorM33
import Derived.Test.YteplhlmdaabpaaaGreatDoorM34
namespace Go.Proofs.YteplhlmdaabpaaaGreatDoor
open Go.RowKit

theorem is_same (v g : Int) (w : World) : Calls Tryz.prog 11 #[.int .i64 v, .int .i64 g, .int .i64 v, .int .i64 g] w fun e w' => e = .returned (.bool true) ∧ w = w' := by
  go_enter Tryz.func11, Tryz.ntmps11
  go_wp2_with (go_at_call 7; (with_reducible refine (num2_any _ _).mono ?_); rintro e w' ⟨rfl, rfl⟩)
  go_ret
  exact ⟨rfl, rfl⟩
set_option maxRecDepth 100000 in
theorem ftext_no (a : Int) (f : Int) (w : World) (ga : wd a = false) :
    Calls Tryz.prog 5 #[.int .i64 a, .int .i64 f] w fun e w' => e = .returned (.tuple #[.string ⟨#[]⟩, .int .i64 1]) ∧ Below w.heap.size w w' := by
  have CK : Hid (∀ W : World, Calls Tryz.prog 14 #[.int .i64 a] W fun e w' => e = .returned (.int .i64 1) ∧ W = w') := fun W => by have := check_any a W; rwa [if_neg (by simp [ga])] at this
  clear ga
  go_enter Tryz.func5, Tryz.ntmps5
  go_wp2_with (go_at_call 14; (with_reducible refine (CK.out _).mono ?_); rintro e w' ⟨rfl, rfl⟩)
  go_ret2
  exact ⟨rfl, Below.refl _ _⟩
theorem ftx_len {a : Int} {f : Nat} (ga : wd a = true) (hf : f ≤ 32) : (ftx a f).length ≤ 64 := by
  obtain ⟨a0, a1⟩ := wd_bd ga
  have hq : a.natAbs / 2 ^ f ≤ a.natAbs := Nat.div_le_self _ _
  have l1 : (Lib.decDigits (a.natAbs / 2 ^ f)).length ≤ 20 := (pad_dec 20 _ (by decide) (by omega)).1
  have l2 := frs_len_f f (a.natAbs % 2 ^ f)
  unfold ftx
  simp only [List.length_append]
  have l3 : (if a < 0 then [45] else ([] : List UInt8)).length ≤ 1 := by split <;> simp
  have l4 : (if a.natAbs % 2 ^ f = 0 then ([] : List UInt8) else 46 :: frs f (a.natAbs % 2 ^ f)).length ≤ 33 := by
    split
    · simp
    · simp; omega
  omega

/-- The argument's box, in a world further on. -/
def O3 (w : World) (SL SS : Value) (F : Int) (W : World) : Prop := (W.cell? ⟨w.heap.size, 0, none⟩ = some SL ∧ W.cell? ⟨w.heap.size, 1, none⟩ = some SS ∧ W.cell? ⟨w.heap.size, 2, none⟩ = some (.int .i64 F)) ∧ Below w.heap.size w W ∧ w.heap.size < W.heap.size
theorem O3.start (w : World) (SL SS : Value) (F : Int) (t : TypeId) : O3 w SL SS F (w.alloc (.cells #[SL, SS, .int .i64 F] t)) := by
  have h := fun i => cell_of_row (w.alloc (.cells #[SL, SS, .int .i64 F] t)) w.heap.size i #[SL, SS, .int .i64 F] t (0, 0) (heap_alloc_new w _)
  exact ⟨⟨h 0, h 1, h 2⟩, (Below.refl _ _).alloc (Nat.le_refl _) _, by simp⟩
theorem O3.next {w W W' : World} {SL SS : Value} {F : Int} (h : O3 w SL SS F W) (hb : Below W.heap.size W W') : O3 w SL SS F W' := by
  obtain ⟨⟨a, b, c⟩, e, f⟩ := h
  exact ⟨⟨(hb.cell (p := ⟨_, 0, none⟩) f).trans a, (hb.cell (p := ⟨_, 1, none⟩) f).trans b, (hb.cell (p := ⟨_, 2, none⟩) f).trans c⟩, e.trans (hb.mono e.size), Nat.lt_of_lt_of_le f hb.size⟩

set_option maxRecDepth 100000 in
set_option maxHeartbeats 8000000 in
theorem texts_any (oL : Option Addr) (nL cL : Nat) (ws : Nat → Int) (oS : Option Addr) (nS cS : Nat) (ss : Nat → ByteArray) (F : Int) (w : World) (_l1 : nL ≤ 9223372036854775807) (_l2 : nS ≤ 9223372036854775807)
    (hL : Cel w oL nL (fun i => .int .i64 (ws i))) (hs : ∀ i, i < nS → (ss i).size ≤ maxLen) (hS : Cel w oS nS (fun i => .string (ss i))) (htab : Hid (Lib.TabIs Tryz.prog w "internal/strconv.uint64pow10" .u64 Lib.pow10Tab)) :
    Calls Tryz.prog 3 #[.agg #[.slice oL nL cL, .slice oS nS cS, .int .i64 F]] w fun e w' => e = .returned (.bool true) ∧ Below w.heap.size w w' := by
  have FF := fun W : World => ff_any F W
  obtain ⟨t, ht⟩ : ∃ t : Nat, (t : Int) = F % 18446744073709551616 % 25 := ⟨(F % 18446744073709551616 % 25).toNat, by omega⟩
  have tb : t < 25 := by omega
  rw [← ht] at FF
  have FF := Lib.hid FF
  have HL := Lib.hid hL
  have HS := Lib.hid (And.intro hS hs)
  clear ht hL hS hs
  have ef : ((8 + t : Nat) : Int) = 8 + (t : Int) := by omega
  have TX : Hid (∀ (a : Int), wd a = true → ∀ W : World, Hid (O3 w (.slice oL nL cL) (.slice oS nS cS) F W) → Calls Tryz.prog 5 #[.int .i64 a, .int .i64 (8 + (t : Int))] W fun e w' => e = .returned (.tuple #[.string ⟨(ftx a (8 + t)).toArray⟩, .int .i64 0]) ∧ Below W.heap.size W w') := fun a ga W hW => by
    have := ftext_any a (8 + t) W ga (by omega) (by omega) (Lib.tabBelow_of_tabIs htab.out _ hW.out.2.1)
    rwa [ef] at this
  have RT : Hid (∀ (a : Int), wd a = true → ∀ W : World, Calls Tryz.prog 9 #[.int .i64 a, .int .i64 (8 + (t : Int))] W fun e w' => e = .returned (.string ⟨(ftx a (8 + t)).toArray⟩) ∧ Below W.heap.size W w') := fun a ga W => by
    have := rtext_any a (8 + t) W ga (by omega)
    rwa [ef] at this
  have PS : Hid (∀ (s : ByteArray) (W : World), Calls Tryz.prog 8 #[.string s, .int .i64 (8 + (t : Int))] W fun e w' => e = .returned (.tuple #[.int .i64 (pres s.data.toList (8 + t)).1, .int .i64 (pres s.data.toList (8 + t)).2]) ∧ Below W.heap.size W w') := fun s W => by
    have := parse_any s (8 + t) W (by omega) (by omega)
    rwa [ef] at this
  have RP : Hid (∀ (s : ByteArray) (W : World), Calls Tryz.prog 10 #[.string s, .int .i64 (8 + (t : Int))] W fun e w' => e = .returned (.tuple #[.int .i64 (pres s.data.toList (8 + t)).1, .int .i64 (pres s.data.toList (8 + t)).2]) ∧ Below W.heap.size W w') := fun s W => by
    have := rparse_any s (8 + t) W (by omega)
    rwa [ef] at this
  have O0 := Lib.hid (O3.start w (.slice oL nL cL) (.slice oS nS cS) F 25)
  clear htab ef
  go_enter Tryz.func3, Tryz.ntmps3
  go_wp2_with (go_at_call 4; (with_reducible refine (FF.out _).mono ?_); rintro e w' ⟨rfl, rfl⟩)
  go_loopw [4] (fun s4 wr => ∃ k : Nat, k ≤ nL ∧ s4 = .int .i64 k ∧ Hid (O3 w (.slice oL nL cL) (.slice oS nS cS) F wr)) (fun s4 _ => nL - (intOf s4).toNat)
  case atStart => exact ⟨0, Nat.zero_le _, rfl, O0⟩
  case round =>
    obtain ⟨k, hk, rfl, O1⟩ := hrel
    obtain ⟨⟨x10, x11, x12⟩, _, z1⟩ := O1.out
    by_cases g : k < nL ∧ k < 30
    · obtain ⟨g1, g2⟩ := g
      obtain ⟨b, f, rfl, c1⟩ := HL.out.below O1.out.2.1 g1
      have HC : Hid (∀ W, Hid (O3 w (.slice (some ⟨b, f, none⟩) nL cL) (.slice oS nS cS) F W) → W.cell? ⟨b, f + k, none⟩ = some (.int .i64 (ws k))) := fun W hW => by
        obtain ⟨b', f', e, c⟩ := HL.out.below hW.out.2.1 g1
        simp only [Option.some.injEq, Addr.mk.injEq, and_true] at e
        obtain ⟨rfl, rfl⟩ := e
        exact c
      obtain ⟨a, ha⟩ : ∃ a, a = ws k := ⟨_, rfl⟩
      rw [← ha] at c1 HC
      clear ha
      have MY := fun W : World => may_any a W
      cases ga : wd a with
      | false =>
        rw [ga] at MY
        have MY := Lib.hid MY
        have TN := Lib.hid (fun W : World => ftext_no a (8 + (t : Int)) W ga)
        clear ga
        go_wp2_with (first | (go_at_call 5; (with_reducible refine (TN.out _).mono ?_); rintro e w2 ⟨rfl, hb2⟩; have O2 := Lib.hid (O1.out.next hb2); obtain ⟨⟨x20, x21, x22⟩, _, z2⟩ := O2.out; have c2 := HC.out _ O2) | (go_at_call 6; (with_reducible refine (MY.out _).mono ?_); rintro e w' ⟨rfl, rfl⟩) | (go_at_call 7; (with_reducible refine (num2_any _ _).mono ?_); rintro e w' ⟨rfl, rfl⟩))
        refine ⟨⟨k + 1, by omega, by go_num, O2⟩, by simp [intOf]; omega⟩
      | true =>
        rw [ga] at MY
        have MY := Lib.hid MY
        have T1 := Lib.hid (TX.out a ga)
        have R1 := Lib.hid (RT.out a ga)
        obtain ⟨Z, hZ⟩ : ∃ Z : ByteArray, Z = ⟨(ftx a (8 + t)).toArray⟩ := ⟨_, rfl⟩
        have P1 := PS.out Z
        have pz : pres Z.data.toList (8 + t) = (a, 0) := by
          rw [hZ]
          exact pres_ftx a (8 + t) ga (ftx_len ga (by omega))
        rw [pz] at P1
        rw [← hZ] at T1 R1
        have P1 := Lib.hid P1
        clear ga pz hZ
        go_wp2_with (first | (go_at_call 5; (with_reducible refine (T1.out _ O1).mono ?_); rintro e w2 ⟨rfl, hb2⟩; have O2 := Lib.hid (O1.out.next hb2); obtain ⟨⟨x20, x21, x22⟩, _, z2⟩ := O2.out; have c2 := HC.out _ O2) | (go_at_call 6; (with_reducible refine (MY.out _).mono ?_); rintro e w' ⟨rfl, rfl⟩) | (go_at_call 7; (with_reducible refine (num2_any _ _).mono ?_); rintro e w' ⟨rfl, rfl⟩) | (go_at_call 8; (with_reducible refine (P1.out _).mono ?_); rintro e w3 ⟨rfl, hb3⟩; have O3' := Lib.hid (O2.out.next hb3); obtain ⟨⟨x30, x31, x32⟩, _, z3⟩ := O3'.out; have c3 := HC.out _ O3') | (go_at_call 9; (with_reducible refine (R1.out _).mono ?_); rintro e w4 ⟨rfl, hb4⟩; have O4 := Lib.hid (O3'.out.next hb4); obtain ⟨⟨x40, x41, x42⟩, _, z4⟩ := O4.out; have c4 := HC.out _ O4))
        refine ⟨⟨k + 1, by omega, by go_num, O4⟩, by simp [intOf]; omega⟩
    · have gg : (k < nL ∧ 30 ≤ k) ∨ nL ≤ k := by omega
      clear g
      rcases gg with ⟨g1, g2⟩ | g1
      all_goals
        go_wp2
        clear x10 x11 x12
        go_loopw [9] (fun s9 wr => ∃ k : Nat, k ≤ nS ∧ s9 = .int .i64 k ∧ Hid (O3 w (.slice oL nL cL) (.slice oS nS cS) F wr)) (fun s9 _ => nS - (intOf s9).toNat)
        case atStart => exact ⟨0, Nat.zero_le _, rfl, O1⟩
        case round =>
          obtain ⟨j, hj, rfl, O5⟩ := hrel
          obtain ⟨⟨x50, x51, x52⟩, _, z5⟩ := O5.out
          by_cases g : j < nS ∧ j < 30
          · obtain ⟨g3, g4⟩ := g
            obtain ⟨b, f, rfl, c5⟩ := HS.out.1.below O5.out.2.1 g3
            have hs := HS.out.2 j g3
            have HC : Hid (∀ W, Hid (O3 w (.slice oL nL cL) (.slice (some ⟨b, f, none⟩) nS cS) F W) → W.cell? ⟨b, f + j, none⟩ = some (.string (ss j))) := fun W hW => by
              obtain ⟨b', f', e, c⟩ := HS.out.1.below hW.out.2.1 g3
              simp only [Option.some.injEq, Addr.mk.injEq, and_true] at e
              obtain ⟨rfl, rfl⟩ := e
              exact c
            generalize ss j = Z at *
            have P1 := Lib.hid (PS.out Z)
            have R1 := Lib.hid (RP.out Z)
            generalize (pres Z.data.toList (8 + t)).1 = v at *
            generalize (pres Z.data.toList (8 + t)).2 = e at *
            unfold maxLen at hs
            by_cases g5 : 200 < Z.size
            · go_wp2
              go_ret
              exact ⟨rfl, O5.out.2.1⟩
            · go_wp2_with (first | (go_at_call 8; (with_reducible refine (P1.out _).mono ?_); rintro e w6 ⟨rfl, hb6⟩; have O6 := Lib.hid (O5.out.next hb6); obtain ⟨⟨x60, x61, x62⟩, _, z6⟩ := O6.out; have c6 := HC.out _ O6) | (go_at_call 10; (with_reducible refine (R1.out _).mono ?_); rintro e w7 ⟨rfl, hb7⟩; have O7 := Lib.hid (O6.out.next hb7); obtain ⟨⟨x70, x71, x72⟩, _, z7⟩ := O7.out; have c7 := HC.out _ O7) | (go_at_call 11; (with_reducible refine (is_same _ _ _).mono ?_); rintro e w' ⟨rfl, rfl⟩))
              refine ⟨⟨j + 1, by omega, by go_num, O7⟩, by simp [intOf]; omega⟩
          · have gg : (j < nS ∧ 30 ≤ j) ∨ nS ≤ j := by omega
            clear g
            rcases gg with ⟨g3, g4⟩ | g3
            all_goals
              go_wp2_with (go_at_call 12; (with_reducible refine (fwakes_any _).mono ?_); rintro e w9 ⟨rfl, hb9⟩)
              go_ret
              exact ⟨rfl, (O5.out.next hb9).2.1⟩
end Go.Proofs.YteplhlmdaabpaaaGreatDoor
