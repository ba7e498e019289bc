/-
  shape.Spread.
  The reference's shapes: counts, what may be, strides, places, indexes.
  The reference's shapes: places and indexes, spread shapes.
-/
import Derived.WalkMore
import Derived.Deep.QuietTactic
import Derived.BigQuiet
import Derived.IntWalk
import Derived.Test.YtpfcjajmfadcbaaGreatM01
import Derived.Test.YtpfcjajmfadcbaaGreatM02
namespace Go.Proofs.YtpfcjajmfadcbaaGreat
open Go.RowKit

/-- A list and an error. -/
def SomeL (w : World) (r : Int) (ls : List Int) (e : Ending) (w' : World) : Prop := ∃ v, e = .returned (.tuple #[v, .int .i64 r]) ∧ Ld w' v ls ∧ Below w.heap.size w w'

set_option maxRecDepth 100000 in
set_option maxHeartbeats 2000000 in
theorem over_any (vs : Value) (s : List Int) (w : World) (hs : Ld w vs s) (l4 : s.length ≤ 1073741824) (j : Nat) (j1 : 1 ≤ j) (j2 : j ≤ 1073741824) :
    Calls Tryz.prog 56 #[vs, .int .i64 j] w fun e w' => e = .returned (.int .i64 (ov s j)) ∧ w = w' := by
  obtain ⟨os, cs, rfl, _, hxs⟩ := hs
  have HS := Lib.hid hxs
  clear hxs
  by_cases h : s.length < j
  · have E : Hid (ov s j = 1) := by unfold ov; rw [if_pos h]; exact Lib.hid rfl
    go_enter Tryz.func56, Tryz.ntmps56
    go_wp2
    go_ret
    exact ⟨by rw [E.out]; rfl, rfl⟩
  · obtain ⟨q, hq⟩ : ∃ q, s.length = q + j := ⟨s.length - j, by omega⟩
    obtain ⟨b, f, rfl, hb, hc⟩ := HS.out q (by omega)
    have E : Hid (ov s j = s.getD q 0) := by unfold ov; rw [if_neg h, show s.length - j = q by omega]; exact Lib.hid rfl
    have e1 : ((q + j : Nat) : Int) - (j : Int) = (q : Int) := by omega
    have h2 : ¬ q + j < j := by omega
    rw [hq]
    rw [hq] at l4
    clear HS hq h
    generalize s.getD q 0 = x at *
    go_enter Tryz.func56, Tryz.ntmps56
    go_wp2
    go_ret
    exact ⟨by rw [E.out]; rfl, rfl⟩

set_option maxRecDepth 100000 in
set_option maxHeartbeats 4000000 in
theorem spread_any (va vb : Value) (a b : List Int) (w : World) (ha : Ld w va a) (hb : Ld w vb b) (ma : may a = true) (mb : may b = true) :
    Calls Tryz.prog 32 #[va, vb] w (SomeL w (spe a b) (spv a b)) := by
  obtain ⟨i0, hi0, hz0, hz1, hz2⟩ := info_parts infoI
  have la := may_len ma
  have lb := may_len mb
  have CA := Lib.hid (check_ok va a w ha ma)
  have CB := Lib.hid (check_ok vb b w hb mb)
  have OA := Lib.hid (fun (W : World) (h : Below w.heap.size w W) (j : Nat) (j1 : 1 ≤ j) (j2 : j ≤ 1073741824) => over_any va a W (ha.below h) (by omega) j j1 j2)
  have OB := Lib.hid (fun (W : World) (h : Below w.heap.size w W) (j : Nat) (j1 : 1 ≤ j) (j2 : j ≤ 1073741824) => over_any vb b W (hb.below h) (by omega) j j1 j2)
  have HM := Lib.hid (And.intro (may_dms ma) (may_dms mb))
  obtain ⟨oa, ca, rfl, _, _⟩ := ha
  obtain ⟨ob, cb, rfl, _, _⟩ := hb
  obtain ⟨n, hn⟩ : ∃ n, n = mx a b := ⟨_, rfl⟩
  have e1 : max (a.length : Int) (b.length : Int) = (n : Int) := by rw [hn]; unfold mx; omega
  have hn4 : n ≤ 4 := by rw [hn]; unfold mx; omega
  have mk : (Instr.makeSlice 23 (.int .i64 (n : Int)) (.int .i64 (n : Int))).run Tryz.prog w = .ok (.slice (some ⟨w.heap.size, 0, none⟩) n n) (w.alloc (.cells (madeCells #[.int .i64 0] n) 3)) := by
    have := run_make (w := w) 23 3 i0 (.int .i64 0) Tryz.underlying23 hi0 hz0 .i64 .i64 n n (by omega) (by omega) (by rw [hz2]; omega) (by omega)
    rw [this, hz1]; simp [Value.cells]
  rw [made_ints] at mk
  have hn2 : (n = b.length ∧ a.length < b.length) ∨ (n = a.length ∧ ¬ a.length < b.length) := by rw [hn]; unfold mx; omega
  have HN := Lib.hid hn
  clear ma mb hn e1
  have mks : ∃ m : Nat, (m = b.length ∧ a.length < b.length ∨ m = a.length ∧ ¬ a.length < b.length) ∧ (Instr.makeSlice 23 (.int .i64 (m : Int)) (.int .i64 (m : Int))).run Tryz.prog w = .ok (.slice (some ⟨w.heap.size, 0, none⟩) n n) (w.alloc (.cells (ints (List.replicate n 0)).toArray 3)) := ⟨n, hn2, mk⟩
  clear mk hn2
  obtain ⟨m, hm2, mk⟩ := mks
  rcases hm2 with ⟨rfl, h2⟩ | ⟨rfl, h2⟩
  · go_enter Tryz.func32, Tryz.ntmps32
    go_wp2
    go_step3
    go_wp2_with (first | (go_at_call 55; (with_reducible refine CA.out.mono ?_); rintro e w' ⟨rfl, rfl⟩) | (go_at_call 55; (with_reducible refine CB.out.mono ?_); rintro e w' ⟨rfl, rfl⟩))
    clear mk
    go_step3
    go_wp2
    go_loopw [7, 27] (fun s7 s27 wr => ∃ (k : Nat) (L : List Int), k ≤ n ∧ s27 = .int .i64 k ∧ s7 = .bool true ∧ Blk wr w.heap.size 3 (ints L).toArray ∧ Hid (L.length = n ∧ (∀ j, j < k → L.getD j 0 = gr (ov a (n - j)) (ov b (n - j))) ∧ ∀ j, n - k < j → j ≤ n → fa a b j = true) ∧ Below w.heap.size w wr) (fun _ s27 _ => n - (intOf s27).toNat)
    case atStart => exact ⟨0, List.replicate n 0, Nat.zero_le _, rfl, rfl, Blk.new _ _ _, ⟨by simp, fun j hj => absurd hj (Nat.not_lt_zero _), fun j h1 h2 => by omega⟩, (Below.refl _ _).alloc (Nat.le_refl _) _⟩
    case round =>
      obtain ⟨k, L, hk, rfl, rfl, hblk, HL, hB⟩ := hrel
      have hBs := hB.size
      by_cases hlt : k < n
      · obtain ⟨j, hj⟩ : ∃ j, j = n - k := ⟨_, rfl⟩
        have ej : (n : Int) - (k : Int) = (j : Int) := by omega
        have A1 := Lib.hid (OA.out wr hB j (by omega) (by omega))
        have B1 := Lib.hid (OB.out wr hB j (by omega) (by omega))
        have kc := hblk.cell k
        have hL := HL.out.1
        rw [ints_at (by omega)] at kc
        have kf := hblk.frozen k
        generalize L.getD k 0 = l0 at kc
        have HG : Hid (∀ v : Int, v = gr (ov a j) (ov b j) → fa a b j = true → (L.set k v).length = n ∧ (∀ i, i < k + 1 → (L.set k v).getD i 0 = gr (ov a (n - i)) (ov b (n - i))) ∧ ∀ i, n - (k + 1) < i → i ≤ n → fa a b i = true) := by
          intro v hv hf
          have H := HL.out
          refine ⟨by simpa using hL, fun i hi => ?_, fun i h1 h2 => ?_⟩
          · by_cases e : k = i
            · subst e; rw [set_getD_self (by omega), hv, hj]
            · rw [set_getD_ne e]; exact H.2.1 i (by omega)
          · by_cases e : i = j
            · subst e; exact hf
            · exact H.2.2 i (by omega) h2
        have HF : Hid (fa a b j = true ↔ ov a j = ov b j ∨ ov a j = 1 ∨ ov b j = 1) := fa_iff a b j
        have HE : Hid (fa a b j = false → spe a b = 2 ∧ spv a b = []) := by
          intro hf
          have : fit a b = false := by
            cases h : fit a b with
            | false => rfl
            | true => rw [(fitN_iff a b _).1 h j (by omega) (by rw [← HN.out]; omega)] at hf; cases hf
          have e : spe a b = 2 := by unfold spe; rw [this]; rfl
          exact ⟨e, by unfold spv; rw [if_neg (by omega)]⟩
        generalize ov a j = x at *
        generalize ov b j = y at *
        have HJ := Lib.hid (And.intro hj hL)
        clear hj hL
        have AR : ∀ (Q : Prop), Q → Q := fun _ h => h
        by_cases g1 : x = y
        · subst g1
          have R := Lib.hid (HG.out x (by unfold gr; split <;> rfl) (HF.out.2 (.inl rfl)))
          clear AR
          go_wp2_with (first | (go_at_call 56; (with_reducible refine A1.out.mono ?_); rintro e w' ⟨rfl, rfl⟩) | (go_at_call 56; (with_reducible refine B1.out.mono ?_); rintro e w' ⟨rfl, rfl⟩))
          refine ⟨⟨k + 1, L.set k x, by omega, by go_num, rfl, hblk.put k x, R, hB.setCell (Nat.le_refl _) _⟩, by simp [intOf]; omega⟩
        have b1 : (x == y) = false := by rw [beq_eq_false_iff_ne]; exact g1
        by_cases g2 : y = 1
        · subst g2
          have R := Lib.hid (HG.out x (by unfold gr; rfl) (HF.out.2 (.inr (.inr rfl))))
          clear AR g1
          go_wp2_with (first | (go_at_call 56; (with_reducible refine A1.out.mono ?_); rintro e w' ⟨rfl, rfl⟩) | (go_at_call 56; (with_reducible refine B1.out.mono ?_); rintro e w' ⟨rfl, rfl⟩))
          refine ⟨⟨k + 1, L.set k x, by omega, by go_num, rfl, hblk.put k x, R, hB.setCell (Nat.le_refl _) _⟩, by simp [intOf]; omega⟩
        have b2 : (y == 1) = false := by rw [beq_eq_false_iff_ne]; exact g2
        by_cases g3 : x = 1
        · subst g3
          have R := Lib.hid (HG.out y (by unfold gr; rw [if_neg g2]) (HF.out.2 (.inr (.inl rfl))))
          clear AR g1 g2
          go_wp2_with (first | (go_at_call 56; (with_reducible refine A1.out.mono ?_); rintro e w' ⟨rfl, rfl⟩) | (go_at_call 56; (with_reducible refine B1.out.mono ?_); rintro e w' ⟨rfl, rfl⟩))
          refine ⟨⟨k + 1, L.set k y, by omega, by go_num, rfl, hblk.put k y, R, hB.setCell (Nat.le_refl _) _⟩, by simp [intOf]; omega⟩
        have b3 : (x == 1) = false := by rw [beq_eq_false_iff_ne]; exact g3
        have R := Lib.hid (HE.out (by
          cases h : fa a b j with
          | false => rfl
          | true => rcases HF.out.1 h with h | h | h
                    · exact absurd h g1
                    · exact absurd h g3
                    · exact absurd h g2))
        clear AR g1 g2 g3
        go_wp2_with (first | (go_at_call 56; (with_reducible refine A1.out.mono ?_); rintro e w' ⟨rfl, rfl⟩) | (go_at_call 56; (with_reducible refine B1.out.mono ?_); rintro e w' ⟨rfl, rfl⟩))
        rw [Exit.noGoto_ret]
        go_ret2
        exact ⟨_, by rw [R.out.1]; rfl, by rw [R.out.2]; exact Ld.nil _, hB⟩
      · obtain rfl : k = n := by omega
        have E : L = spr a b := by
          have H := HL.out
          unfold spr
          rw [← HN.out]
          refine ext_getD (by rw [spl_len]; exact H.1) fun i hi => ?_
          rw [spl_getD _ _ _ _ (by omega)]
          exact H.2.1 i (by omega)
        have hfit : fit a b = true := by
          unfold fit
          rw [← HN.out]
          exact (fitN_iff _ _ _).2 fun j h1 h2 => HL.out.2.2 j (by omega) h2
        have hL := HL.out.1
        subst E
        have hld := Ld.of_blk hblk (c := k) (by omega)
        rw [hL] at hld
        cases hm : may (spr a b) with
        | true =>
          have R : Hid (spe a b = 0 ∧ spv a b = spr a b) := by
            have e : spe a b = 0 := by unfold spe; rw [if_pos hfit, if_pos hm]
            exact ⟨e, by unfold spv; rw [if_pos e]⟩
          have C := Lib.hid (check_ok _ _ wr hld hm)
          have HLD := Lib.hid hld
          clear hfit hm hld hL
          go_wp2_with (go_at_call 55; (with_reducible refine C.out.mono ?_); rintro e w' ⟨rfl, rfl⟩)
          rw [Exit.noGoto_ret]
          go_ret2
          exact ⟨_, by rw [R.out.1]; rfl, by rw [R.out.2]; exact HLD.out, hB⟩
        | false =>
          have R : Hid (spe a b = 5 ∧ spv a b = []) := by
            have e : spe a b = 5 := by unfold spe; rw [if_pos hfit, hm]; rfl
            exact ⟨e, by unfold spv; rw [if_neg (by omega)]⟩
          have C := Lib.hid (check_no _ _ wr hld hm)
          clear hfit hm hld hL
          go_wp2_with (go_at_call 55; (with_reducible refine C.out.mono ?_); rintro e w' ⟨rfl, rfl⟩)
          rw [Exit.noGoto_ret]
          go_ret2
          exact ⟨_, by rw [R.out.1]; rfl, by rw [R.out.2]; exact Ld.nil _, hB⟩
  · go_enter Tryz.func32, Tryz.ntmps32
    go_wp2
    go_step3
    go_wp2_with (first | (go_at_call 55; (with_reducible refine CA.out.mono ?_); rintro e w' ⟨rfl, rfl⟩) | (go_at_call 55; (with_reducible refine CB.out.mono ?_); rintro e w' ⟨rfl, rfl⟩))
    clear mk
    go_step3
    go_wp2
    go_loopw [7, 27] (fun s7 s27 wr => ∃ (k : Nat) (L : List Int), k ≤ n ∧ s27 = .int .i64 k ∧ s7 = .bool true ∧ Blk wr w.heap.size 3 (ints L).toArray ∧ Hid (L.length = n ∧ (∀ j, j < k → L.getD j 0 = gr (ov a (n - j)) (ov b (n - j))) ∧ ∀ j, n - k < j → j ≤ n → fa a b j = true) ∧ Below w.heap.size w wr) (fun _ s27 _ => n - (intOf s27).toNat)
    case atStart => exact ⟨0, List.replicate n 0, Nat.zero_le _, rfl, rfl, Blk.new _ _ _, ⟨by simp, fun j hj => absurd hj (Nat.not_lt_zero _), fun j h1 h2 => by omega⟩, (Below.refl _ _).alloc (Nat.le_refl _) _⟩
    case round =>
      obtain ⟨k, L, hk, rfl, rfl, hblk, HL, hB⟩ := hrel
      have hBs := hB.size
      by_cases hlt : k < n
      · obtain ⟨j, hj⟩ : ∃ j, j = n - k := ⟨_, rfl⟩
        have ej : (n : Int) - (k : Int) = (j : Int) := by omega
        have A1 := Lib.hid (OA.out wr hB j (by omega) (by omega))
        have B1 := Lib.hid (OB.out wr hB j (by omega) (by omega))
        have kc := hblk.cell k
        have hL := HL.out.1
        rw [ints_at (by omega)] at kc
        have kf := hblk.frozen k
        generalize L.getD k 0 = l0 at kc
        have HG : Hid (∀ v : Int, v = gr (ov a j) (ov b j) → fa a b j = true → (L.set k v).length = n ∧ (∀ i, i < k + 1 → (L.set k v).getD i 0 = gr (ov a (n - i)) (ov b (n - i))) ∧ ∀ i, n - (k + 1) < i → i ≤ n → fa a b i = true) := by
          intro v hv hf
          have H := HL.out
          refine ⟨by simpa using hL, fun i hi => ?_, fun i h1 h2 => ?_⟩
          · by_cases e : k = i
            · subst e; rw [set_getD_self (by omega), hv, hj]
            · rw [set_getD_ne e]; exact H.2.1 i (by omega)
          · by_cases e : i = j
            · subst e; exact hf
            · exact H.2.2 i (by omega) h2
        have HF : Hid (fa a b j = true ↔ ov a j = ov b j ∨ ov a j = 1 ∨ ov b j = 1) := fa_iff a b j
        have HE : Hid (fa a b j = false → spe a b = 2 ∧ spv a b = []) := by
          intro hf
          have : fit a b = false := by
            cases h : fit a b with
            | false => rfl
            | true => rw [(fitN_iff a b _).1 h j (by omega) (by rw [← HN.out]; omega)] at hf; cases hf
          have e : spe a b = 2 := by unfold spe; rw [this]; rfl
          exact ⟨e, by unfold spv; rw [if_neg (by omega)]⟩
        generalize ov a j = x at *
        generalize ov b j = y at *
        have HJ := Lib.hid (And.intro hj hL)
        clear hj hL
        have AR : ∀ (Q : Prop), Q → Q := fun _ h => h
        by_cases g1 : x = y
        · subst g1
          have R := Lib.hid (HG.out x (by unfold gr; split <;> rfl) (HF.out.2 (.inl rfl)))
          clear AR
          go_wp2_with (first | (go_at_call 56; (with_reducible refine A1.out.mono ?_); rintro e w' ⟨rfl, rfl⟩) | (go_at_call 56; (with_reducible refine B1.out.mono ?_); rintro e w' ⟨rfl, rfl⟩))
          refine ⟨⟨k + 1, L.set k x, by omega, by go_num, rfl, hblk.put k x, R, hB.setCell (Nat.le_refl _) _⟩, by simp [intOf]; omega⟩
        have b1 : (x == y) = false := by rw [beq_eq_false_iff_ne]; exact g1
        by_cases g2 : y = 1
        · subst g2
          have R := Lib.hid (HG.out x (by unfold gr; rfl) (HF.out.2 (.inr (.inr rfl))))
          clear AR g1
          go_wp2_with (first | (go_at_call 56; (with_reducible refine A1.out.mono ?_); rintro e w' ⟨rfl, rfl⟩) | (go_at_call 56; (with_reducible refine B1.out.mono ?_); rintro e w' ⟨rfl, rfl⟩))
          refine ⟨⟨k + 1, L.set k x, by omega, by go_num, rfl, hblk.put k x, R, hB.setCell (Nat.le_refl _) _⟩, by simp [intOf]; omega⟩
        have b2 : (y == 1) = false := by rw [beq_eq_false_iff_ne]; exact g2
        by_cases g3 : x = 1
        · subst g3
          have R := Lib.hid (HG.out y (by unfold gr; rw [if_neg g2]) (HF.out.2 (.inr (.inl rfl))))
          clear AR g1 g2
          go_wp2_with (first | (go_at_call 56; (with_reducible refine A1.out.mono ?_); rintro e w' ⟨rfl, rfl⟩) | (go_at_call 56; (with_reducible refine B1.out.mono ?_); rintro e w' ⟨rfl, rfl⟩))
          refine ⟨⟨k + 1, L.set k y, by omega, by go_num, rfl, hblk.put k y, R, hB.setCell (Nat.le_refl _) _⟩, by simp [intOf]; omega⟩
        have b3 : (x == 1) = false := by rw [beq_eq_false_iff_ne]; exact g3
        have R := Lib.hid (HE.out (by
          cases h : fa a b j with
          | false => rfl
          | true => rcases HF.out.1 h with h | h | h
                    · exact absurd h g1
                    · exact absurd h g3
                    · exact absurd h g2))
        clear AR g1 g2 g3
        go_wp2_with (first | (go_at_call 56; (with_reducible refine A1.out.mono ?_); rintro e w' ⟨rfl, rfl⟩) | (go_at_call 56; (with_reducible refine B1.out.mono ?_); rintro e w' ⟨rfl, rfl⟩))
        rw [Exit.noGoto_ret]
        go_ret2
        exact ⟨_, by rw [R.out.1]; rfl, by rw [R.out.2]; exact Ld.nil _, hB⟩
      · obtain rfl : k = n := by omega
        have E : L = spr a b := by
          have H := HL.out
          unfold spr
          rw [← HN.out]
          refine ext_getD (by rw [spl_len]; exact H.1) fun i hi => ?_
          rw [spl_getD _ _ _ _ (by omega)]
          exact H.2.1 i (by omega)
        have hfit : fit a b = true := by
          unfold fit
          rw [← HN.out]
          exact (fitN_iff _ _ _).2 fun j h1 h2 => HL.out.2.2 j (by omega) h2
        have hL := HL.out.1
        subst E
        have hld := Ld.of_blk hblk (c := k) (by omega)
        rw [hL] at hld
        cases hm : may (spr a b) with
        | true =>
          have R : Hid (spe a b = 0 ∧ spv a b = spr a b) := by
            have e : spe a b = 0 := by unfold spe; rw [if_pos hfit, if_pos hm]
            exact ⟨e, by unfold spv; rw [if_pos e]⟩
          have C := Lib.hid (check_ok _ _ wr hld hm)
          have HLD := Lib.hid hld
          clear hfit hm hld hL
          go_wp2_with (go_at_call 55; (with_reducible refine C.out.mono ?_); rintro e w' ⟨rfl, rfl⟩)
          rw [Exit.noGoto_ret]
          go_ret2
          exact ⟨_, by rw [R.out.1]; rfl, by rw [R.out.2]; exact HLD.out, hB⟩
        | false =>
          have R : Hid (spe a b = 5 ∧ spv a b = []) := by
            have e : spe a b = 5 := by unfold spe; rw [if_pos hfit, hm]; rfl
            exact ⟨e, by unfold spv; rw [if_neg (by omega)]⟩
          have C := Lib.hid (check_no _ _ wr hld hm)
          clear hfit hm hld hL
          go_wp2_with (go_at_call 55; (with_reducible refine C.out.mono ?_); rintro e w' ⟨rfl, rfl⟩)
          rw [Exit.noGoto_ret]
          go_ret2
          exact ⟨_, by rw [R.out.1]; rfl, by rw [R.out.2]; exact Ld.nil _, hB⟩

set_option maxRecDepth 100000 in
set_option maxHeartbeats 2000000 in
theorem spread_no (va vb : Value) (a b : List Int) (w : World) (ha : Ld w va a) (hb : Ld w vb b) (hm : (may a && may b) = false) :
    Calls Tryz.prog 32 #[va, vb] w fun e w' => e = .returned (.tuple #[.slice none 0 0, .int .i64 1]) ∧ w = w' := by
  cases ma : may a with
  | false =>
    have C := Lib.hid (check_no va a w ha ma)
    clear ha hb hm ma
    go_enter Tryz.func32, Tryz.ntmps32
    go_wp2
    go_step3
    go_wp2_with (go_at_call 55; (with_reducible refine C.out.mono ?_); rintro e w' ⟨rfl, rfl⟩)
    rw [Exit.noGoto_ret]
    go_ret2
    exact ⟨rfl, rfl⟩
  | true =>
    have mb : may b = false := by rw [ma, Bool.true_and] at hm; exact hm
    have C := Lib.hid (check_ok va a w ha ma)
    have D := Lib.hid (check_no vb b w hb mb)
    clear ha hb hm ma mb
    go_enter Tryz.func32, Tryz.ntmps32
    go_wp2
    go_step3
    go_wp2_with (first | (go_at_call 55; (with_reducible refine C.out.mono ?_); rintro e w' ⟨rfl, rfl⟩) | (go_at_call 55; (with_reducible refine D.out.mono ?_); rintro e w' ⟨rfl, rfl⟩))
    rw [Exit.noGoto_ret]
    go_ret2
    exact ⟨rfl, rfl⟩
end Go.Proofs.YtpfcjajmfadcbaaGreat
namespace Go.Proofs.YtpfcjajmfadcbaaGreat
open Go.RowKit

/-- The reference's count. -/
def rct (ls : List Int) : Int := if cnt 1 ls = 0 then 65537 else cnt 1 ls
theorem may_rct {ls : List Int} (h4 : ls.length ≤ 4) : decide (rct ls ≤ 65536) = may ls := by
  unfold rct
  rcases cnt_cases ls 1 (by decide) (by decide) with h | ⟨h1, h2, _, _⟩
  · rw [if_pos h, may_not h]; rfl
  · rw [if_neg (by omega), may_yes h4 (by omega)]; simpa using h2
theorem rct_may {ls : List Int} (h : may ls = true) : rct ls = prod ls := by
  unfold rct
  rw [may_cnt h, if_neg (by have := may_prod h; omega)]

set_option maxRecDepth 100000 in
set_option maxHeartbeats 4000000 in
theorem rcount_any (v : Value) (ls : List Int) (w : World) (h : Ld w v ls) (hd : dms ls) (l4 : ls.length ≤ 1073741824) :
    Calls Tryz.prog 20 #[v] w fun e w' => e = .returned (.int .i64 (rct ls)) ∧ w = w' := by
  obtain ⟨o, c, rfl, _, hx⟩ := h
  have HX := Lib.hid hx
  have HD := Lib.hid hd
  clear hx hd
  go_enter Tryz.func20, Tryz.ntmps20
  go_wp2
  go_loop [3, 4] (fun s3 s4 => ∃ (k : Nat) (m : Int), k ≤ ls.length ∧ 1 ≤ m ∧ m ≤ 65536 ∧ s4 = .int .i64 k ∧ s3 = .int .i64 m ∧ Hid (cnt m (ls.drop k) = cnt 1 ls)) (fun _ s4 => ls.length - (intOf s4).toNat)
  case atStart => exact ⟨0, 1, Nat.zero_le _, by decide, by decide, rfl, rfl, rfl⟩
  case round =>
    obtain ⟨k, m, hk, m0, m1, rfl, rfl, HM⟩ := hrel
    by_cases hlt : k < ls.length
    · obtain ⟨b, f, rfl, hb, hc⟩ := HX.out k hlt
      have st := cnt_step hlt m
      rw [HM.out] at st
      have dd := HD.out _ (getD_mem hlt)
      obtain ⟨d, hd⟩ : ∃ d, d = ls.getD k 0 := ⟨_, rfl⟩
      rw [← hd] at st hc dd
      obtain ⟨d1, d2⟩ := dd
      have dn : ¬ 65536 < d := by omega
      have md : m * d ≤ 65536 * 4096 := Int.mul_le_mul m1 d2 (by omega) (by decide)
      have m2 : 1 ≤ m * d := by have := Int.mul_le_mul m0 d1 (by decide) (by omega); omega
      by_cases g : m * d ≤ 65536
      · rw [if_pos ⟨d1, d2, by rw [Int.mul_comm]; exact g⟩] at st
        have ST := Lib.hid st
        have g' : ¬ 65536 < m * d := by omega
        clear st hd md
        go_wp2
        refine ⟨⟨k + 1, m * d, by omega, m2, g, by go_num, rfl, by unfold Hid; rw [← ST.out]⟩, by simp [intOf]; omega⟩
      · rw [if_neg (by rw [Int.mul_comm]; omega)] at st
        have E : Hid (rct ls = 65537) := by unfold rct; rw [if_pos st]; exact Lib.hid rfl
        have g' : 65536 < m * d := by omega
        clear st hd
        go_wp2
        go_ret
        exact ⟨by rw [E.out]; rfl, rfl⟩
    · have E : Hid (m = rct ls) := by
        have := HM.out
        rw [List.drop_eq_nil_of_le (by omega)] at this
        unfold rct
        rw [← this, if_neg (by show cnt m [] ≠ 0; simp [cnt]; omega)]
        exact Lib.hid rfl
      go_wp2
      go_ret
      exact ⟨by rw [← E.out]; rfl, rfl⟩

set_option maxRecDepth 100000 in
set_option maxHeartbeats 4000000 in
theorem rmay_any (v : Value) (ls : List Int) (w : World) (h : Ld w v ls) (l4 : ls.length ≤ 1073741824) :
    Calls Tryz.prog 28 #[v] w fun e w' => e = .returned (.bool (may ls)) ∧ w = w' := by
  by_cases h4 : 4 < ls.length
  · have E : Hid (may ls = false) := may_long h4
    obtain ⟨o, c, rfl, _, _⟩ := h
    go_enter Tryz.func28, Tryz.ntmps28
    go_wp2
    go_ret
    exact ⟨by rw [E.out]; rfl, rfl⟩
  have C := Lib.hid (fun hd => rcount_any v ls w h hd (by omega))
  obtain ⟨o, c, rfl, _, hx⟩ := h
  have HX := Lib.hid hx
  have HR : Hid (decide (rct ls ≤ 65536) = may ls) := may_rct (by omega)
  clear hx
  go_enter Tryz.func28, Tryz.ntmps28
  go_wp2
  go_loop [3] (fun s3 => ∃ k : Nat, k ≤ ls.length ∧ s3 = .int .i64 k ∧ Hid (∀ j, j < k → 1 ≤ ls.getD j 0 ∧ ls.getD j 0 ≤ 4096)) (fun s3 => ls.length - (intOf s3).toNat)
  case atStart => exact ⟨0, Nat.zero_le _, rfl, fun j hj => absurd hj (Nat.not_lt_zero _)⟩
  case round =>
    obtain ⟨k, hk, rfl, HK⟩ := hrel
    by_cases hlt : k < ls.length
    · obtain ⟨b, f, rfl, hb, hc⟩ := HX.out k hlt
      have HN : Hid (¬ (1 ≤ ls.getD k 0 ∧ ls.getD k 0 ≤ 4096) → may ls = false) := fun g => by
        cases h : may ls with
        | false => rfl
        | true => exact absurd (may_dim h hlt) g
      have HG : Hid (1 ≤ ls.getD k 0 ∧ ls.getD k 0 ≤ 4096 → ∀ j, j < k + 1 → 1 ≤ ls.getD j 0 ∧ ls.getD j 0 ≤ 4096) := fun g j hj => by
        by_cases e : j = k
        · subst e; exact g
        · exact HK.out j (by omega)
      generalize ls.getD k 0 = d at *
      by_cases g1 : d < 1
      · have R := Lib.hid (HN.out (by omega))
        go_wp2
        go_ret
        exact ⟨by rw [R.out]; rfl, rfl⟩
      by_cases g2 : 4096 < d
      · have R := Lib.hid (HN.out (by omega))
        go_wp2
        go_ret
        exact ⟨by rw [R.out]; rfl, rfl⟩
      have R := Lib.hid (HG.out (by omega))
      go_wp2
      refine ⟨⟨k + 1, by omega, by go_num, R⟩, by simp [intOf]; omega⟩
    · have hd : dms ls := by
        intro d hm
        obtain ⟨i, hi, rfl⟩ := List.mem_iff_getElem.1 hm
        have := HK.out i (by omega)
        simpa [List.getD, List.getElem?_eq_getElem hi] using this
      have C1 := Lib.hid (C.out hd)
      clear hd
      generalize rct ls = r at *
      go_wp2_with (go_at_call 20; (with_reducible refine C1.out.mono ?_); rintro e w' ⟨rfl, rfl⟩)
      go_ret
      exact ⟨by rw [← HR.out]; rfl, rfl⟩

set_option maxRecDepth 100000 in
set_option maxHeartbeats 4000000 in
theorem rstrides_any (v : Value) (ls : List Int) (w : World) (h : Ld w v ls) (hm : may ls = true) :
    Calls Tryz.prog 70 #[v] w fun e w' => e = .returned (.slice (some ⟨w.heap.size, 0, none⟩) ls.length ls.length) ∧ Blk w' w.heap.size 3 (ints (stl ls)).toArray ∧ Below w.heap.size w w' := by
  obtain ⟨i0, hi0, hz0, hz1, hz2⟩ := info_parts infoI
  obtain ⟨o, c, rfl, _, hx⟩ := h
  have HX := Lib.hid hx
  have l4 := may_len hm
  have HD : Hid (∀ k, k < ls.length → 1 ≤ ls.getD k 0 ∧ ls.getD k 0 ≤ 4096) := fun k hk => may_dim hm hk
  have HP : Hid (∀ k, 1 ≤ prod (ls.drop k) ∧ prod (ls.drop k) ≤ 65536) := may_drop hm
  have mk : (Instr.makeSlice 23 (.int .i64 (ls.length : Int)) (.int .i64 (ls.length : Int))).run Tryz.prog w = .ok (.slice (some ⟨w.heap.size, 0, none⟩) ls.length ls.length) (w.alloc (.cells (madeCells #[.int .i64 0] ls.length) 3)) := by
    have := run_make (w := w) 23 3 i0 (.int .i64 0) Tryz.underlying23 hi0 hz0 .i64 .i64 ls.length ls.length (by omega) (by omega) (by rw [hz2]; omega) (by omega)
    rw [this, hz1]; simp [Value.cells]
  rw [made_ints] at mk
  clear hx hm
  go_enter Tryz.func70, Tryz.ntmps70
  go_wp2
  clear mk
  go_loopw [4, 5] (fun s4 s5 wr => ∃ (k : Nat) (m : Int) (L : List Int), k ≤ ls.length ∧ s5 = .int .i64 ((k : Int) - 1) ∧ s4 = .int .i64 m ∧ Blk wr w.heap.size 3 (ints L).toArray ∧ Hid (L.length = ls.length ∧ m = prod (ls.drop k) ∧ ∀ i, k ≤ i → i < ls.length → L.getD i 0 = prod (ls.drop (i + 1))) ∧ Below w.heap.size w wr) (fun _ s5 _ => (intOf s5 + 1).toNat)
  case atStart => exact ⟨ls.length, 1, List.replicate ls.length 0, Nat.le_refl _, rfl, rfl, Blk.new _ _ _, ⟨by simp, by simp [prod], fun i h1 h2 => by omega⟩, (Below.refl _ _).alloc (Nat.le_refl _) _⟩
  case round =>
    obtain ⟨k, m, L, hk, rfl, rfl, hblk, HL, hB⟩ := hrel
    have hBs := hB.size
    cases k with
    | zero =>
      have E : L = stl ls := by
        refine ext_getD (by rw [stl_len]; exact HL.out.1) fun i hi => ?_
        have := HL.out.1
        rw [stl_getD _ _ (by omega)]
        exact HL.out.2.2 i (Nat.zero_le _) (by omega)
      subst E
      go_wp2
      go_ret
      exact ⟨rfl, hblk, hB⟩
    | succ k =>
      obtain ⟨b, f, rfl, hb, hc⟩ := HX.out k (by omega)
      have hc' : wr.cell? ⟨b, f + k, none⟩ = some (.int .i64 (ls.getD k 0)) := (hB.cell (p := ⟨b, f + k, none⟩) hb).trans hc
      have kc := hblk.cell k
      have hL := HL.out.1
      rw [ints_at (by omega)] at kc
      have kf := hblk.frozen k
      generalize L.getD k 0 = l0 at kc
      have dd := HD.out k (by omega)
      have p0 := HP.out (k + 1)
      have p1 := HP.out k
      have pd := prod_drop (ls := ls) (k := k) (by omega)
      have em := HL.out.2.1
      have R : Hid ((L.set k m).length = ls.length ∧ m * ls.getD k 0 = prod (ls.drop k) ∧ ∀ i, k ≤ i → i < ls.length → (L.set k m).getD i 0 = prod (ls.drop (i + 1))) := by
        refine ⟨by simpa using hL, by rw [em, pd, Int.mul_comm], fun i h1 h2 => ?_⟩
        by_cases e : k = i
        · subst e; rw [set_getD_self (by omega), em]
        · rw [set_getD_ne e]; exact HL.out.2.2 i (by omega) h2
      rw [← em] at p0
      rw [← R.out.2.1] at p1
      have ej : ((k + 1 : Nat) : Int) - 1 = (k : Int) := by omega
      rw [ej]
      have HL2 := Lib.hid hL
      clear em pd hc hL HL
      generalize ls.getD k 0 = d at *
      obtain ⟨p1, p2⟩ := p1
      go_wp2
      refine ⟨⟨k, m * d, L.set k m, by omega, by go_num, rfl, hblk.put k m, R, hB.setCell (Nat.le_refl _) _⟩, by simp [intOf]; try omega⟩
end Go.Proofs.YtpfcjajmfadcbaaGreat
namespace Go.Proofs.YtpfcjajmfadcbaaGreat
open Go.RowKit


set_option maxRecDepth 100000 in
set_option maxHeartbeats 4000000 in
theorem rindex_any (vs vi : Value) (s i : List Int) (w : World) (hs : Ld w vs s) (hi : Ld w vi i) (hm : may s = true) (hx : inx s i = true) :
    Calls Tryz.prog 71 #[vs, vi] w fun e w' => e = .returned (.int .i64 (ix s i)) ∧ Below w.heap.size w w' := by
  have hl := inx_len hx
  have l4 := may_len hm
  have SC := Lib.hid (rstrides_any vs s w hs hm)
  obtain ⟨oi, ci, rfl, _, hxi⟩ := hi
  obtain ⟨os, cs, rfl, _, hxs⟩ := hs
  have HI := Lib.hid hxi
  have HL := Lib.hid hl
  have HP := Lib.hid (And.intro (may_pos hm) hx)
  have HD := Lib.hid (may_drop hm)
  have HV := Lib.hid (And.intro (ix_bd hx) (may_prod hm))
  rw [← hl]
  clear hxi hxs hm hx hl
  go_enter Tryz.func71, Tryz.ntmps71
  go_wp2_with (go_at_call 70; (with_reducible refine SC.out.mono ?_); rintro e w1 ⟨rfl, hblk, hB1⟩)
  have hB1s := hB1.size
  have hgl := hblk.lt
  go_loopw [6, 7] (fun s6 s7 wr => ∃ (k : Nat) (p : Int), k ≤ s.length ∧ 0 ≤ p ∧ p ≤ 65536 ∧ s7 = .int .i64 k ∧ s6 = .int .i64 p ∧ Hid (Sum s i (ix s i) p k) ∧ Below w1.heap.size w1 wr) (fun _ s7 _ => s.length - (intOf s7).toNat)
  case atStart => exact ⟨0, 0, Nat.zero_le _, by decide, by decide, rfl, rfl, sum_start, Below.refl _ _⟩
  case round =>
    obtain ⟨k, p, hk, p0, p1, rfl, rfl, HK, hW⟩ := hrel
    by_cases hlt : k < s.length
    · obtain ⟨b1, f1, rfl, h1, c1⟩ := HI.out k (by have := HL.out; omega)
      have c1' : wr.cell? ⟨b1, f1 + k, none⟩ = some (.int .i64 (i.getD k 0)) := (hW.cell (p := ⟨b1, f1 + k, none⟩) (by show b1 < _; omega)).trans ((hB1.cell (p := ⟨b1, f1 + k, none⟩) h1).trans c1)
      have c2' : wr.cell? ⟨w.heap.size, k, none⟩ = some (.int .i64 (prod (s.drop (k + 1)))) := by
        rw [hW.cell (p := ⟨w.heap.size, k, none⟩) hgl, hblk.cell, ints_at (by rw [stl_len]; exact hlt), stl_getD s k hlt]
      obtain ⟨st, n0, n1, n2⟩ := sum_step HK.out HP.out.2 HP.out.1 hlt
      have hv := HV.out
      have st1 := st.2.1
      have ST := Lib.hid st
      clear c1 st
      generalize i.getD k 0 = x at *
      generalize prod (s.drop (k + 1)) = P at *
      have q1 : x * P ≤ 65536 := by omega
      have q2 : p + x * P ≤ 65536 := by omega
      have HV2 := Lib.hid hv
      clear hv n1 n2
      have e1 : IntKind.i64.wrap (x * P) = x * P := IntWalk.i64_in _ ⟨by omega, by omega⟩
      have e2 : IntKind.i64.wrap (p + x * P) = p + x * P := IntWalk.i64_in _ ⟨by omega, by omega⟩
      go_wp2
      go_quiet (fail)
      clear e1 e2
      go_wp2
      refine ⟨⟨k + 1, p + x * P, by omega, st1, q2, by go_num, rfl, ST, by first | exact below_drw hW _ | exact hW⟩, by simp [intOf]; omega⟩
    · obtain rfl : k = s.length := by omega
      obtain rfl := sum_end HK.out
      go_wp2
      go_ret
      exact ⟨rfl, hB1.trans (hW.mono hB1s)⟩

/-- Where a place's index is being told. -/
def Ati (s : List Int) (n N : Int) (k : Nat) : Prop := k ≤ s.length ∧ 0 ≤ N ∧ N < prod (s.drop k) ∧ atl (s.drop k) N = (atl s n).drop k
theorem ati_start {s : List Int} {n : Int} (h0 : 0 ≤ n) (h1 : n < prod s) : Ati s n n 0 := ⟨Nat.zero_le _, h0, by simpa using h1, by simp⟩
theorem ati_step {s : List Int} {n N : Int} {k : Nat} (h : Ati s n N k) (hp : pos s) (hk : k < s.length) : Ati s n (N % prod (s.drop (k + 1))) (k + 1) ∧ (atl s n).getD k 0 = N / prod (s.drop (k + 1)) := by
  obtain ⟨a, b, c, d⟩ := h
  have q := prod_pos (pos_drop hp (k + 1))
  rw [drop_getD hk, atl, drop_getD (show k < (atl s n).length by rw [atl_len]; exact hk)] at d
  simp only [List.cons.injEq] at d
  exact ⟨⟨by omega, Int.emod_nonneg _ (by omega), Int.emod_lt_of_pos _ (by omega), d.2⟩, d.1.symm⟩
theorem ati_bd {s : List Int} {n N : Int} {k : Nat} (h : Ati s n N k) (hm : may s = true) : 0 ≤ N ∧ N ≤ 65536 := by
  have := may_drop hm k
  exact ⟨h.2.1, by have := h.2.2.1; omega⟩

set_option maxRecDepth 100000 in
set_option maxHeartbeats 4000000 in
theorem rat_any (v : Value) (ls : List Int) (n : Int) (w : World) (h : Ld w v ls) (hm : may ls = true) (h0 : 0 ≤ n) (h1 : n < prod ls) :
    Calls Tryz.prog 46 #[v, .int .i64 n] w fun e w' => ∃ v, e = .returned v ∧ Ld w' v (atl ls n) ∧ Below w.heap.size w w' := by
  obtain ⟨i0, hi0, hz0, hz1, hz2⟩ := info_parts infoI
  have l4 := may_len hm
  have SC := Lib.hid (rstrides_any v ls w h hm)
  obtain ⟨o, c, rfl, _, hx⟩ := h
  have HP := Lib.hid (may_pos hm)
  have HD := Lib.hid (may_drop hm)
  have HM := Lib.hid hm
  have HS : Hid (Ati ls n n 0) := ati_start h0 h1
  clear hx hm
  go_enter Tryz.func46, Tryz.ntmps46
  have mk : ∀ W : World, Hid ((Instr.makeSlice 23 (.int .i64 (ls.length : Int)) (.int .i64 (ls.length : Int))).run Tryz.prog W = .ok (.slice (some ⟨W.heap.size, 0, none⟩) ls.length ls.length) (W.alloc (.cells (ints (List.replicate ls.length 0)).toArray 3))) := by
    intro W
    have := run_make (w := W) 23 3 i0 (.int .i64 0) Tryz.underlying23 hi0 hz0 .i64 .i64 ls.length ls.length (by omega) (by omega) (by rw [hz2]; omega) (by omega)
    rw [Hid, this, hz1, ← made_ints]; simp [Value.cells]
  have MK := Lib.hid mk
  clear mk
  go_wp2_with (go_at_call 70; (with_reducible refine SC.out.mono ?_); rintro e w1 ⟨rfl, hblk, hB1⟩; have mk := (MK.out w1).out)
  clear mk
  have hB1s := hB1.size
  have hgl := hblk.lt
  go_loopw [1, 7] (fun s1 s7 wr => ∃ (k : Nat) (N : Int) (L : List Int), k ≤ ls.length ∧ 0 ≤ N ∧ N ≤ 65536 ∧ s7 = .int .i64 k ∧ s1 = .int .i64 N ∧ Blk wr w.heap.size 3 (ints (stl ls)).toArray ∧ Blk wr w1.heap.size 3 (ints L).toArray ∧ Hid (Ati ls n N k) ∧ Hid (L.length = ls.length ∧ ∀ j, j < k → L.getD j 0 = (atl ls n).getD j 0) ∧ Below w.heap.size w wr) (fun _ s7 _ => ls.length - (intOf s7).toNat)
  case atStart => exact ⟨0, n, List.replicate ls.length 0, Nat.zero_le _, (ati_bd HS.out HM.out).1, (ati_bd HS.out HM.out).2, rfl, rfl, hblk.alloc _, Blk.new _ _ _, HS, ⟨by simp, fun j hj => absurd hj (Nat.not_lt_zero _)⟩, hB1.alloc hB1s _⟩
  case round =>
    obtain ⟨k, N, L, hk, n0, n1, rfl, rfl, hs, hb, HA, HL, hB⟩ := hrel
    by_cases hlt : k < ls.length
    · have sc := hs.cell k
      rw [ints_at (by rw [stl_len]; exact hlt), stl_getD ls k hlt] at sc
      have kc := hb.cell k
      have hL := HL.out.1
      rw [ints_at (by omega)] at kc
      have kf := hb.frozen k
      generalize L.getD k 0 = l0 at kc
      obtain ⟨st, ge⟩ := ati_step HA.out HP.out hlt
      have bd := ati_bd st HM.out
      have pp := HD.out (k + 1)
      have R : Hid ((L.set k (N / prod (ls.drop (k + 1)))).length = ls.length ∧ ∀ j, j < k + 1 → (L.set k (N / prod (ls.drop (k + 1)))).getD j 0 = (atl ls n).getD j 0) := by
        refine ⟨by simpa using hL, fun j hj => ?_⟩
        by_cases e : k = j
        · subst e; rw [set_getD_self (by omega), ge]
        · rw [set_getD_ne e]; exact HL.out.2 j (by omega)
      have ST := Lib.hid st
      have HL2 := Lib.hid hL
      clear st ge hL HL
      generalize prod (ls.drop (k + 1)) = P at *
      have pz : ¬ P = 0 := by omega
      obtain ⟨b1, b2⟩ := bd
      obtain ⟨pp1, pp2⟩ := pp
      have s1 := hs.far (p := ⟨w1.heap.size, k, none⟩) (by show w.heap.size ≠ w1.heap.size; omega) (.int .i64 (N / P))
      have sc2 := s1.cell k
      rw [hs.far (p := ⟨w1.heap.size, k, none⟩) (by show w.heap.size ≠ w1.heap.size; omega) (.int .i64 (N / P)) |>.cell k] at sc2
      have sc3 : (wr.setCell ⟨w1.heap.size, k, none⟩ (.int .i64 (N / P))).cell? ⟨w.heap.size, k, none⟩ = some (.int .i64 P) := by rw [s1.cell k, ← hs.cell k]; exact sc
      clear sc2
      go_wp2
      refine ⟨⟨k + 1, N % P, L.set k (N / P), by omega, b1, b2, by go_num, rfl, s1, hb.put k _, ST, R, hB.setCell hB1s _⟩, by simp [intOf]; omega⟩
    · obtain rfl : k = ls.length := by omega
      obtain rfl : L = atl ls n := ext_getD (by rw [atl_len]; exact HL.out.1) fun i hi => HL.out.2 i (by have := HL.out.1; omega)
      have hld := Ld.of_blk hb (c := ls.length) (by rw [atl_len]; exact Nat.le_refl _)
      rw [atl_len] at hld
      have HLD := Lib.hid hld
      clear hld
      go_wp2
      go_ret
      exact ⟨_, rfl, HLD.out, hB⟩

set_option maxRecDepth 100000 in
set_option maxHeartbeats 2000000 in
theorem rdim_any (vs : Value) (s : List Int) (w : World) (hs : Ld w vs s) (l4 : s.length ≤ 1073741824) (k : Nat) (k2 : k ≤ 1073741824) :
    Calls Tryz.prog 45 #[vs, .int .i64 k] w fun e w' => e = .returned (.int .i64 (ov s (k + 1))) ∧ w = w' := by
  obtain ⟨os, cs, rfl, _, hxs⟩ := hs
  have HS := Lib.hid hxs
  clear hxs
  by_cases h : k < s.length
  · obtain ⟨q, hq⟩ : ∃ q, s.length = q + k + 1 := ⟨s.length - k - 1, by omega⟩
    obtain ⟨b, f, rfl, hb, hc⟩ := HS.out q (by omega)
    have E : Hid (ov s (k + 1) = s.getD q 0) := by unfold ov; rw [if_neg (by omega), show s.length - (k + 1) = q by omega]; exact Lib.hid rfl
    have e1 : ((q + k + 1 : Nat) : Int) - 1 = ((q + k : Nat) : Int) := by omega
    have e2 : ((q + k : Nat) : Int) - (k : Int) = (q : Int) := by omega
    have h2 : k < q + k + 1 := by omega
    rw [hq]
    rw [hq] at l4
    clear HS hq h
    generalize s.getD q 0 = x at *
    go_enter Tryz.func45, Tryz.ntmps45
    go_wp2
    go_ret
    exact ⟨by rw [E.out]; rfl, rfl⟩
  · have E : Hid (ov s (k + 1) = 1) := by unfold ov; rw [if_pos (by omega)]; exact Lib.hid rfl
    go_enter Tryz.func45, Tryz.ntmps45
    go_wp2
    go_ret
    exact ⟨by rw [E.out]; rfl, rfl⟩
end Go.Proofs.YtpfcjajmfadcbaaGreat
