/-
  shape.Spread.
-/
import Derived.Test.YteplhlmdaabpaaaSa
import Derived.Test.YteplhlmdaabpaaaSc
import Derived.WalkMore
namespace Go.Proofs.Yteplhlmdaabpaaa
open Go.RowKit

/-- A list and an error. -/
def SomeL (w : World) (r : Int) (ls : List Int) (e : Ending) (w' : World) : Prop := ∃ v, e = .returned (.tuple #[v, .int .i64 r]) ∧ Ld w' v ls ∧ Below w.heap.size w w'

set_option maxRecDepth 100000 in
set_option maxHeartbeats 2000000 in
theorem over_any (vs : Value) (s : List Int) (w : World) (hs : Ld w vs s) (l4 : s.length ≤ 1073741824) (j : Nat) (j1 : 1 ≤ j) (j2 : j ≤ 1073741824) :
    Calls Try.prog 37 #[vs, .int .i64 j] w fun e w' => e = .returned (.int .i64 (ov s j)) ∧ w = w' := by
  obtain ⟨os, cs, rfl, _, hxs⟩ := hs
  have HS := Lib.hid hxs
  clear hxs
  by_cases h : s.length < j
  · have E : Hid (ov s j = 1) := by unfold ov; rw [if_pos h]; exact Lib.hid rfl
    go_enter Try.func37, Try.ntmps37
    go_wp2
    go_ret
    exact ⟨by rw [E.out]; rfl, rfl⟩
  · obtain ⟨q, hq⟩ : ∃ q, s.length = q + j := ⟨s.length - j, by omega⟩
    obtain ⟨b, f, rfl, hb, hc⟩ := HS.out q (by omega)
    have E : Hid (ov s j = s.getD q 0) := by unfold ov; rw [if_neg h, show s.length - j = q by omega]; exact Lib.hid rfl
    have e1 : ((q + j : Nat) : Int) - (j : Int) = (q : Int) := by omega
    have h2 : ¬ q + j < j := by omega
    rw [hq]
    rw [hq] at l4
    clear HS hq h
    generalize s.getD q 0 = x at *
    go_enter Try.func37, Try.ntmps37
    go_wp2
    go_ret
    exact ⟨by rw [E.out]; rfl, rfl⟩

set_option maxRecDepth 100000 in
set_option maxHeartbeats 4000000 in
theorem spread_any (va vb : Value) (a b : List Int) (w : World) (ha : Ld w va a) (hb : Ld w vb b) (ma : may a = true) (mb : may b = true) :
    Calls Try.prog 27 #[va, vb] w (SomeL w (spe a b) (spv a b)) := by
  obtain ⟨i0, hi0, hz0, hz1, hz2⟩ := info_parts infoI
  have la := may_len ma
  have lb := may_len mb
  have CA := Lib.hid (check_ok va a w ha ma)
  have CB := Lib.hid (check_ok vb b w hb mb)
  have OA := Lib.hid (fun (W : World) (h : Below w.heap.size w W) (j : Nat) (j1 : 1 ≤ j) (j2 : j ≤ 1073741824) => over_any va a W (ha.below h) (by omega) j j1 j2)
  have OB := Lib.hid (fun (W : World) (h : Below w.heap.size w W) (j : Nat) (j1 : 1 ≤ j) (j2 : j ≤ 1073741824) => over_any vb b W (hb.below h) (by omega) j j1 j2)
  have HM := Lib.hid (And.intro (may_dms ma) (may_dms mb))
  obtain ⟨oa, ca, rfl, _, _⟩ := ha
  obtain ⟨ob, cb, rfl, _, _⟩ := hb
  obtain ⟨n, hn⟩ : ∃ n, n = mx a b := ⟨_, rfl⟩
  have e1 : max (a.length : Int) (b.length : Int) = (n : Int) := by rw [hn]; unfold mx; omega
  have hn4 : n ≤ 4 := by rw [hn]; unfold mx; omega
  have mk : (Instr.makeSlice 23 (.int .i64 (n : Int)) (.int .i64 (n : Int))).run Try.prog w = .ok (.slice (some ⟨w.heap.size, 0, none⟩) n n) (w.alloc (.cells (madeCells #[.int .i64 0] n) 3)) := by
    have := run_make (w := w) 23 3 i0 (.int .i64 0) Try.underlying23 hi0 hz0 .i64 .i64 n n (by omega) (by omega) (by rw [hz2]; omega) (by omega)
    rw [this, hz1]; simp [Value.cells]
  rw [made_ints] at mk
  have hn2 : (n = b.length ∧ a.length < b.length) ∨ (n = a.length ∧ ¬ a.length < b.length) := by rw [hn]; unfold mx; omega
  have HN := Lib.hid hn
  clear ma mb hn e1
  have mks : ∃ m : Nat, (m = b.length ∧ a.length < b.length ∨ m = a.length ∧ ¬ a.length < b.length) ∧ (Instr.makeSlice 23 (.int .i64 (m : Int)) (.int .i64 (m : Int))).run Try.prog w = .ok (.slice (some ⟨w.heap.size, 0, none⟩) n n) (w.alloc (.cells (ints (List.replicate n 0)).toArray 3)) := ⟨n, hn2, mk⟩
  clear mk hn2
  obtain ⟨m, hm2, mk⟩ := mks
  rcases hm2 with ⟨rfl, h2⟩ | ⟨rfl, h2⟩
  · go_enter Try.func27, Try.ntmps27
    go_wp2
    go_step3
    go_wp2_with (first | (go_at_call 21; (with_reducible refine CA.out.mono ?_); rintro e w' ⟨rfl, rfl⟩) | (go_at_call 21; (with_reducible refine CB.out.mono ?_); rintro e w' ⟨rfl, rfl⟩))
    clear mk
    go_step3
    go_wp2
    go_loopw [7, 27] (fun s7 s27 wr => ∃ (k : Nat) (L : List Int), k ≤ n ∧ s27 = .int .i64 k ∧ s7 = .bool true ∧ Blk wr w.heap.size 3 (ints L).toArray ∧ Hid (L.length = n ∧ (∀ j, j < k → L.getD j 0 = gr (ov a (n - j)) (ov b (n - j))) ∧ ∀ j, n - k < j → j ≤ n → fa a b j = true) ∧ Below w.heap.size w wr) (fun _ s27 _ => n - (intOf s27).toNat)
    case atStart => exact ⟨0, List.replicate n 0, Nat.zero_le _, rfl, rfl, Blk.new _ _ _, ⟨by simp, fun j hj => absurd hj (Nat.not_lt_zero _), fun j h1 h2 => by omega⟩, (Below.refl _ _).alloc (Nat.le_refl _) _⟩
    case round =>
      obtain ⟨k, L, hk, rfl, rfl, hblk, HL, hB⟩ := hrel
      have hBs := hB.size
      by_cases hlt : k < n
      · obtain ⟨j, hj⟩ : ∃ j, j = n - k := ⟨_, rfl⟩
        have ej : (n : Int) - (k : Int) = (j : Int) := by omega
        have A1 := Lib.hid (OA.out wr hB j (by omega) (by omega))
        have B1 := Lib.hid (OB.out wr hB j (by omega) (by omega))
        have kc := hblk.cell k
        have hL := HL.out.1
        rw [ints_at (by omega)] at kc
        have kf := hblk.frozen k
        generalize L.getD k 0 = l0 at kc
        have HG : Hid (∀ v : Int, v = gr (ov a j) (ov b j) → fa a b j = true → (L.set k v).length = n ∧ (∀ i, i < k + 1 → (L.set k v).getD i 0 = gr (ov a (n - i)) (ov b (n - i))) ∧ ∀ i, n - (k + 1) < i → i ≤ n → fa a b i = true) := by
          intro v hv hf
          have H := HL.out
          refine ⟨by simpa using hL, fun i hi => ?_, fun i h1 h2 => ?_⟩
          · by_cases e : k = i
            · subst e; rw [set_getD_self (by omega), hv, hj]
            · rw [set_getD_ne e]; exact H.2.1 i (by omega)
          · by_cases e : i = j
            · subst e; exact hf
            · exact H.2.2 i (by omega) h2
        have HF : Hid (fa a b j = true ↔ ov a j = ov b j ∨ ov a j = 1 ∨ ov b j = 1) := fa_iff a b j
        have HE : Hid (fa a b j = false → spe a b = 2 ∧ spv a b = []) := by
          intro hf
          have : fit a b = false := by
            cases h : fit a b with
            | false => rfl
            | true => rw [(fitN_iff a b _).1 h j (by omega) (by rw [← HN.out]; omega)] at hf; cases hf
          have e : spe a b = 2 := by unfold spe; rw [this]; rfl
          exact ⟨e, by unfold spv; rw [if_neg (by omega)]⟩
        generalize ov a j = x at *
        generalize ov b j = y at *
        have HJ := Lib.hid (And.intro hj hL)
        clear hj hL
        have AR : ∀ (Q : Prop), Q → Q := fun _ h => h
        by_cases g1 : x = y
        · subst g1
          have R := Lib.hid (HG.out x (by unfold gr; split <;> rfl) (HF.out.2 (.inl rfl)))
          clear AR
          go_wp2_with (first | (go_at_call 37; (with_reducible refine A1.out.mono ?_); rintro e w' ⟨rfl, rfl⟩) | (go_at_call 37; (with_reducible refine B1.out.mono ?_); rintro e w' ⟨rfl, rfl⟩))
          refine ⟨⟨k + 1, L.set k x, by omega, by go_num, rfl, hblk.put k x, R, hB.setCell (Nat.le_refl _) _⟩, by simp [intOf]; omega⟩
        have b1 : (x == y) = false := by rw [beq_eq_false_iff_ne]; exact g1
        by_cases g2 : y = 1
        · subst g2
          have R := Lib.hid (HG.out x (by unfold gr; rfl) (HF.out.2 (.inr (.inr rfl))))
          clear AR g1
          go_wp2_with (first | (go_at_call 37; (with_reducible refine A1.out.mono ?_); rintro e w' ⟨rfl, rfl⟩) | (go_at_call 37; (with_reducible refine B1.out.mono ?_); rintro e w' ⟨rfl, rfl⟩))
          refine ⟨⟨k + 1, L.set k x, by omega, by go_num, rfl, hblk.put k x, R, hB.setCell (Nat.le_refl _) _⟩, by simp [intOf]; omega⟩
        have b2 : (y == 1) = false := by rw [beq_eq_false_iff_ne]; exact g2
        by_cases g3 : x = 1
        · subst g3
          have R := Lib.hid (HG.out y (by unfold gr; rw [if_neg g2]) (HF.out.2 (.inr (.inl rfl))))
          clear AR g1 g2
          go_wp2_with (first | (go_at_call 37; (with_reducible refine A1.out.mono ?_); rintro e w' ⟨rfl, rfl⟩) | (go_at_call 37; (with_reducible refine B1.out.mono ?_); rintro e w' ⟨rfl, rfl⟩))
          refine ⟨⟨k + 1, L.set k y, by omega, by go_num, rfl, hblk.put k y, R, hB.setCell (Nat.le_refl _) _⟩, by simp [intOf]; omega⟩
        have b3 : (x == 1) = false := by rw [beq_eq_false_iff_ne]; exact g3
        have R := Lib.hid (HE.out (by
          cases h : fa a b j with
          | false => rfl
          | true => rcases HF.out.1 h with h | h | h
                    · exact absurd h g1
                    · exact absurd h g3
                    · exact absurd h g2))
        clear AR g1 g2 g3
        go_wp2_with (first | (go_at_call 37; (with_reducible refine A1.out.mono ?_); rintro e w' ⟨rfl, rfl⟩) | (go_at_call 37; (with_reducible refine B1.out.mono ?_); rintro e w' ⟨rfl, rfl⟩))
        rw [Exit.noGoto_ret]
        go_ret2
        exact ⟨_, by rw [R.out.1]; rfl, by rw [R.out.2]; exact Ld.nil _, hB⟩
      · obtain rfl : k = n := by omega
        have E : L = spr a b := by
          have H := HL.out
          unfold spr
          rw [← HN.out]
          refine ext_getD (by rw [spl_len]; exact H.1) fun i hi => ?_
          rw [spl_getD _ _ _ _ (by omega)]
          exact H.2.1 i (by omega)
        have hfit : fit a b = true := by
          unfold fit
          rw [← HN.out]
          exact (fitN_iff _ _ _).2 fun j h1 h2 => HL.out.2.2 j (by omega) h2
        have hL := HL.out.1
        subst E
        have hld := Ld.of_blk hblk (c := k) (by omega)
        rw [hL] at hld
        cases hm : may (spr a b) with
        | true =>
          have R : Hid (spe a b = 0 ∧ spv a b = spr a b) := by
            have e : spe a b = 0 := by unfold spe; rw [if_pos hfit, if_pos hm]
            exact ⟨e, by unfold spv; rw [if_pos e]⟩
          have C := Lib.hid (check_ok _ _ wr hld hm)
          have HLD := Lib.hid hld
          clear hfit hm hld hL
          go_wp2_with (go_at_call 21; (with_reducible refine C.out.mono ?_); rintro e w' ⟨rfl, rfl⟩)
          rw [Exit.noGoto_ret]
          go_ret2
          exact ⟨_, by rw [R.out.1]; rfl, by rw [R.out.2]; exact HLD.out, hB⟩
        | false =>
          have R : Hid (spe a b = 5 ∧ spv a b = []) := by
            have e : spe a b = 5 := by unfold spe; rw [if_pos hfit, hm]; rfl
            exact ⟨e, by unfold spv; rw [if_neg (by omega)]⟩
          have C := Lib.hid (check_no _ _ wr hld hm)
          clear hfit hm hld hL
          go_wp2_with (go_at_call 21; (with_reducible refine C.out.mono ?_); rintro e w' ⟨rfl, rfl⟩)
          rw [Exit.noGoto_ret]
          go_ret2
          exact ⟨_, by rw [R.out.1]; rfl, by rw [R.out.2]; exact Ld.nil _, hB⟩
  · go_enter Try.func27, Try.ntmps27
    go_wp2
    go_step3
    go_wp2_with (first | (go_at_call 21; (with_reducible refine CA.out.mono ?_); rintro e w' ⟨rfl, rfl⟩) | (go_at_call 21; (with_reducible refine CB.out.mono ?_); rintro e w' ⟨rfl, rfl⟩))
    clear mk
    go_step3
    go_wp2
    go_loopw [7, 27] (fun s7 s27 wr => ∃ (k : Nat) (L : List Int), k ≤ n ∧ s27 = .int .i64 k ∧ s7 = .bool true ∧ Blk wr w.heap.size 3 (ints L).toArray ∧ Hid (L.length = n ∧ (∀ j, j < k → L.getD j 0 = gr (ov a (n - j)) (ov b (n - j))) ∧ ∀ j, n - k < j → j ≤ n → fa a b j = true) ∧ Below w.heap.size w wr) (fun _ s27 _ => n - (intOf s27).toNat)
    case atStart => exact ⟨0, List.replicate n 0, Nat.zero_le _, rfl, rfl, Blk.new _ _ _, ⟨by simp, fun j hj => absurd hj (Nat.not_lt_zero _), fun j h1 h2 => by omega⟩, (Below.refl _ _).alloc (Nat.le_refl _) _⟩
    case round =>
      obtain ⟨k, L, hk, rfl, rfl, hblk, HL, hB⟩ := hrel
      have hBs := hB.size
      by_cases hlt : k < n
      · obtain ⟨j, hj⟩ : ∃ j, j = n - k := ⟨_, rfl⟩
        have ej : (n : Int) - (k : Int) = (j : Int) := by omega
        have A1 := Lib.hid (OA.out wr hB j (by omega) (by omega))
        have B1 := Lib.hid (OB.out wr hB j (by omega) (by omega))
        have kc := hblk.cell k
        have hL := HL.out.1
        rw [ints_at (by omega)] at kc
        have kf := hblk.frozen k
        generalize L.getD k 0 = l0 at kc
        have HG : Hid (∀ v : Int, v = gr (ov a j) (ov b j) → fa a b j = true → (L.set k v).length = n ∧ (∀ i, i < k + 1 → (L.set k v).getD i 0 = gr (ov a (n - i)) (ov b (n - i))) ∧ ∀ i, n - (k + 1) < i → i ≤ n → fa a b i = true) := by
          intro v hv hf
          have H := HL.out
          refine ⟨by simpa using hL, fun i hi => ?_, fun i h1 h2 => ?_⟩
          · by_cases e : k = i
            · subst e; rw [set_getD_self (by omega), hv, hj]
            · rw [set_getD_ne e]; exact H.2.1 i (by omega)
          · by_cases e : i = j
            · subst e; exact hf
            · exact H.2.2 i (by omega) h2
        have HF : Hid (fa a b j = true ↔ ov a j = ov b j ∨ ov a j = 1 ∨ ov b j = 1) := fa_iff a b j
        have HE : Hid (fa a b j = false → spe a b = 2 ∧ spv a b = []) := by
          intro hf
          have : fit a b = false := by
            cases h : fit a b with
            | false => rfl
            | true => rw [(fitN_iff a b _).1 h j (by omega) (by rw [← HN.out]; omega)] at hf; cases hf
          have e : spe a b = 2 := by unfold spe; rw [this]; rfl
          exact ⟨e, by unfold spv; rw [if_neg (by omega)]⟩
        generalize ov a j = x at *
        generalize ov b j = y at *
        have HJ := Lib.hid (And.intro hj hL)
        clear hj hL
        have AR : ∀ (Q : Prop), Q → Q := fun _ h => h
        by_cases g1 : x = y
        · subst g1
          have R := Lib.hid (HG.out x (by unfold gr; split <;> rfl) (HF.out.2 (.inl rfl)))
          clear AR
          go_wp2_with (first | (go_at_call 37; (with_reducible refine A1.out.mono ?_); rintro e w' ⟨rfl, rfl⟩) | (go_at_call 37; (with_reducible refine B1.out.mono ?_); rintro e w' ⟨rfl, rfl⟩))
          refine ⟨⟨k + 1, L.set k x, by omega, by go_num, rfl, hblk.put k x, R, hB.setCell (Nat.le_refl _) _⟩, by simp [intOf]; omega⟩
        have b1 : (x == y) = false := by rw [beq_eq_false_iff_ne]; exact g1
        by_cases g2 : y = 1
        · subst g2
          have R := Lib.hid (HG.out x (by unfold gr; rfl) (HF.out.2 (.inr (.inr rfl))))
          clear AR g1
          go_wp2_with (first | (go_at_call 37; (with_reducible refine A1.out.mono ?_); rintro e w' ⟨rfl, rfl⟩) | (go_at_call 37; (with_reducible refine B1.out.mono ?_); rintro e w' ⟨rfl, rfl⟩))
          refine ⟨⟨k + 1, L.set k x, by omega, by go_num, rfl, hblk.put k x, R, hB.setCell (Nat.le_refl _) _⟩, by simp [intOf]; omega⟩
        have b2 : (y == 1) = false := by rw [beq_eq_false_iff_ne]; exact g2
        by_cases g3 : x = 1
        · subst g3
          have R := Lib.hid (HG.out y (by unfold gr; rw [if_neg g2]) (HF.out.2 (.inr (.inl rfl))))
          clear AR g1 g2
          go_wp2_with (first | (go_at_call 37; (with_reducible refine A1.out.mono ?_); rintro e w' ⟨rfl, rfl⟩) | (go_at_call 37; (with_reducible refine B1.out.mono ?_); rintro e w' ⟨rfl, rfl⟩))
          refine ⟨⟨k + 1, L.set k y, by omega, by go_num, rfl, hblk.put k y, R, hB.setCell (Nat.le_refl _) _⟩, by simp [intOf]; omega⟩
        have b3 : (x == 1) = false := by rw [beq_eq_false_iff_ne]; exact g3
        have R := Lib.hid (HE.out (by
          cases h : fa a b j with
          | false => rfl
          | true => rcases HF.out.1 h with h | h | h
                    · exact absurd h g1
                    · exact absurd h g3
                    · exact absurd h g2))
        clear AR g1 g2 g3
        go_wp2_with (first | (go_at_call 37; (with_reducible refine A1.out.mono ?_); rintro e w' ⟨rfl, rfl⟩) | (go_at_call 37; (with_reducible refine B1.out.mono ?_); rintro e w' ⟨rfl, rfl⟩))
        rw [Exit.noGoto_ret]
        go_ret2
        exact ⟨_, by rw [R.out.1]; rfl, by rw [R.out.2]; exact Ld.nil _, hB⟩
      · obtain rfl : k = n := by omega
        have E : L = spr a b := by
          have H := HL.out
          unfold spr
          rw [← HN.out]
          refine ext_getD (by rw [spl_len]; exact H.1) fun i hi => ?_
          rw [spl_getD _ _ _ _ (by omega)]
          exact H.2.1 i (by omega)
        have hfit : fit a b = true := by
          unfold fit
          rw [← HN.out]
          exact (fitN_iff _ _ _).2 fun j h1 h2 => HL.out.2.2 j (by omega) h2
        have hL := HL.out.1
        subst E
        have hld := Ld.of_blk hblk (c := k) (by omega)
        rw [hL] at hld
        cases hm : may (spr a b) with
        | true =>
          have R : Hid (spe a b = 0 ∧ spv a b = spr a b) := by
            have e : spe a b = 0 := by unfold spe; rw [if_pos hfit, if_pos hm]
            exact ⟨e, by unfold spv; rw [if_pos e]⟩
          have C := Lib.hid (check_ok _ _ wr hld hm)
          have HLD := Lib.hid hld
          clear hfit hm hld hL
          go_wp2_with (go_at_call 21; (with_reducible refine C.out.mono ?_); rintro e w' ⟨rfl, rfl⟩)
          rw [Exit.noGoto_ret]
          go_ret2
          exact ⟨_, by rw [R.out.1]; rfl, by rw [R.out.2]; exact HLD.out, hB⟩
        | false =>
          have R : Hid (spe a b = 5 ∧ spv a b = []) := by
            have e : spe a b = 5 := by unfold spe; rw [if_pos hfit, hm]; rfl
            exact ⟨e, by unfold spv; rw [if_neg (by omega)]⟩
          have C := Lib.hid (check_no _ _ wr hld hm)
          clear hfit hm hld hL
          go_wp2_with (go_at_call 21; (with_reducible refine C.out.mono ?_); rintro e w' ⟨rfl, rfl⟩)
          rw [Exit.noGoto_ret]
          go_ret2
          exact ⟨_, by rw [R.out.1]; rfl, by rw [R.out.2]; exact Ld.nil _, hB⟩

set_option maxRecDepth 100000 in
set_option maxHeartbeats 2000000 in
theorem spread_no (va vb : Value) (a b : List Int) (w : World) (ha : Ld w va a) (hb : Ld w vb b) (hm : (may a && may b) = false) :
    Calls Try.prog 27 #[va, vb] w fun e w' => e = .returned (.tuple #[.slice none 0 0, .int .i64 1]) ∧ w = w' := by
  cases ma : may a with
  | false =>
    have C := Lib.hid (check_no va a w ha ma)
    clear ha hb hm ma
    go_enter Try.func27, Try.ntmps27
    go_wp2
    go_step3
    go_wp2_with (go_at_call 21; (with_reducible refine C.out.mono ?_); rintro e w' ⟨rfl, rfl⟩)
    rw [Exit.noGoto_ret]
    go_ret2
    exact ⟨rfl, rfl⟩
  | true =>
    have mb : may b = false := by rw [ma, Bool.true_and] at hm; exact hm
    have C := Lib.hid (check_ok va a w ha ma)
    have D := Lib.hid (check_no vb b w hb mb)
    clear ha hb hm ma mb
    go_enter Try.func27, Try.ntmps27
    go_wp2
    go_step3
    go_wp2_with (first | (go_at_call 21; (with_reducible refine C.out.mono ?_); rintro e w' ⟨rfl, rfl⟩) | (go_at_call 21; (with_reducible refine D.out.mono ?_); rintro e w' ⟨rfl, rfl⟩))
    rw [Exit.noGoto_ret]
    go_ret2
    exact ⟨rfl, rfl⟩
end Go.Proofs.Yteplhlmdaabpaaa
