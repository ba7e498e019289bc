/-
  The reference's shapes: spread shapes, what stands under an index.
  view.Widen.
  Lists of words: alike? all words?
  The program's look for numbers that are no words.
  view.Copy.
-/
import Derived.Deep.QuietTactic
import Derived.BigQuiet
import Derived.Deep.AppendLies
import Derived.Test.YtpfcjajmfadcbaaGreatM01
import Derived.Test.YtpfcjajmfadcbaaGreatM02
import Derived.Test.YtpfcjajmfadcbaaGreatM03
import Derived.Test.YtpfcjajmfadcbaaGreatM04
namespace Go.Proofs.YtpfcjajmfadcbaaGreat
open Go.RowKit

theorem gr_max {x y : Int} (hx : 1 ≤ x) (hy : 1 ≤ y) (h : x = y ∨ x = 1 ∨ y = 1) : gr x y = if x < y then y else x := by
  unfold gr
  split <;> split <;> omega

set_option maxRecDepth 100000 in
set_option maxHeartbeats 4000000 in
theorem rspread_any (va vb : Value) (a b : List Int) (w : World) (ha : Ld w va a) (hb : Ld w vb b) (ma : may a = true) (mb : may b = true) :
    Calls Tryz.prog 19 #[va, vb] w (SomeL w (spe a b) (spv a b)) := by
  obtain ⟨i0, hi0, hz0, hz1, hz2⟩ := info_parts infoI
  have la := may_len ma
  have lb := may_len mb
  have DA := Lib.hid (fun (W : World) (h : Below w.heap.size w W) (j : Nat) (j2 : j ≤ 1073741824) => rdim_any va a W (ha.below h) (by omega) j j2)
  have DB := Lib.hid (fun (W : World) (h : Below w.heap.size w W) (j : Nat) (j2 : j ≤ 1073741824) => rdim_any vb b W (hb.below h) (by omega) j j2)
  have HM := Lib.hid (And.intro (may_pos ma) (may_pos mb))
  obtain ⟨oa, ca, rfl, _, _⟩ := ha
  obtain ⟨ob, cb, rfl, _, _⟩ := hb
  obtain ⟨n, hn⟩ : ∃ n, n = mx a b := ⟨_, rfl⟩
  have hn4 : n ≤ 4 := by rw [hn]; unfold mx; omega
  have mk : (Instr.makeSlice 23 (.int .i64 (n : Int)) (.int .i64 (n : Int))).run Tryz.prog w = .ok (.slice (some ⟨w.heap.size, 0, none⟩) n n) (w.alloc (.cells (madeCells #[.int .i64 0] n) 3)) := by
    have := run_make (w := w) 23 3 i0 (.int .i64 0) Tryz.underlying23 hi0 hz0 .i64 .i64 n n (by omega) (by omega) (by rw [hz2]; omega) (by omega)
    rw [this, hz1]; simp [Value.cells]
  rw [made_ints] at mk
  have hn2 : (n = b.length ∧ a.length < b.length) ∨ (n = a.length ∧ ¬ a.length < b.length) := by rw [hn]; unfold mx; omega
  have HN := Lib.hid hn
  clear ma mb hn
  rcases hn2 with ⟨rfl, h2⟩ | ⟨rfl, h2⟩
  · go_enter Tryz.func19, Tryz.ntmps19
    go_wp2
    clear mk
    go_loopw [8] (fun s8 wr => ∃ (k : Nat) (L : List Int), k ≤ b.length ∧ s8 = .int .i64 k ∧ Blk wr w.heap.size 3 (ints L).toArray ∧ Hid (L.length = b.length ∧ (∀ i, b.length - k ≤ i → i < b.length → L.getD i 0 = gr (ov a (b.length - i)) (ov b (b.length - i))) ∧ ∀ j, 1 ≤ j → j ≤ k → fa a b j = true) ∧ Below w.heap.size w wr) (fun s8 _ => b.length - (intOf s8).toNat)
    case atStart => exact ⟨0, List.replicate b.length 0, Nat.zero_le _, rfl, Blk.new _ _ _, ⟨by simp, fun i h1 h2 => by omega, fun j h1 h2 => by omega⟩, (Below.refl _ _).alloc (Nat.le_refl _) _⟩
    case round =>
      obtain ⟨k, L, hk, rfl, hblk, HL, hB⟩ := hrel
      have hBs := hB.size
      by_cases hlt : k < b.length
      · obtain ⟨q, hq⟩ : ∃ q, b.length = q + k + 1 := ⟨b.length - k - 1, by omega⟩
        have A1 := Lib.hid (DA.out wr hB k (by omega))
        have B1 := Lib.hid (DB.out wr hB k (by omega))
        have kc := hblk.cell q
        have hL := HL.out.1
        rw [ints_at (by omega)] at kc
        have kf := hblk.frozen q
        generalize L.getD q 0 = l0 at kc
        have HG : Hid (∀ v : Int, v = gr (ov a (k + 1)) (ov b (k + 1)) → fa a b (k + 1) = true → (L.set q v).length = b.length ∧ (∀ i, b.length - (k + 1) ≤ i → i < b.length → (L.set q v).getD i 0 = gr (ov a (b.length - i)) (ov b (b.length - i))) ∧ ∀ j, 1 ≤ j → j ≤ k + 1 → fa a b j = true) := by
          intro v hv hf
          have H := HL.out
          refine ⟨by simpa using hL, fun i h1 hi => ?_, fun i h1 h2 => ?_⟩
          · by_cases e : q = i
            · subst e; rw [set_getD_self (by omega), hv, show b.length - q = k + 1 by omega]
            · rw [set_getD_ne e]; exact H.2.1 i (by omega) hi
          · by_cases e : i = k + 1
            · subst e; exact hf
            · exact H.2.2 i h1 (by omega)
        have HF : Hid (fa a b (k + 1) = true ↔ ov a (k + 1) = ov b (k + 1) ∨ ov a (k + 1) = 1 ∨ ov b (k + 1) = 1) := fa_iff a b (k + 1)
        have HP : Hid (1 ≤ ov a (k + 1) ∧ 1 ≤ ov b (k + 1)) := ⟨ov_pos HM.out.1 (by omega), ov_pos HM.out.2 (by omega)⟩
        have HE : Hid (fa a b (k + 1) = false → spe a b = 2 ∧ spv a b = []) := by
          intro hf
          have : fit a b = false := by
            cases h : fit a b with
            | false => rfl
            | true => rw [(fitN_iff a b _).1 h (k + 1) (by omega) (by rw [← HN.out]; omega)] at hf; cases hf
          have e : spe a b = 2 := by unfold spe; rw [this]; rfl
          exact ⟨e, by unfold spv; rw [if_neg (by omega)]⟩
        have e1 : (b.length : Int) - 1 - (k : Int) = (q : Int) := by omega
        have ql : q < b.length := by omega
        generalize ov a (k + 1) = x at *
        generalize ov b (k + 1) = y at *
        have HQ := Lib.hid hq
        clear hq
        have HL2 := Lib.hid hL
        clear hL HL
        by_cases g : x = y ∨ x = 1 ∨ y = 1
        · have hm := gr_max HP.out.1 HP.out.2 g
          by_cases g4 : x < y
          · rw [if_pos g4] at hm
            have R := Lib.hid (HG.out y hm.symm (HF.out.2 g))
            clear hm
            have g1 : (x != y) = true := by rw [bne_iff_ne]; omega
            by_cases g2 : x = 1
            · subst g2
              clear g
              go_wp2_with (first | (go_at_call 45; (with_reducible refine A1.out.mono ?_); rintro e w' ⟨rfl, rfl⟩) | (go_at_call 45; (with_reducible refine B1.out.mono ?_); rintro e w' ⟨rfl, rfl⟩))
              refine ⟨⟨k + 1, L.set q y, by omega, by go_num, hblk.put q y, R, hB.setCell (Nat.le_refl _) _⟩, by simp [intOf]; omega⟩
            · exfalso
              have := HP.out
              rcases g with g | g | g <;> omega
          · rw [if_neg g4] at hm
            have R := Lib.hid (HG.out x hm.symm (HF.out.2 g))
            clear hm
            by_cases g1 : x = y
            · subst g1
              clear g
              go_wp2_with (first | (go_at_call 45; (with_reducible refine A1.out.mono ?_); rintro e w' ⟨rfl, rfl⟩) | (go_at_call 45; (with_reducible refine B1.out.mono ?_); rintro e w' ⟨rfl, rfl⟩))
              refine ⟨⟨k + 1, L.set q x, by omega, by go_num, hblk.put q x, R, hB.setCell (Nat.le_refl _) _⟩, by simp [intOf]; omega⟩
            · obtain rfl : y = 1 := by have := HP.out; rcases g with g | g | g <;> omega
              have b1 : (x != 1) = true := by rw [bne_iff_ne]; exact g1
              clear g g1
              go_wp2_with (first | (go_at_call 45; (with_reducible refine A1.out.mono ?_); rintro e w' ⟨rfl, rfl⟩) | (go_at_call 45; (with_reducible refine B1.out.mono ?_); rintro e w' ⟨rfl, rfl⟩))
              refine ⟨⟨k + 1, L.set q x, by omega, by go_num, hblk.put q x, R, hB.setCell (Nat.le_refl _) _⟩, by simp [intOf]; omega⟩
        · have R := Lib.hid (HE.out (by
            cases h : fa a b (k + 1) with
            | false => rfl
            | true => exact absurd (HF.out.1 h) g))
          have b1 : (x != y) = true := by rw [bne_iff_ne]; exact fun e => g (.inl e)
          have b2 : (x != 1) = true := by rw [bne_iff_ne]; exact fun e => g (.inr (.inl e))
          have b3 : (y != 1) = true := by rw [bne_iff_ne]; exact fun e => g (.inr (.inr e))
          clear g
          go_wp2_with (first | (go_at_call 45; (with_reducible refine A1.out.mono ?_); rintro e w' ⟨rfl, rfl⟩) | (go_at_call 45; (with_reducible refine B1.out.mono ?_); rintro e w' ⟨rfl, rfl⟩))
          go_ret2
          exact ⟨_, by rw [R.out.1]; rfl, by rw [R.out.2]; exact Ld.nil _, hB⟩
      · have hkn : k = b.length := by omega
        have E : L = spr a b := by
          have H := HL.out
          unfold spr
          rw [← HN.out]
          refine ext_getD (by rw [spl_len]; exact H.1) fun i hi => ?_
          rw [spl_getD _ _ _ _ (by omega)]
          exact H.2.1 i (by omega) (by omega)
        have hfit : fit a b = true := by
          unfold fit
          rw [← HN.out]
          exact (fitN_iff _ _ _).2 fun j h1 h2 => HL.out.2.2 j h1 (by omega)
        have hL := HL.out.1
        subst E
        have hld := Ld.of_blk hblk (c := b.length) (by omega)
        rw [hL] at hld
        have C := Lib.hid (rmay_any _ _ wr hld (by omega))
        cases hm : may (spr a b) with
        | true =>
          have R : Hid (spe a b = 0 ∧ spv a b = spr a b) := by
            have e : spe a b = 0 := by unfold spe; rw [if_pos hfit, if_pos hm]
            exact ⟨e, by unfold spv; rw [if_pos e]⟩
          rw [hm] at C
          have HLD := Lib.hid hld
          clear hfit hm hld hL
          go_wp2_with (go_at_call 28; (with_reducible refine C.out.mono ?_); rintro e w' ⟨rfl, rfl⟩)
          go_ret2
          exact ⟨_, by rw [R.out.1]; rfl, by rw [R.out.2]; exact HLD.out, hB⟩
        | false =>
          have R : Hid (spe a b = 5 ∧ spv a b = []) := by
            have e : spe a b = 5 := by unfold spe; rw [if_pos hfit, hm]; rfl
            exact ⟨e, by unfold spv; rw [if_neg (by omega)]⟩
          rw [hm] at C
          clear hfit hm hld hL
          go_wp2_with (go_at_call 28; (with_reducible refine C.out.mono ?_); rintro e w' ⟨rfl, rfl⟩)
          go_ret2
          exact ⟨_, by rw [R.out.1]; rfl, by rw [R.out.2]; exact Ld.nil _, hB⟩
  · go_enter Tryz.func19, Tryz.ntmps19
    go_wp2
    clear mk
    go_loopw [8] (fun s8 wr => ∃ (k : Nat) (L : List Int), k ≤ a.length ∧ s8 = .int .i64 k ∧ Blk wr w.heap.size 3 (ints L).toArray ∧ Hid (L.length = a.length ∧ (∀ i, a.length - k ≤ i → i < a.length → L.getD i 0 = gr (ov a (a.length - i)) (ov b (a.length - i))) ∧ ∀ j, 1 ≤ j → j ≤ k → fa a b j = true) ∧ Below w.heap.size w wr) (fun s8 _ => a.length - (intOf s8).toNat)
    case atStart => exact ⟨0, List.replicate a.length 0, Nat.zero_le _, rfl, Blk.new _ _ _, ⟨by simp, fun i h1 h2 => by omega, fun j h1 h2 => by omega⟩, (Below.refl _ _).alloc (Nat.le_refl _) _⟩
    case round =>
      obtain ⟨k, L, hk, rfl, hblk, HL, hB⟩ := hrel
      have hBs := hB.size
      by_cases hlt : k < a.length
      · obtain ⟨q, hq⟩ : ∃ q, a.length = q + k + 1 := ⟨a.length - k - 1, by omega⟩
        have A1 := Lib.hid (DA.out wr hB k (by omega))
        have B1 := Lib.hid (DB.out wr hB k (by omega))
        have kc := hblk.cell q
        have hL := HL.out.1
        rw [ints_at (by omega)] at kc
        have kf := hblk.frozen q
        generalize L.getD q 0 = l0 at kc
        have HG : Hid (∀ v : Int, v = gr (ov a (k + 1)) (ov b (k + 1)) → fa a b (k + 1) = true → (L.set q v).length = a.length ∧ (∀ i, a.length - (k + 1) ≤ i → i < a.length → (L.set q v).getD i 0 = gr (ov a (a.length - i)) (ov b (a.length - i))) ∧ ∀ j, 1 ≤ j → j ≤ k + 1 → fa a b j = true) := by
          intro v hv hf
          have H := HL.out
          refine ⟨by simpa using hL, fun i h1 hi => ?_, fun i h1 h2 => ?_⟩
          · by_cases e : q = i
            · subst e; rw [set_getD_self (by omega), hv, show a.length - q = k + 1 by omega]
            · rw [set_getD_ne e]; exact H.2.1 i (by omega) hi
          · by_cases e : i = k + 1
            · subst e; exact hf
            · exact H.2.2 i h1 (by omega)
        have HF : Hid (fa a b (k + 1) = true ↔ ov a (k + 1) = ov b (k + 1) ∨ ov a (k + 1) = 1 ∨ ov b (k + 1) = 1) := fa_iff a b (k + 1)
        have HP : Hid (1 ≤ ov a (k + 1) ∧ 1 ≤ ov b (k + 1)) := ⟨ov_pos HM.out.1 (by omega), ov_pos HM.out.2 (by omega)⟩
        have HE : Hid (fa a b (k + 1) = false → spe a b = 2 ∧ spv a b = []) := by
          intro hf
          have : fit a b = false := by
            cases h : fit a b with
            | false => rfl
            | true => rw [(fitN_iff a b _).1 h (k + 1) (by omega) (by rw [← HN.out]; omega)] at hf; cases hf
          have e : spe a b = 2 := by unfold spe; rw [this]; rfl
          exact ⟨e, by unfold spv; rw [if_neg (by omega)]⟩
        have e1 : (a.length : Int) - 1 - (k : Int) = (q : Int) := by omega
        have ql : q < a.length := by omega
        generalize ov a (k + 1) = x at *
        generalize ov b (k + 1) = y at *
        have HQ := Lib.hid hq
        clear hq
        have HL2 := Lib.hid hL
        clear hL HL
        by_cases g : x = y ∨ x = 1 ∨ y = 1
        · have hm := gr_max HP.out.1 HP.out.2 g
          by_cases g4 : x < y
          · rw [if_pos g4] at hm
            have R := Lib.hid (HG.out y hm.symm (HF.out.2 g))
            clear hm
            have g1 : (x != y) = true := by rw [bne_iff_ne]; omega
            by_cases g2 : x = 1
            · subst g2
              clear g
              go_wp2_with (first | (go_at_call 45; (with_reducible refine A1.out.mono ?_); rintro e w' ⟨rfl, rfl⟩) | (go_at_call 45; (with_reducible refine B1.out.mono ?_); rintro e w' ⟨rfl, rfl⟩))
              refine ⟨⟨k + 1, L.set q y, by omega, by go_num, hblk.put q y, R, hB.setCell (Nat.le_refl _) _⟩, by simp [intOf]; omega⟩
            · exfalso
              have := HP.out
              rcases g with g | g | g <;> omega
          · rw [if_neg g4] at hm
            have R := Lib.hid (HG.out x hm.symm (HF.out.2 g))
            clear hm
            by_cases g1 : x = y
            · subst g1
              clear g
              go_wp2_with (first | (go_at_call 45; (with_reducible refine A1.out.mono ?_); rintro e w' ⟨rfl, rfl⟩) | (go_at_call 45; (with_reducible refine B1.out.mono ?_); rintro e w' ⟨rfl, rfl⟩))
              refine ⟨⟨k + 1, L.set q x, by omega, by go_num, hblk.put q x, R, hB.setCell (Nat.le_refl _) _⟩, by simp [intOf]; omega⟩
            · obtain rfl : y = 1 := by have := HP.out; rcases g with g | g | g <;> omega
              have b1 : (x != 1) = true := by rw [bne_iff_ne]; exact g1
              clear g g1
              go_wp2_with (first | (go_at_call 45; (with_reducible refine A1.out.mono ?_); rintro e w' ⟨rfl, rfl⟩) | (go_at_call 45; (with_reducible refine B1.out.mono ?_); rintro e w' ⟨rfl, rfl⟩))
              refine ⟨⟨k + 1, L.set q x, by omega, by go_num, hblk.put q x, R, hB.setCell (Nat.le_refl _) _⟩, by simp [intOf]; omega⟩
        · have R := Lib.hid (HE.out (by
            cases h : fa a b (k + 1) with
            | false => rfl
            | true => exact absurd (HF.out.1 h) g))
          have b1 : (x != y) = true := by rw [bne_iff_ne]; exact fun e => g (.inl e)
          have b2 : (x != 1) = true := by rw [bne_iff_ne]; exact fun e => g (.inr (.inl e))
          have b3 : (y != 1) = true := by rw [bne_iff_ne]; exact fun e => g (.inr (.inr e))
          clear g
          go_wp2_with (first | (go_at_call 45; (with_reducible refine A1.out.mono ?_); rintro e w' ⟨rfl, rfl⟩) | (go_at_call 45; (with_reducible refine B1.out.mono ?_); rintro e w' ⟨rfl, rfl⟩))
          go_ret2
          exact ⟨_, by rw [R.out.1]; rfl, by rw [R.out.2]; exact Ld.nil _, hB⟩
      · have hkn : k = a.length := by omega
        have E : L = spr a b := by
          have H := HL.out
          unfold spr
          rw [← HN.out]
          refine ext_getD (by rw [spl_len]; exact H.1) fun i hi => ?_
          rw [spl_getD _ _ _ _ (by omega)]
          exact H.2.1 i (by omega) (by omega)
        have hfit : fit a b = true := by
          unfold fit
          rw [← HN.out]
          exact (fitN_iff _ _ _).2 fun j h1 h2 => HL.out.2.2 j h1 (by omega)
        have hL := HL.out.1
        subst E
        have hld := Ld.of_blk hblk (c := a.length) (by omega)
        rw [hL] at hld
        have C := Lib.hid (rmay_any _ _ wr hld (by omega))
        cases hm : may (spr a b) with
        | true =>
          have R : Hid (spe a b = 0 ∧ spv a b = spr a b) := by
            have e : spe a b = 0 := by unfold spe; rw [if_pos hfit, if_pos hm]
            exact ⟨e, by unfold spv; rw [if_pos e]⟩
          rw [hm] at C
          have HLD := Lib.hid hld
          clear hfit hm hld hL
          go_wp2_with (go_at_call 28; (with_reducible refine C.out.mono ?_); rintro e w' ⟨rfl, rfl⟩)
          go_ret2
          exact ⟨_, by rw [R.out.1]; rfl, by rw [R.out.2]; exact HLD.out, hB⟩
        | false =>
          have R : Hid (spe a b = 5 ∧ spv a b = []) := by
            have e : spe a b = 5 := by unfold spe; rw [if_pos hfit, hm]; rfl
            exact ⟨e, by unfold spv; rw [if_neg (by omega)]⟩
          rw [hm] at C
          clear hfit hm hld hL
          go_wp2_with (go_at_call 28; (with_reducible refine C.out.mono ?_); rintro e w' ⟨rfl, rfl⟩)
          go_ret2
          exact ⟨_, by rw [R.out.1]; rfl, by rw [R.out.2]; exact Ld.nil _, hB⟩

theorem spv_len {a b : List Int} (ha : a.length ≤ 4) (hb : b.length ≤ 4) : (spv a b).length ≤ 4 := by
  unfold spv
  split
  · unfold spr; rw [spl_len]; unfold mx; omega
  · simp

set_option maxRecDepth 100000 in
set_option maxHeartbeats 4000000 in
theorem runder_any (vs vt vi : Value) (s t i : List Int) (w : World) (hs : Ld w vs s) (ht : Ld w vt t) (hi : Ld w vi i) (ms : may s = true) (mt : may t = true) (hg : goes s t = true) (hx : inx t i = true) :
    Calls Tryz.prog 47 #[vs, vt, vi] w fun e w' => e = .returned (.int .i64 (und s i)) ∧ Below w.heap.size w w' := by
  obtain ⟨i0, hi0, hz0, hz1, hz2⟩ := info_parts infoI
  have hl := inx_len hx
  have l4 := may_len mt
  have ls := may_len ms
  have hst : s.length ≤ t.length := by
    have := hg
    rw [goes_is ms mt] at this
    simp only [Bool.and_eq_true, decide_eq_true_eq] at this
    exact this.1
  have ui := under_inx ms mt hg hx
  have RI := Lib.hid (fun (W : World) (v : Value) (h : Below w.heap.size w W) (hv : Ld W v (msk s (lst s i))) => rindex_any vs v s (msk s (lst s i)) W (hs.below h) hv ms ui)
  have HG : Hid (∀ k, k < s.length → (msk s (lst s i)).getD k 0 = if 1 < s.getD k 0 then i.getD (k + i.length - s.length) 0 else 0) := fun k hk => by
    rw [msk_getD s _ k (lst_len (by omega)) hk, lst_getD (by omega)]
  have ML : Hid ((msk s (lst s i)).length = s.length) := msk_len s _ (lst_len (by omega))
  have EU : Hid (und s i = ix s (msk s (lst s i))) := rfl
  obtain ⟨q, hq⟩ : ∃ q, t.length = q + s.length := ⟨t.length - s.length, by omega⟩
  have HQ := Lib.hid (And.intro hq hl)
  have mk : (Instr.makeSlice 23 (.int .i64 (s.length : Int)) (.int .i64 (s.length : Int))).run Tryz.prog w = .ok (.slice (some ⟨w.heap.size, 0, none⟩) s.length s.length) (w.alloc (.cells (madeCells #[.int .i64 0] s.length) 3)) := by
    have := run_make (w := w) 23 3 i0 (.int .i64 0) Tryz.underlying23 hi0 hz0 .i64 .i64 s.length s.length (by omega) (by omega) (by rw [hz2]; omega) (by omega)
    rw [this, hz1]; simp [Value.cells]
  rw [made_ints] at mk
  obtain ⟨oi, ci, rfl, _, hxi⟩ := hi
  obtain ⟨os, cs, rfl, _, hxs⟩ := hs
  obtain ⟨ot, ctt, rfl, _, _⟩ := ht
  have HI := Lib.hid hxi
  have HS := Lib.hid hxs
  rw [← hl, hq]
  rw [hq] at l4
  clear hxi hxs ms mt hg hx hl hst ui hq
  generalize msk s (lst s i) = m at *
  go_enter Tryz.func47, Tryz.ntmps47
  go_wp2
  clear mk
  go_loopw [8] (fun s8 wr => ∃ (k : Nat) (L : List Int), k ≤ s.length ∧ s8 = .int .i64 k ∧ Blk wr w.heap.size 3 (ints L).toArray ∧ Hid (L.length = s.length ∧ (∀ j, j < k → L.getD j 0 = m.getD j 0) ∧ ∀ j, k ≤ j → j < s.length → L.getD j 0 = 0) ∧ Below w.heap.size w wr) (fun s8 _ => s.length - (intOf s8).toNat)
  case atStart => exact ⟨0, List.replicate s.length 0, Nat.zero_le _, rfl, Blk.new _ _ _, ⟨by simp, fun j h => absurd h (Nat.not_lt_zero _), fun j _ h => by simp [List.getD, h]⟩, (Below.refl _ _).alloc (Nat.le_refl _) _⟩
  case round =>
    obtain ⟨k, L, hk, rfl, hblk, HL, hB⟩ := hrel
    have hBs := hB.size
    by_cases hlt : k < s.length
    · obtain ⟨b2, f2, rfl, h2, c2⟩ := HS.out k hlt
      obtain ⟨b1, f1, rfl, h1, c1⟩ := HI.out (k + q) (by have := HQ.out; omega)
      have c2' : wr.cell? ⟨b2, f2 + k, none⟩ = some (.int .i64 (s.getD k 0)) := (hB.cell (p := ⟨b2, f2 + k, none⟩) h2).trans c2
      have c1' : wr.cell? ⟨b1, f1 + (k + q), none⟩ = some (.int .i64 (i.getD (k + q) 0)) := (hB.cell (p := ⟨b1, f1 + (k + q), none⟩) h1).trans c1
      have gm := HG.out k hlt
      rw [show k + i.length - s.length = k + q by have := HQ.out; omega] at gm
      have kc := hblk.cell k
      have hL := HL.out.1
      rw [ints_at (by omega)] at kc
      have kf := hblk.frozen k
      generalize L.getD k 0 = l0 at kc
      have HGv : Hid (m.getD k 0 = i.getD (k + q) 0 → (L.set k (i.getD (k + q) 0)).length = s.length ∧ (∀ j, j < k + 1 → (L.set k (i.getD (k + q) 0)).getD j 0 = m.getD j 0) ∧ ∀ j, k + 1 ≤ j → j < s.length → (L.set k (i.getD (k + q) 0)).getD j 0 = 0) := fun e => by
        have H := HL.out
        refine ⟨by simpa using hL, fun j hj => ?_, fun j h1 h2 => ?_⟩
        · by_cases ee : k = j
          · subst ee; rw [set_getD_self (by omega), e]
          · rw [set_getD_ne ee]; exact H.2.1 j (by omega)
        · rw [set_getD_ne (by omega)]; exact H.2.2 j (by omega) h2
      have HGn : Hid (m.getD k 0 = 0 → L.length = s.length ∧ (∀ j, j < k + 1 → L.getD j 0 = m.getD j 0) ∧ ∀ j, k + 1 ≤ j → j < s.length → L.getD j 0 = 0) := fun e => by
        have H := HL.out
        refine ⟨hL, fun j hj => ?_, fun j h1 h2 => H.2.2 j (by omega) h2⟩
        by_cases ee : k = j
        · subst ee; rw [e]; exact H.2.2 k (Nat.le_refl _) hlt
        · exact H.2.1 j (by omega)
      have e1 : (k : Int) + ((q : Int) + (s.length : Int)) - (s.length : Int) = (k : Int) + (q : Int) := by omega
      have ql : k + q < q + s.length := by omega
      have e3 : ((k : Int) + (q : Int)).toNat = k + q := by omega
      have HL2 := Lib.hid hL
      clear c1 c2 hL HL
      generalize i.getD (k + q) 0 = x at *
      generalize s.getD k 0 = d at *
      by_cases g : 1 < d
      · rw [if_pos g] at gm
        have R := Lib.hid (HGv.out gm)
        clear gm
        go_wp2
        refine ⟨⟨k + 1, L.set k x, by omega, by go_num, hblk.put k x, R, hB.setCell (Nat.le_refl _) _⟩, by simp [intOf]; omega⟩
      · rw [if_neg g] at gm
        have R := Lib.hid (HGn.out gm)
        clear gm
        go_wp2
        refine ⟨⟨k + 1, L, by omega, by go_num, hblk, R, hB⟩, by simp [intOf]; omega⟩
    · obtain rfl : k = s.length := by omega
      obtain rfl : L = m := ext_getD (HL.out.1.trans ML.out.symm) fun j hj => HL.out.2.1 j (by have := HL.out.1; omega)
      have hld := Ld.of_blk hblk (c := s.length) (by have := HL.out.1; omega)
      rw [HL.out.1] at hld
      have R := Lib.hid (RI.out wr _ hB hld)
      clear hld
      go_wp2_with (go_at_call 71; (with_reducible refine R.out.mono ?_); rintro e w2 ⟨rfl, hB2⟩)
      go_ret
      exact ⟨by rw [EU.out]; rfl, hB.trans (hB2.mono hBs)⟩
end Go.Proofs.YtpfcjajmfadcbaaGreat
namespace Go.Proofs.YtpfcjajmfadcbaaGreat
open Go.RowKit
attribute [local go_sem ↓] Go.wp_at_zero Go.wp_at_succ

theorem grown_drw {w W : World} {r : Option Nat} (h : w.grownBy W r) (n : Nat) : w.grownBy (W.drewN n) r := ⟨h.os, h.tape, h.output, h.size, h.block⟩
theorem grown_put {w W : World} {g k : Nat} (h : w.grownBy W (some g)) (v : Value) : w.grownBy (W.setCell ⟨g, k, none⟩ v) (some g) :=
  ⟨h.os, h.tape, h.output, by simpa using h.size, fun j hj hne => (Below.heap_setCell _ _ _ j (fun e => hne (by rw [e]))).trans (h.block j hj hne)⟩
theorem grown_cell {w W : World} {g : Nat} (h : w.grownBy W (some g)) {b i : Nat} {v : Value} (hb : b < w.heap.size) (hne : b ≠ g) (hc : w.cell? ⟨b, i, none⟩ = some v) : W.cell? ⟨b, i, none⟩ = some v := by
  rw [← hc]; simp [World.cell?, h.block b hb (by simpa using hne)]
theorem blk_new1 (w : World) (o : Obj) (t : TypeId) (cs : Array Value) : Blk ((w.alloc o).alloc (.cells cs t)) (w.heap.size + 1) t cs := by
  have := Blk.new (w.alloc o) t cs
  rwa [World.size_alloc] at this
theorem wsn_put {sh st s : List Int} {k a : Nat} (ha : s.length - sh.length = a) (e : sh.getD k 0 = s.getD (k + a) 0) : wsn sh st s (k + 1) = (wsn sh st s k).set (k + a) (st.getD k 0) := by subst ha; exact if_pos e
theorem wsn_skip {sh st s : List Int} {k a : Nat} (ha : s.length - sh.length = a) (e : ¬ sh.getD k 0 = s.getD (k + a) 0) : wsn sh st s (k + 1) = wsn sh st s k := by subst ha; exact if_neg e

end Go.Proofs.YtpfcjajmfadcbaaGreat
namespace Go.Proofs.YtpfcjajmfadcbaaGreat
open Go.RowKit

set_option maxRecDepth 100000 in
set_option maxHeartbeats 4000000 in
theorem eqw_any (va vb : Value) (a b : List Int) (w : World) (ha : Ld w va a) (hb : Ld w vb b) (la : a.length ≤ 17592186044416) (_lb : b.length ≤ 17592186044416) :
    Calls Tryz.prog 40 #[va, vb] w fun e w' => e = .returned (.bool (decide (a = b))) ∧ Below w.heap.size w w' := by
  obtain ⟨oa, ca, rfl, _, hxa⟩ := ha
  obtain ⟨ob, cb, rfl, _, hxb⟩ := hb
  have HA := Lib.hid hxa
  have HB := Lib.hid hxb
  clear hxa hxb
  by_cases hl : a.length = b.length
  · have HL := Lib.hid hl
    have HX : Hid ((∀ k, k < a.length → a.getD k 0 = b.getD k 0) → a = b) := ext_getD hl
    rw [← hl]
    clear hl _lb
    go_enter Tryz.func40, Tryz.ntmps40
    go_wp2
    go_loopw [5] (fun s5 wr => ∃ k : Nat, k ≤ a.length ∧ s5 = .int .i64 k ∧ Hid (∀ j, j < k → a.getD j 0 = b.getD j 0) ∧ Below w.heap.size w wr) (fun s5 _ => a.length - (intOf s5).toNat)
    case atStart => exact ⟨0, Nat.zero_le _, rfl, fun j hj => absurd hj (Nat.not_lt_zero _), Below.refl _ _⟩
    case round =>
      obtain ⟨k, hk, rfl, HK, hW⟩ := hrel
      by_cases hlt : k < a.length
      · obtain ⟨b1, f1, rfl, h1, c1⟩ := HA.out k hlt
        obtain ⟨b2, f2, rfl, h2, c2⟩ := HB.out k (by have := HL.out; omega)
        have c1' : wr.cell? ⟨b1, f1 + k, none⟩ = some (.int .i64 (a.getD k 0)) := (hW.cell (p := ⟨b1, f1 + k, none⟩) h1).trans c1
        have c2' : wr.cell? ⟨b2, f2 + k, none⟩ = some (.int .i64 (b.getD k 0)) := (hW.cell (p := ⟨b2, f2 + k, none⟩) h2).trans c2
        have HG : Hid (a.getD k 0 = b.getD k 0 → ∀ j, j < k + 1 → a.getD j 0 = b.getD j 0) := fun g j hj => by
          by_cases e : j = k
          · subst e; exact g
          · exact HK.out j (by omega)
        have HN : Hid (¬ a.getD k 0 = b.getD k 0 → decide (a = b) = false) := fun g => decide_eq_false (fun e => g (by rw [e]))
        clear c1 c2
        generalize a.getD k 0 = x at *
        generalize b.getD k 0 = y at *
        by_cases g : x = y
        · subst g
          have R := Lib.hid (HG.out rfl)
          go_wp2
          go_quiet (fail)
          go_wp2
          exact ⟨⟨k + 1, by omega, by go_num, R, by first | exact below_drw hW _ | exact hW⟩, by simp [intOf]; omega⟩
        · have R := Lib.hid (HN.out g)
          have g' : (x != y) = true := by rw [bne_iff_ne]; exact g
          clear g
          go_wp2
          go_quiet (fail)
          go_wp2
          go_ret
          exact ⟨by rw [R.out]; rfl, by first | exact below_drw hW _ | exact hW⟩
      · have e : Hid (decide (a = b) = true) := decide_eq_true (HX.out fun j hj => HK.out j (by omega))
        go_wp2
        go_ret
        exact ⟨by rw [e.out]; rfl, hW⟩
  · have e : Hid (decide (a = b) = false) := decide_eq_false (fun e => hl (by rw [e]))
    have hl2 : ((a.length : Int) != (b.length : Int)) = true := by rw [bne_iff_ne]; omega
    clear hl
    go_enter Tryz.func40, Tryz.ntmps40
    go_wp2
    go_ret
    exact ⟨by rw [e.out]; rfl, Below.refl _ _⟩

/-- Words alone? -/
def wds (l : List Int) : Bool := l.all fun x => decide (-140737488355328 < x) && decide (x < 140737488355328)
theorem wds_at {l : List Int} (h : wds l = true) {k : Nat} (hk : k < l.length) : -140737488355328 < l.getD k 0 ∧ l.getD k 0 < 140737488355328 := by
  unfold wds at h
  rw [List.all_eq_true] at h
  have := h (l.getD k 0) (getD_mem hk)
  simpa using this
theorem wds_no {l : List Int} {k : Nat} (hk : k < l.length) (h : ¬ (-140737488355328 < l.getD k 0 ∧ l.getD k 0 < 140737488355328)) : wds l = false := by
  cases e : wds l with
  | false => rfl
  | true => exact absurd (wds_at e hk) h
theorem wds_yes {l : List Int} (h : ∀ k, k < l.length → -140737488355328 < l.getD k 0 ∧ l.getD k 0 < 140737488355328) : wds l = true := by
  unfold wds
  rw [List.all_eq_true]
  intro x hx
  obtain ⟨i, hi, rfl⟩ := List.mem_iff_getElem.1 hx
  have := h i hi
  simp only [List.getD, List.getElem?_eq_getElem hi, Option.getD_some] at this
  simpa using this
set_option maxRecDepth 100000 in
set_option maxHeartbeats 4000000 in
theorem may2_any (x : Int) (w : World) : Calls Tryz.prog 23 #[.int .i64 x] w fun e w' => e = .returned (.bool (decide (-140737488355328 < x) && decide (x < 140737488355328))) ∧ w = w' := by
  by_cases g1 : -140737488355328 < x
  · by_cases g2 : x < 140737488355328
    · have b1 := decide_eq_true g1
      have b2 := decide_eq_true g2
      rw [b1, b2]
      go_enter Tryz.func23, Tryz.ntmps23
      go_wp2
      go_ret
      exact ⟨rfl, rfl⟩
    · have b1 := decide_eq_true g1
      have b2 := decide_eq_false g2
      rw [b1, b2]
      go_enter Tryz.func23, Tryz.ntmps23
      go_wp2
      go_ret
      exact ⟨rfl, rfl⟩
  · have b1 := decide_eq_false g1
    rw [b1]
    go_enter Tryz.func23, Tryz.ntmps23
    go_wp2
    go_ret
    exact ⟨rfl, rfl⟩

set_option maxRecDepth 100000 in
set_option maxHeartbeats 4000000 in
theorem words_any (v : Value) (l : List Int) (w : World) (h : Ld w v l) (hl : l.length ≤ 9223372036854775807) : Calls Tryz.prog 29 #[v] w fun e w' => e = .returned (.bool (wds l)) ∧ w = w' := by
  obtain ⟨o, c, rfl, _, hx⟩ := h
  have HX := Lib.hid hx
  clear hx
  go_enter Tryz.func29, Tryz.ntmps29
  go_wp2
  go_loop [3] (fun s3 => ∃ k : Nat, k ≤ l.length ∧ s3 = .int .i64 k ∧ Hid (∀ j, j < k → -140737488355328 < l.getD j 0 ∧ l.getD j 0 < 140737488355328)) (fun s3 => l.length - (intOf s3).toNat)
  case atStart => exact ⟨0, Nat.zero_le _, rfl, fun j hj => absurd hj (Nat.not_lt_zero _)⟩
  case round =>
    obtain ⟨k, hk, rfl, HK⟩ := hrel
    by_cases hlt : k < l.length
    · obtain ⟨b, f, rfl, _, hc⟩ := HX.out k hlt
      have HY : Hid ((decide (-140737488355328 < l.getD k 0) && decide (l.getD k 0 < 140737488355328)) = true → ∀ j, j < k + 1 → -140737488355328 < l.getD j 0 ∧ l.getD j 0 < 140737488355328) := fun g j hj => by
        by_cases e : j = k
        · subst e; simpa using g
        · exact HK.out j (by omega)
      have HN : Hid ((decide (-140737488355328 < l.getD k 0) && decide (l.getD k 0 < 140737488355328)) = false → wds l = false) := fun g => wds_no hlt (fun e => by rw [decide_eq_true e.1, decide_eq_true e.2] at g; cases g)
      generalize l.getD k 0 = x at *
      have KM := Lib.hid (fun (W : World) => may2_any x W)
      cases gg : (decide (-140737488355328 < x) && decide (x < 140737488355328)) with
      | true =>
        rw [gg] at KM
        have R := Lib.hid (HY.out gg)
        clear gg
        go_wp2_with (go_at_call 23; (with_reducible refine (KM.out _).mono ?_); rintro e w' ⟨rfl, rfl⟩)
        exact ⟨⟨k + 1, by omega, by go_num, R⟩, by simp [intOf]; omega⟩
      | false =>
        rw [gg] at KM
        have R := Lib.hid (HN.out gg)
        clear gg
        go_wp2_with (go_at_call 23; (with_reducible refine (KM.out _).mono ?_); rintro e w' ⟨rfl, rfl⟩)
        go_ret
        exact ⟨by rw [R.out]; rfl, rfl⟩
    · obtain rfl : k = l.length := by omega
      have R := Lib.hid (wds_yes HK.out)
      clear hlt
      go_wp2
      go_ret
      exact ⟨by rw [R.out]; rfl, rfl⟩
end Go.Proofs.YtpfcjajmfadcbaaGreat
namespace Go.Proofs.YtpfcjajmfadcbaaGreat
open Go.RowKit

/-- A word? -/
def wd1 (x : Int) : Bool := decide (-140737488355328 < x) && decide (x < 140737488355328)
set_option maxRecDepth 100000 in
set_option maxHeartbeats 2000000 in
theorem fxcheck_any (x : Int) (w : World) : Calls Tryz.prog 44 #[.int .i64 x] w fun e w' => e = .returned (.int .i64 (if wd1 x then 0 else 1)) ∧ w = w' := by
  by_cases g1 : x ≤ -140737488355328
  · have b1 : wd1 x = false := by unfold wd1; rw [decide_eq_false (by omega)]; rfl
    rw [b1]
    clear b1
    go_enter Tryz.func44, Tryz.ntmps44
    go_wp2
    go_ret
    exact ⟨rfl, rfl⟩
  · by_cases g2 : 140737488355328 ≤ x
    · have b1 : wd1 x = false := by unfold wd1; rw [decide_eq_false (show ¬ x < 140737488355328 by omega), Bool.and_false]
      rw [b1]
      clear b1
      go_enter Tryz.func44, Tryz.ntmps44
      go_wp2
      go_ret
      exact ⟨rfl, rfl⟩
    · have b1 : wd1 x = true := by unfold wd1; rw [decide_eq_true (by omega), decide_eq_true (by omega)]; rfl
      rw [b1]
      clear b1
      go_enter Tryz.func44, Tryz.ntmps44
      go_wp2
      go_ret
      exact ⟨rfl, rfl⟩



/-- A tensor? -/
def tnb (ts tds : List Int) : Bool := may ts && decide ((tds.length : Int) = prod ts) && wds tds
end Go.Proofs.YtpfcjajmfadcbaaGreat
namespace Go.Proofs.YtpfcjajmfadcbaaGreat
open Go.RowKit Go.Shelf
attribute [local go_sem] Oper.semAt_some

/-- The words where the indexes stand. -/
def cps (sh st : List Int) (off : Int) (ls : List Int) (N : Nat) : List Int := (List.range N).map fun k => ls.getD (off + dot st (atl sh (k : Nat))).toNat 0
theorem cps_len (sh st : List Int) (off : Int) (ls : List Int) (N : Nat) : (cps sh st off ls N).length = N := by simp [cps]
theorem cps_getD {sh st : List Int} {off : Int} {ls : List Int} {N k : Nat} (h : k < N) : (cps sh st off ls N).getD k 0 = ls.getD (off + dot st (atl sh (k : Nat))).toNat 0 := by simp [cps, List.getD, h]
theorem cps_snoc {sh st : List Int} {off : Int} {ls : List Int} {N k P : Nat} (h : k < N) (e : off + dot st (atl sh (k : Nat)) = (P : Int)) : (cps sh st off ls N).take (k + 1) = (cps sh st off ls N).take k ++ [ls.getD P 0] := by
  have hk : k < (cps sh st off ls N).length := by rw [cps_len]; exact h
  have h1 := cps_getD (sh := sh) (st := st) (off := off) (ls := ls) h
  rw [e, Int.toNat_natCast] at h1
  rw [List.take_succ_eq_append_getElem hk]
  rw [List.getD_eq_getElem?_getD, List.getElem?_eq_getElem hk] at h1
  rw [← h1]; rfl
theorem blk2 {W : World} {b : Nat} {t : TypeId} {x y : Value} (h : Blk W b t #[x, y]) : W.cell? ⟨b, 0, none⟩ = some x ∧ W.cell? ⟨b, 1, none⟩ = some y ∧ W.frozen? ⟨b, 0, none⟩ = false ∧ W.frozen? ⟨b, 1, none⟩ = false :=
  ⟨h.cell 0, h.cell 1, h.frozen 0, h.frozen 1⟩
/-- A tensor in new memory, and an error. -/
def SomeT (w : World) (er : Int) (sh ds : List Int) (e : Ending) (w' : World) : Prop := ∃ os cs od cd, e = .returned (.tuple #[.agg #[.slice os sh.length cs, .slice od ds.length cd], .int .i64 er]) ∧ w'.ownsRow w.heap.size 3 1 (.slice os sh.length cs) sh.length (ints sh) ∧ w'.ownsRow w.heap.size 2 1 (.slice od ds.length cd) ds.length (ints ds) ∧ Below w.heap.size w w'
theorem infoW : (Tryz.prog.info? 2).map (fun i => (i.zero, i.size, i.bytes)) = some (some (.int .i64 0), 1, 8) := by kernel_rfl


theorem tens_not_row {w : World} {base n b : Nat} {v : Value} {xs : List Value} {cs : Array Value} {t u : TypeId} (h : w.ownsRow base t 1 v n xs) (hb : Blk w b u cs) (hne : t ≠ u) : ¬ v.ownBlock = some b := by
  intro e
  rcases h.2 with ⟨rfl, _⟩ | ⟨g, cap, cur, rfl, _, hh, _⟩
  · simp [Value.ownBlock] at e
  · simp only [Value.ownBlock, Option.some.injEq] at e
    subst e
    have := hh.symm.trans hb
    simp only [Option.some.injEq, Obj.cells.injEq] at this
    exact hne this.2.1
/-- A word is appended. -/
theorem cp_step {X w9 w5 : World} {T B g k : Nat} {y : Int} {dv : Value} {xs : List Value} {cs : Array Value} (hb : Blk X T 26 cs) (hu : X.ownsRow B 2 1 dv k xs) (hB : Below T w5 X)
    (hgrow : (X.alloc (.cells #[.int .i64 y] 2)).drew.grownBy w9 dv.ownBlock) (_hat : dv.ownBlock = some g ∨ g = X.heap.size + 1) (hTl : T < B) (hXs : B ≤ X.heap.size) :
    Blk w9 T 26 cs ∧ Below T w5 w9 := by
  refine ⟨((hb.alloc _).drew).kept hgrow (fun e => by have := (hu.lt T e.symm).1; omega), ?_⟩
  have h1 := below_drw (hB.alloc (by omega) (.cells #[.int .i64 y] 2)) 1
  exact h1.grown hgrow (by simp; omega) (fun j e => by have := (hu.lt j e).1; omega)
/-- What a round of Copy's loop leaves. -/
def CpI (T B : Nat) (w5 : World) (sv : Value) (ds : List Int) (k : Nat) (W : World) : Prop := ∃ dv, Blk W T 26 #[sv, dv] ∧ W.ownsRow B 2 1 dv k (ints (ds.take k)) ∧ Below T w5 W ∧ B ≤ W.heap.size
theorem cpi_own (T B : Nat) (w5 : World) (sv : Value) (ds : List Int) (hT : T < B) (_hs : w5.heap.size ≤ B) : OwnFrom B (fun (pre : List Nat) W => CpI T B w5 sv ds pre.length W) := by
  rintro s X Y row ⟨dv, h1, h2, h3, h4⟩ hg hr
  have hc : ∀ r, row = some r → ∃ o : Obj, X.heap[r]? = some o ∧ o.isCells = false := fun r e => (hr r e).2
  exact ⟨dv, blk_own (β := Unit) T _ (fun _ => _) () X Y row h1 hg hc, own_kept h2 hg hc, h3.grown hg (by omega) (fun k e => by have := (hr k e).1; omega), Nat.le_trans h4 hg.size⟩
theorem kv_alloc {S : Nat → Prop} {X : World} (o : Obj) (hS : ∀ k, S k → k < X.heap.size) : KV S X (X.alloc o) :=
  ⟨fun k hk => Below.heap_alloc _ _ _ (hS k hk), fun _k _ _ _ e _ => Below.heap_alloc _ _ _ (Array.getElem?_eq_some_iff.1 e).1⟩
theorem cp_done {X w9 w5 : World} {T B g k c : Nat} {y : Int} {dv sv : Value} {ds : List Int} (hown : w9.ownsRow B 2 1 (.slice (some ⟨g, 0, none⟩) (k + 1) c) (k + 1) (ints (ds.take k) ++ [.int .i64 y])) (hb9 : Blk w9 T 26 #[sv, dv]) (hB9 : Below T w5 w9) (hb : Blk X T 26 #[sv, dv]) (hu : X.ownsRow B 2 1 dv k (ints (ds.take k)))
    (hgrow : (X.alloc (.cells #[.int .i64 y] 2)).drew.grownBy w9 dv.ownBlock) (hE : ds.take (k + 1) = ds.take k ++ [y]) (hTl : T < B) (hXs : B ≤ X.heap.size) :
    KeepsFrom B X (w9.setCell ⟨T, 1, none⟩ (.slice (some ⟨g, 0, none⟩) (k + 1) c)) ∧ KV (fun j => j < B ∧ j ≠ T) X (w9.setCell ⟨T, 1, none⟩ (.slice (some ⟨g, 0, none⟩) (k + 1) c)) ∧ CpI T B w5 sv ds (k + 1) (w9.setCell ⟨T, 1, none⟩ (.slice (some ⟨g, 0, none⟩) (k + 1) c)) := by
  have hsz : X.heap.size ≤ w9.heap.size := Nat.le_trans (by simp) hgrow.size
  have same : ∀ j, j < X.heap.size → some j ≠ dv.ownBlock → j ≠ T → (w9.setCell ⟨T, 1, none⟩ (.slice (some ⟨g, 0, none⟩) (k + 1) c)).heap[j]? = X.heap[j]? := fun j h1 h2 h3 =>
    (Below.heap_setCell _ _ _ j h3).trans ((hgrow.block j (by simp; omega) h2).trans (Below.heap_alloc _ _ _ h1))
  have isrow : ∀ (j : Nat) (o : Obj), X.heap[j]? = some o → some j = dv.ownBlock → ∃ cur, o = .cells cur 2 (0, 0) := by
    intro j o ho e
    rcases hu.2 with ⟨rfl, _⟩ | ⟨g', cap, cur, rfl, _, hh, _⟩
    · simp [Value.ownBlock] at e
    · simp only [Value.ownBlock, Option.some.injEq] at e
      subst e
      exact ⟨cur, Option.some.inj (ho.symm.trans hh)⟩
  refine ⟨⟨by simpa using hsz, fun j o hj ho hc => ?_⟩, ⟨fun j hj => ?_, fun j cs t fz ho ht => ?_⟩, .slice (some ⟨g, 0, none⟩) (k + 1) c, hb9.set_ 1 _, ?_, hB9.setCell (Nat.le_refl _) _, by simp; omega⟩
  · refine (same j (Array.getElem?_eq_some_iff.1 ho).1 (fun e => ?_) (by omega)).trans ho
    obtain ⟨cur, rfl⟩ := isrow j o ho e
    cases hc
  · refine same j (by omega) (fun e => ?_) hj.2
    have := (hu.lt j e.symm).1
    omega
  · refine same j (Array.getElem?_eq_some_iff.1 ho).1 (fun e => ?_) (fun e => ?_)
    · obtain ⟨cur, h2⟩ := isrow j _ ho e
      simp only [Obj.cells.injEq] at h2
      rcases ht with rfl | rfl | rfl <;> simp at h2
    · subst e
      have h2 := ho.symm.trans hb
      simp only [Option.some.injEq, Obj.cells.injEq] at h2
      rcases ht with rfl | rfl | rfl <;> simp at h2
  · rw [hE, ints_snoc]
    exact hown.kept (grown_set w9 ⟨T, 1, none⟩ _) (.inr (tens_not_row hown hb9 (by decide)))

theorem cp_end {X : World} {b D base n : Nat} {e : TypeId} {v : Value} {xs : List Value} {cs : Array Value} {o : Obj} (hO : X.ownsRow base e 1 v n xs) (hb : Blk X b 26 cs) (hD : X.heap[D]? = some o) (hc : o.isCells = false) (hne : e ≠ 26) (u1 u2 : Value) (o' : Obj) :
    (((X.setCell ⟨b, 0, none⟩ u1).setCell ⟨b, 1, none⟩ u2).putObj D o').ownsRow base e 1 v n xs := by
  have h1 := hO.kept (grown_set X ⟨b, 0, none⟩ u1) (.inr (tens_not_row hO hb hne))
  have hb1 := hb.set_ 0 u1
  have h2 := h1.kept (grown_set _ ⟨b, 1, none⟩ u2) (.inr (tens_not_row h1 hb1 hne))
  have hne : D ≠ b := by rintro rfl; rw [show X.heap[D]? = _ from hb] at hD; cases hD; cases hc
  exact own_kept h2 (grownBy_putObj' _ D o') (fun r er => by cases er; exact ⟨o, ((Below.heap_setCell _ _ _ _ hne).trans (Below.heap_setCell _ _ _ _ hne)).trans hD, hc⟩)


/-- Copy's error. -/
def cpe (sh st ls : List Int) (off : Int) : Int := if vwb sh st off ls.length && wds ls then 0 else 1
end Go.Proofs.YtpfcjajmfadcbaaGreat
