/-
  The reference's shapes: spread shapes, what stands under an index.
-/
import Derived.Test.YteplhlmdaabpaaaSm
namespace Go.Proofs.Yteplhlmdaabpaaa
open Go.RowKit

theorem gr_max {x y : Int} (hx : 1 ≤ x) (hy : 1 ≤ y) (h : x = y ∨ x = 1 ∨ y = 1) : gr x y = if x < y then y else x := by
  unfold gr
  split <;> split <;> omega

set_option maxRecDepth 100000 in
set_option maxHeartbeats 4000000 in
theorem rspread_any (va vb : Value) (a b : List Int) (w : World) (ha : Ld w va a) (hb : Ld w vb b) (ma : may a = true) (mb : may b = true) :
    Calls Try.prog 26 #[va, vb] w (SomeL w (spe a b) (spv a b)) := by
  obtain ⟨i0, hi0, hz0, hz1, hz2⟩ := info_parts infoI
  have la := may_len ma
  have lb := may_len mb
  have DA := Lib.hid (fun (W : World) (h : Below w.heap.size w W) (j : Nat) (j2 : j ≤ 1073741824) => rdim_any va a W (ha.below h) (by omega) j j2)
  have DB := Lib.hid (fun (W : World) (h : Below w.heap.size w W) (j : Nat) (j2 : j ≤ 1073741824) => rdim_any vb b W (hb.below h) (by omega) j j2)
  have HM := Lib.hid (And.intro (may_pos ma) (may_pos mb))
  obtain ⟨oa, ca, rfl, _, _⟩ := ha
  obtain ⟨ob, cb, rfl, _, _⟩ := hb
  obtain ⟨n, hn⟩ : ∃ n, n = mx a b := ⟨_, rfl⟩
  have hn4 : n ≤ 4 := by rw [hn]; unfold mx; omega
  have mk : (Instr.makeSlice 23 (.int .i64 (n : Int)) (.int .i64 (n : Int))).run Try.prog w = .ok (.slice (some ⟨w.heap.size, 0, none⟩) n n) (w.alloc (.cells (madeCells #[.int .i64 0] n) 3)) := by
    have := run_make (w := w) 23 3 i0 (.int .i64 0) Try.underlying23 hi0 hz0 .i64 .i64 n n (by omega) (by omega) (by rw [hz2]; omega) (by omega)
    rw [this, hz1]; simp [Value.cells]
  rw [made_ints] at mk
  have hn2 : (n = b.length ∧ a.length < b.length) ∨ (n = a.length ∧ ¬ a.length < b.length) := by rw [hn]; unfold mx; omega
  have HN := Lib.hid hn
  clear ma mb hn
  rcases hn2 with ⟨rfl, h2⟩ | ⟨rfl, h2⟩
  · go_enter Try.func26, Try.ntmps26
    go_wp2
    clear mk
    go_loopw [8] (fun s8 wr => ∃ (k : Nat) (L : List Int), k ≤ b.length ∧ s8 = .int .i64 k ∧ Blk wr w.heap.size 3 (ints L).toArray ∧ Hid (L.length = b.length ∧ (∀ i, b.length - k ≤ i → i < b.length → L.getD i 0 = gr (ov a (b.length - i)) (ov b (b.length - i))) ∧ ∀ j, 1 ≤ j → j ≤ k → fa a b j = true) ∧ Below w.heap.size w wr) (fun s8 _ => b.length - (intOf s8).toNat)
    case atStart => exact ⟨0, List.replicate b.length 0, Nat.zero_le _, rfl, Blk.new _ _ _, ⟨by simp, fun i h1 h2 => by omega, fun j h1 h2 => by omega⟩, (Below.refl _ _).alloc (Nat.le_refl _) _⟩
    case round =>
      obtain ⟨k, L, hk, rfl, hblk, HL, hB⟩ := hrel
      have hBs := hB.size
      by_cases hlt : k < b.length
      · obtain ⟨q, hq⟩ : ∃ q, b.length = q + k + 1 := ⟨b.length - k - 1, by omega⟩
        have A1 := Lib.hid (DA.out wr hB k (by omega))
        have B1 := Lib.hid (DB.out wr hB k (by omega))
        have kc := hblk.cell q
        have hL := HL.out.1
        rw [ints_at (by omega)] at kc
        have kf := hblk.frozen q
        generalize L.getD q 0 = l0 at kc
        have HG : Hid (∀ v : Int, v = gr (ov a (k + 1)) (ov b (k + 1)) → fa a b (k + 1) = true → (L.set q v).length = b.length ∧ (∀ i, b.length - (k + 1) ≤ i → i < b.length → (L.set q v).getD i 0 = gr (ov a (b.length - i)) (ov b (b.length - i))) ∧ ∀ j, 1 ≤ j → j ≤ k + 1 → fa a b j = true) := by
          intro v hv hf
          have H := HL.out
          refine ⟨by simpa using hL, fun i h1 hi => ?_, fun i h1 h2 => ?_⟩
          · by_cases e : q = i
            · subst e; rw [set_getD_self (by omega), hv, show b.length - q = k + 1 by omega]
            · rw [set_getD_ne e]; exact H.2.1 i (by omega) hi
          · by_cases e : i = k + 1
            · subst e; exact hf
            · exact H.2.2 i h1 (by omega)
        have HF : Hid (fa a b (k + 1) = true ↔ ov a (k + 1) = ov b (k + 1) ∨ ov a (k + 1) = 1 ∨ ov b (k + 1) = 1) := fa_iff a b (k + 1)
        have HP : Hid (1 ≤ ov a (k + 1) ∧ 1 ≤ ov b (k + 1)) := ⟨ov_pos HM.out.1 (by omega), ov_pos HM.out.2 (by omega)⟩
        have HE : Hid (fa a b (k + 1) = false → spe a b = 2 ∧ spv a b = []) := by
          intro hf
          have : fit a b = false := by
            cases h : fit a b with
            | false => rfl
            | true => rw [(fitN_iff a b _).1 h (k + 1) (by omega) (by rw [← HN.out]; omega)] at hf; cases hf
          have e : spe a b = 2 := by unfold spe; rw [this]; rfl
          exact ⟨e, by unfold spv; rw [if_neg (by omega)]⟩
        have e1 : (b.length : Int) - 1 - (k : Int) = (q : Int) := by omega
        have ql : q < b.length := by omega
        generalize ov a (k + 1) = x at *
        generalize ov b (k + 1) = y at *
        have HQ := Lib.hid hq
        clear hq
        have HL2 := Lib.hid hL
        clear hL HL
        by_cases g : x = y ∨ x = 1 ∨ y = 1
        · have hm := gr_max HP.out.1 HP.out.2 g
          by_cases g4 : x < y
          · rw [if_pos g4] at hm
            have R := Lib.hid (HG.out y hm.symm (HF.out.2 g))
            clear hm
            have g1 : (x != y) = true := by rw [bne_iff_ne]; omega
            by_cases g2 : x = 1
            · subst g2
              clear g
              go_wp2_with (first | (go_at_call 36; (with_reducible refine A1.out.mono ?_); rintro e w' ⟨rfl, rfl⟩) | (go_at_call 36; (with_reducible refine B1.out.mono ?_); rintro e w' ⟨rfl, rfl⟩))
              refine ⟨⟨k + 1, L.set q y, by omega, by go_num, hblk.put q y, R, hB.setCell (Nat.le_refl _) _⟩, by simp [intOf]; omega⟩
            · exfalso
              have := HP.out
              rcases g with g | g | g <;> omega
          · rw [if_neg g4] at hm
            have R := Lib.hid (HG.out x hm.symm (HF.out.2 g))
            clear hm
            by_cases g1 : x = y
            · subst g1
              clear g
              go_wp2_with (first | (go_at_call 36; (with_reducible refine A1.out.mono ?_); rintro e w' ⟨rfl, rfl⟩) | (go_at_call 36; (with_reducible refine B1.out.mono ?_); rintro e w' ⟨rfl, rfl⟩))
              refine ⟨⟨k + 1, L.set q x, by omega, by go_num, hblk.put q x, R, hB.setCell (Nat.le_refl _) _⟩, by simp [intOf]; omega⟩
            · obtain rfl : y = 1 := by have := HP.out; rcases g with g | g | g <;> omega
              have b1 : (x != 1) = true := by rw [bne_iff_ne]; exact g1
              clear g g1
              go_wp2_with (first | (go_at_call 36; (with_reducible refine A1.out.mono ?_); rintro e w' ⟨rfl, rfl⟩) | (go_at_call 36; (with_reducible refine B1.out.mono ?_); rintro e w' ⟨rfl, rfl⟩))
              refine ⟨⟨k + 1, L.set q x, by omega, by go_num, hblk.put q x, R, hB.setCell (Nat.le_refl _) _⟩, by simp [intOf]; omega⟩
        · have R := Lib.hid (HE.out (by
            cases h : fa a b (k + 1) with
            | false => rfl
            | true => exact absurd (HF.out.1 h) g))
          have b1 : (x != y) = true := by rw [bne_iff_ne]; exact fun e => g (.inl e)
          have b2 : (x != 1) = true := by rw [bne_iff_ne]; exact fun e => g (.inr (.inl e))
          have b3 : (y != 1) = true := by rw [bne_iff_ne]; exact fun e => g (.inr (.inr e))
          clear g
          go_wp2_with (first | (go_at_call 36; (with_reducible refine A1.out.mono ?_); rintro e w' ⟨rfl, rfl⟩) | (go_at_call 36; (with_reducible refine B1.out.mono ?_); rintro e w' ⟨rfl, rfl⟩))
          go_ret2
          exact ⟨_, by rw [R.out.1]; rfl, by rw [R.out.2]; exact Ld.nil _, hB⟩
      · have hkn : k = b.length := by omega
        have E : L = spr a b := by
          have H := HL.out
          unfold spr
          rw [← HN.out]
          refine ext_getD (by rw [spl_len]; exact H.1) fun i hi => ?_
          rw [spl_getD _ _ _ _ (by omega)]
          exact H.2.1 i (by omega) (by omega)
        have hfit : fit a b = true := by
          unfold fit
          rw [← HN.out]
          exact (fitN_iff _ _ _).2 fun j h1 h2 => HL.out.2.2 j h1 (by omega)
        have hL := HL.out.1
        subst E
        have hld := Ld.of_blk hblk (c := b.length) (by omega)
        rw [hL] at hld
        have C := Lib.hid (rmay_any _ _ wr hld (by omega))
        cases hm : may (spr a b) with
        | true =>
          have R : Hid (spe a b = 0 ∧ spv a b = spr a b) := by
            have e : spe a b = 0 := by unfold spe; rw [if_pos hfit, if_pos hm]
            exact ⟨e, by unfold spv; rw [if_pos e]⟩
          rw [hm] at C
          have HLD := Lib.hid hld
          clear hfit hm hld hL
          go_wp2_with (go_at_call 9; (with_reducible refine C.out.mono ?_); rintro e w' ⟨rfl, rfl⟩)
          go_ret2
          exact ⟨_, by rw [R.out.1]; rfl, by rw [R.out.2]; exact HLD.out, hB⟩
        | false =>
          have R : Hid (spe a b = 5 ∧ spv a b = []) := by
            have e : spe a b = 5 := by unfold spe; rw [if_pos hfit, hm]; rfl
            exact ⟨e, by unfold spv; rw [if_neg (by omega)]⟩
          rw [hm] at C
          clear hfit hm hld hL
          go_wp2_with (go_at_call 9; (with_reducible refine C.out.mono ?_); rintro e w' ⟨rfl, rfl⟩)
          go_ret2
          exact ⟨_, by rw [R.out.1]; rfl, by rw [R.out.2]; exact Ld.nil _, hB⟩
  · go_enter Try.func26, Try.ntmps26
    go_wp2
    clear mk
    go_loopw [8] (fun s8 wr => ∃ (k : Nat) (L : List Int), k ≤ a.length ∧ s8 = .int .i64 k ∧ Blk wr w.heap.size 3 (ints L).toArray ∧ Hid (L.length = a.length ∧ (∀ i, a.length - k ≤ i → i < a.length → L.getD i 0 = gr (ov a (a.length - i)) (ov b (a.length - i))) ∧ ∀ j, 1 ≤ j → j ≤ k → fa a b j = true) ∧ Below w.heap.size w wr) (fun s8 _ => a.length - (intOf s8).toNat)
    case atStart => exact ⟨0, List.replicate a.length 0, Nat.zero_le _, rfl, Blk.new _ _ _, ⟨by simp, fun i h1 h2 => by omega, fun j h1 h2 => by omega⟩, (Below.refl _ _).alloc (Nat.le_refl _) _⟩
    case round =>
      obtain ⟨k, L, hk, rfl, hblk, HL, hB⟩ := hrel
      have hBs := hB.size
      by_cases hlt : k < a.length
      · obtain ⟨q, hq⟩ : ∃ q, a.length = q + k + 1 := ⟨a.length - k - 1, by omega⟩
        have A1 := Lib.hid (DA.out wr hB k (by omega))
        have B1 := Lib.hid (DB.out wr hB k (by omega))
        have kc := hblk.cell q
        have hL := HL.out.1
        rw [ints_at (by omega)] at kc
        have kf := hblk.frozen q
        generalize L.getD q 0 = l0 at kc
        have HG : Hid (∀ v : Int, v = gr (ov a (k + 1)) (ov b (k + 1)) → fa a b (k + 1) = true → (L.set q v).length = a.length ∧ (∀ i, a.length - (k + 1) ≤ i → i < a.length → (L.set q v).getD i 0 = gr (ov a (a.length - i)) (ov b (a.length - i))) ∧ ∀ j, 1 ≤ j → j ≤ k + 1 → fa a b j = true) := by
          intro v hv hf
          have H := HL.out
          refine ⟨by simpa using hL, fun i h1 hi => ?_, fun i h1 h2 => ?_⟩
          · by_cases e : q = i
            · subst e; rw [set_getD_self (by omega), hv, show a.length - q = k + 1 by omega]
            · rw [set_getD_ne e]; exact H.2.1 i (by omega) hi
          · by_cases e : i = k + 1
            · subst e; exact hf
            · exact H.2.2 i h1 (by omega)
        have HF : Hid (fa a b (k + 1) = true ↔ ov a (k + 1) = ov b (k + 1) ∨ ov a (k + 1) = 1 ∨ ov b (k + 1) = 1) := fa_iff a b (k + 1)
        have HP : Hid (1 ≤ ov a (k + 1) ∧ 1 ≤ ov b (k + 1)) := ⟨ov_pos HM.out.1 (by omega), ov_pos HM.out.2 (by omega)⟩
        have HE : Hid (fa a b (k + 1) = false → spe a b = 2 ∧ spv a b = []) := by
          intro hf
          have : fit a b = false := by
            cases h : fit a b with
            | false => rfl
            | true => rw [(fitN_iff a b _).1 h (k + 1) (by omega) (by rw [← HN.out]; omega)] at hf; cases hf
          have e : spe a b = 2 := by unfold spe; rw [this]; rfl
          exact ⟨e, by unfold spv; rw [if_neg (by omega)]⟩
        have e1 : (a.length : Int) - 1 - (k : Int) = (q : Int) := by omega
        have ql : q < a.length := by omega
        generalize ov a (k + 1) = x at *
        generalize ov b (k + 1) = y at *
        have HQ := Lib.hid hq
        clear hq
        have HL2 := Lib.hid hL
        clear hL HL
        by_cases g : x = y ∨ x = 1 ∨ y = 1
        · have hm := gr_max HP.out.1 HP.out.2 g
          by_cases g4 : x < y
          · rw [if_pos g4] at hm
            have R := Lib.hid (HG.out y hm.symm (HF.out.2 g))
            clear hm
            have g1 : (x != y) = true := by rw [bne_iff_ne]; omega
            by_cases g2 : x = 1
            · subst g2
              clear g
              go_wp2_with (first | (go_at_call 36; (with_reducible refine A1.out.mono ?_); rintro e w' ⟨rfl, rfl⟩) | (go_at_call 36; (with_reducible refine B1.out.mono ?_); rintro e w' ⟨rfl, rfl⟩))
              refine ⟨⟨k + 1, L.set q y, by omega, by go_num, hblk.put q y, R, hB.setCell (Nat.le_refl _) _⟩, by simp [intOf]; omega⟩
            · exfalso
              have := HP.out
              rcases g with g | g | g <;> omega
          · rw [if_neg g4] at hm
            have R := Lib.hid (HG.out x hm.symm (HF.out.2 g))
            clear hm
            by_cases g1 : x = y
            · subst g1
              clear g
              go_wp2_with (first | (go_at_call 36; (with_reducible refine A1.out.mono ?_); rintro e w' ⟨rfl, rfl⟩) | (go_at_call 36; (with_reducible refine B1.out.mono ?_); rintro e w' ⟨rfl, rfl⟩))
              refine ⟨⟨k + 1, L.set q x, by omega, by go_num, hblk.put q x, R, hB.setCell (Nat.le_refl _) _⟩, by simp [intOf]; omega⟩
            · obtain rfl : y = 1 := by have := HP.out; rcases g with g | g | g <;> omega
              have b1 : (x != 1) = true := by rw [bne_iff_ne]; exact g1
              clear g g1
              go_wp2_with (first | (go_at_call 36; (with_reducible refine A1.out.mono ?_); rintro e w' ⟨rfl, rfl⟩) | (go_at_call 36; (with_reducible refine B1.out.mono ?_); rintro e w' ⟨rfl, rfl⟩))
              refine ⟨⟨k + 1, L.set q x, by omega, by go_num, hblk.put q x, R, hB.setCell (Nat.le_refl _) _⟩, by simp [intOf]; omega⟩
        · have R := Lib.hid (HE.out (by
            cases h : fa a b (k + 1) with
            | false => rfl
            | true => exact absurd (HF.out.1 h) g))
          have b1 : (x != y) = true := by rw [bne_iff_ne]; exact fun e => g (.inl e)
          have b2 : (x != 1) = true := by rw [bne_iff_ne]; exact fun e => g (.inr (.inl e))
          have b3 : (y != 1) = true := by rw [bne_iff_ne]; exact fun e => g (.inr (.inr e))
          clear g
          go_wp2_with (first | (go_at_call 36; (with_reducible refine A1.out.mono ?_); rintro e w' ⟨rfl, rfl⟩) | (go_at_call 36; (with_reducible refine B1.out.mono ?_); rintro e w' ⟨rfl, rfl⟩))
          go_ret2
          exact ⟨_, by rw [R.out.1]; rfl, by rw [R.out.2]; exact Ld.nil _, hB⟩
      · have hkn : k = a.length := by omega
        have E : L = spr a b := by
          have H := HL.out
          unfold spr
          rw [← HN.out]
          refine ext_getD (by rw [spl_len]; exact H.1) fun i hi => ?_
          rw [spl_getD _ _ _ _ (by omega)]
          exact H.2.1 i (by omega) (by omega)
        have hfit : fit a b = true := by
          unfold fit
          rw [← HN.out]
          exact (fitN_iff _ _ _).2 fun j h1 h2 => HL.out.2.2 j h1 (by omega)
        have hL := HL.out.1
        subst E
        have hld := Ld.of_blk hblk (c := a.length) (by omega)
        rw [hL] at hld
        have C := Lib.hid (rmay_any _ _ wr hld (by omega))
        cases hm : may (spr a b) with
        | true =>
          have R : Hid (spe a b = 0 ∧ spv a b = spr a b) := by
            have e : spe a b = 0 := by unfold spe; rw [if_pos hfit, if_pos hm]
            exact ⟨e, by unfold spv; rw [if_pos e]⟩
          rw [hm] at C
          have HLD := Lib.hid hld
          clear hfit hm hld hL
          go_wp2_with (go_at_call 9; (with_reducible refine C.out.mono ?_); rintro e w' ⟨rfl, rfl⟩)
          go_ret2
          exact ⟨_, by rw [R.out.1]; rfl, by rw [R.out.2]; exact HLD.out, hB⟩
        | false =>
          have R : Hid (spe a b = 5 ∧ spv a b = []) := by
            have e : spe a b = 5 := by unfold spe; rw [if_pos hfit, hm]; rfl
            exact ⟨e, by unfold spv; rw [if_neg (by omega)]⟩
          rw [hm] at C
          clear hfit hm hld hL
          go_wp2_with (go_at_call 9; (with_reducible refine C.out.mono ?_); rintro e w' ⟨rfl, rfl⟩)
          go_ret2
          exact ⟨_, by rw [R.out.1]; rfl, by rw [R.out.2]; exact Ld.nil _, hB⟩

theorem spv_len {a b : List Int} (ha : a.length ≤ 4) (hb : b.length ≤ 4) : (spv a b).length ≤ 4 := by
  unfold spv
  split
  · unfold spr; rw [spl_len]; unfold mx; omega
  · simp
set_option maxRecDepth 100000 in
set_option maxHeartbeats 4000000 in
theorem rgoes_any (vs vt : Value) (s t : List Int) (w : World) (hs : Ld w vs s) (ht : Ld w vt t) (ms : may s = true) (mt : may t = true) :
    Calls Try.prog 28 #[vs, vt] w fun e w' => e = .returned (.bool (goes s t)) ∧ Below w.heap.size w w' := by
  have SP := Lib.hid (rspread_any vs vt s t w hs ht ms mt)
  have l1 := spv_len (may_len ms) (may_len mt)
  have l2 := may_len mt
  have EQ := Lib.hid (fun (W : World) (v : Value) (h : Below w.heap.size w W) (hv : Ld W v (spv s t)) => eqn_any v vt (spv s t) t W hv (ht.below h) (by omega) (by omega))
  have G : Hid (goes s t = (decide (spe s t = 0) && decide (spv s t = t))) := rfl
  generalize spe s t = r at *
  generalize spv s t = x at *
  clear hs ht ms mt l1 l2
  by_cases h0 : r = 0
  · subst h0
    have E : Hid (goes s t = decide (x = t)) := by rw [Hid, G.out]; simp
    clear G
    generalize decide (x = t) = d at *
    go_enter Try.func28, Try.ntmps28
    go_wp2_with (first | (go_at_call 26; (with_reducible refine SP.out.mono ?_); rintro e w1 ⟨v, rfl, hv, hB1⟩; have Q1 := Lib.hid (EQ.out w1 v hB1 hv)) | (go_at_call 17; (with_reducible refine Q1.out.mono ?_); rintro e w2 ⟨rfl, hB2⟩))
    go_ret
    exact ⟨by rw [E.out]; rfl, hB1.trans (hB2.mono hB1.size)⟩
  · have E : Hid (goes s t = false) := by rw [Hid, G.out]; simp [h0]
    have b0 : (r == 0) = false := by rw [beq_eq_false_iff_ne]; exact h0
    clear G h0
    go_enter Try.func28, Try.ntmps28
    go_wp2_with (go_at_call 26; (with_reducible refine SP.out.mono ?_); rintro e w1 ⟨v, rfl, hv, hB1⟩)
    go_ret
    exact ⟨by rw [E.out]; rfl, hB1⟩

set_option maxRecDepth 100000 in
set_option maxHeartbeats 4000000 in
theorem runder_any (vs vt vi : Value) (s t i : List Int) (w : World) (hs : Ld w vs s) (ht : Ld w vt t) (hi : Ld w vi i) (ms : may s = true) (mt : may t = true) (hg : goes s t = true) (hx : inx t i = true) :
    Calls Try.prog 29 #[vs, vt, vi] w fun e w' => e = .returned (.int .i64 (und s i)) ∧ Below w.heap.size w w' := by
  obtain ⟨i0, hi0, hz0, hz1, hz2⟩ := info_parts infoI
  have hl := inx_len hx
  have l4 := may_len mt
  have ls := may_len ms
  have hst : s.length ≤ t.length := by
    have := hg
    rw [goes_is ms mt] at this
    simp only [Bool.and_eq_true, decide_eq_true_eq] at this
    exact this.1
  have ui := under_inx ms mt hg hx
  have RI := Lib.hid (fun (W : World) (v : Value) (h : Below w.heap.size w W) (hv : Ld W v (msk s (lst s i))) => rindex_any vs v s (msk s (lst s i)) W (hs.below h) hv ms ui)
  have HG : Hid (∀ k, k < s.length → (msk s (lst s i)).getD k 0 = if 1 < s.getD k 0 then i.getD (k + i.length - s.length) 0 else 0) := fun k hk => by
    rw [msk_getD s _ k (lst_len (by omega)) hk, lst_getD (by omega)]
  have ML : Hid ((msk s (lst s i)).length = s.length) := msk_len s _ (lst_len (by omega))
  have EU : Hid (und s i = ix s (msk s (lst s i))) := rfl
  obtain ⟨q, hq⟩ : ∃ q, t.length = q + s.length := ⟨t.length - s.length, by omega⟩
  have HQ := Lib.hid (And.intro hq hl)
  have mk : (Instr.makeSlice 23 (.int .i64 (s.length : Int)) (.int .i64 (s.length : Int))).run Try.prog w = .ok (.slice (some ⟨w.heap.size, 0, none⟩) s.length s.length) (w.alloc (.cells (madeCells #[.int .i64 0] s.length) 3)) := by
    have := run_make (w := w) 23 3 i0 (.int .i64 0) Try.underlying23 hi0 hz0 .i64 .i64 s.length s.length (by omega) (by omega) (by rw [hz2]; omega) (by omega)
    rw [this, hz1]; simp [Value.cells]
  rw [made_ints] at mk
  obtain ⟨oi, ci, rfl, _, hxi⟩ := hi
  obtain ⟨os, cs, rfl, _, hxs⟩ := hs
  obtain ⟨ot, ctt, rfl, _, _⟩ := ht
  have HI := Lib.hid hxi
  have HS := Lib.hid hxs
  rw [← hl, hq]
  rw [hq] at l4
  clear hxi hxs ms mt hg hx hl hst ui hq
  generalize msk s (lst s i) = m at *
  go_enter Try.func29, Try.ntmps29
  go_wp2
  clear mk
  go_loopw [8] (fun s8 wr => ∃ (k : Nat) (L : List Int), k ≤ s.length ∧ s8 = .int .i64 k ∧ Blk wr w.heap.size 3 (ints L).toArray ∧ Hid (L.length = s.length ∧ (∀ j, j < k → L.getD j 0 = m.getD j 0) ∧ ∀ j, k ≤ j → j < s.length → L.getD j 0 = 0) ∧ Below w.heap.size w wr) (fun s8 _ => s.length - (intOf s8).toNat)
  case atStart => exact ⟨0, List.replicate s.length 0, Nat.zero_le _, rfl, Blk.new _ _ _, ⟨by simp, fun j h => absurd h (Nat.not_lt_zero _), fun j _ h => by simp [List.getD, h]⟩, (Below.refl _ _).alloc (Nat.le_refl _) _⟩
  case round =>
    obtain ⟨k, L, hk, rfl, hblk, HL, hB⟩ := hrel
    have hBs := hB.size
    by_cases hlt : k < s.length
    · obtain ⟨b2, f2, rfl, h2, c2⟩ := HS.out k hlt
      obtain ⟨b1, f1, rfl, h1, c1⟩ := HI.out (k + q) (by have := HQ.out; omega)
      have c2' : wr.cell? ⟨b2, f2 + k, none⟩ = some (.int .i64 (s.getD k 0)) := (hB.cell (p := ⟨b2, f2 + k, none⟩) h2).trans c2
      have c1' : wr.cell? ⟨b1, f1 + (k + q), none⟩ = some (.int .i64 (i.getD (k + q) 0)) := (hB.cell (p := ⟨b1, f1 + (k + q), none⟩) h1).trans c1
      have gm := HG.out k hlt
      rw [show k + i.length - s.length = k + q by have := HQ.out; omega] at gm
      have kc := hblk.cell k
      have hL := HL.out.1
      rw [ints_at (by omega)] at kc
      have kf := hblk.frozen k
      generalize L.getD k 0 = l0 at kc
      have HGv : Hid (m.getD k 0 = i.getD (k + q) 0 → (L.set k (i.getD (k + q) 0)).length = s.length ∧ (∀ j, j < k + 1 → (L.set k (i.getD (k + q) 0)).getD j 0 = m.getD j 0) ∧ ∀ j, k + 1 ≤ j → j < s.length → (L.set k (i.getD (k + q) 0)).getD j 0 = 0) := fun e => by
        have H := HL.out
        refine ⟨by simpa using hL, fun j hj => ?_, fun j h1 h2 => ?_⟩
        · by_cases ee : k = j
          · subst ee; rw [set_getD_self (by omega), e]
          · rw [set_getD_ne ee]; exact H.2.1 j (by omega)
        · rw [set_getD_ne (by omega)]; exact H.2.2 j (by omega) h2
      have HGn : Hid (m.getD k 0 = 0 → L.length = s.length ∧ (∀ j, j < k + 1 → L.getD j 0 = m.getD j 0) ∧ ∀ j, k + 1 ≤ j → j < s.length → L.getD j 0 = 0) := fun e => by
        have H := HL.out
        refine ⟨hL, fun j hj => ?_, fun j h1 h2 => H.2.2 j (by omega) h2⟩
        by_cases ee : k = j
        · subst ee; rw [e]; exact H.2.2 k (Nat.le_refl _) hlt
        · exact H.2.1 j (by omega)
      have e1 : (k : Int) + ((q : Int) + (s.length : Int)) - (s.length : Int) = (k : Int) + (q : Int) := by omega
      have ql : k + q < q + s.length := by omega
      have e3 : ((k : Int) + (q : Int)).toNat = k + q := by omega
      have HL2 := Lib.hid hL
      clear c1 c2 hL HL
      generalize i.getD (k + q) 0 = x at *
      generalize s.getD k 0 = d at *
      by_cases g : 1 < d
      · rw [if_pos g] at gm
        have R := Lib.hid (HGv.out gm)
        clear gm
        go_wp2
        refine ⟨⟨k + 1, L.set k x, by omega, by go_num, hblk.put k x, R, hB.setCell (Nat.le_refl _) _⟩, by simp [intOf]; omega⟩
      · rw [if_neg g] at gm
        have R := Lib.hid (HGn.out gm)
        clear gm
        go_wp2
        refine ⟨⟨k + 1, L, by omega, by go_num, hblk, R, hB⟩, by simp [intOf]; omega⟩
    · obtain rfl : k = s.length := by omega
      obtain rfl : L = m := ext_getD (HL.out.1.trans ML.out.symm) fun j hj => HL.out.2.1 j (by have := HL.out.1; omega)
      have hld := Ld.of_blk hblk (c := s.length) (by have := HL.out.1; omega)
      rw [HL.out.1] at hld
      have R := Lib.hid (RI.out wr _ hB hld)
      clear hld
      go_wp2_with (go_at_call 23; (with_reducible refine R.out.mono ?_); rintro e w2 ⟨rfl, hB2⟩)
      go_ret
      exact ⟨by rw [EU.out]; rfl, hB.trans (hB2.mono hBs)⟩
end Go.Proofs.Yteplhlmdaabpaaa
