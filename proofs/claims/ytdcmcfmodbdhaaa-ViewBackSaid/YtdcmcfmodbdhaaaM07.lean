/-
  The reference's shapes: places and indexes, spread shapes.
  The reference's shapes: spread shapes, what stands under an index.
  view.Widen.
-/
import Derived.IntWalk
import Derived.Deep.QuietTactic
import Derived.BigQuiet
import Derived.Test.YtdcmcfmodbdhaaaM02
import Derived.Test.YtdcmcfmodbdhaaaM06
namespace Go.Proofs.Ytdcmcfmodbdhaaa
open Go.RowKit



/-- Where a place's index is being told. -/
def Ati (s : List Int) (n N : Int) (k : Nat) : Prop := k ≤ s.length ∧ 0 ≤ N ∧ N < prod (s.drop k) ∧ atl (s.drop k) N = (atl s n).drop k
theorem ati_start {s : List Int} {n : Int} (h0 : 0 ≤ n) (h1 : n < prod s) : Ati s n n 0 := ⟨Nat.zero_le _, h0, by simpa using h1, by simp⟩
theorem ati_step {s : List Int} {n N : Int} {k : Nat} (h : Ati s n N k) (hp : pos s) (hk : k < s.length) : Ati s n (N % prod (s.drop (k + 1))) (k + 1) ∧ (atl s n).getD k 0 = N / prod (s.drop (k + 1)) := by
  obtain ⟨a, b, c, d⟩ := h
  have q := prod_pos (pos_drop hp (k + 1))
  rw [drop_getD hk, atl, drop_getD (show k < (atl s n).length by rw [atl_len]; exact hk)] at d
  simp only [List.cons.injEq] at d
  exact ⟨⟨by omega, Int.emod_nonneg _ (by omega), Int.emod_lt_of_pos _ (by omega), d.2⟩, d.1.symm⟩
theorem ati_bd {s : List Int} {n N : Int} {k : Nat} (h : Ati s n N k) (hm : may s = true) : 0 ≤ N ∧ N ≤ 65536 := by
  have := may_drop hm k
  exact ⟨h.2.1, by have := h.2.2.1; omega⟩

set_option maxRecDepth 100000 in
set_option maxHeartbeats 4000000 in
theorem rat_any (v : Value) (ls : List Int) (n : Int) (w : World) (h : Ld w v ls) (hm : may ls = true) (h0 : 0 ≤ n) (h1 : n < prod ls) :
    Calls Try.prog 43 #[v, .int .i64 n] w fun e w' => ∃ v, e = .returned v ∧ Ld w' v (atl ls n) ∧ Below w.heap.size w w' := by
  obtain ⟨i0, hi0, hz0, hz1, hz2⟩ := info_parts infoI
  have l4 := may_len hm
  have SC := Lib.hid (rstrides_any v ls w h hm)
  obtain ⟨o, c, rfl, _, hx⟩ := h
  have HP := Lib.hid (may_pos hm)
  have HD := Lib.hid (may_drop hm)
  have HM := Lib.hid hm
  have HS : Hid (Ati ls n n 0) := ati_start h0 h1
  clear hx hm
  go_enter Try.func43, Try.ntmps43
  have mk : ∀ W : World, Hid ((Instr.makeSlice 23 (.int .i64 (ls.length : Int)) (.int .i64 (ls.length : Int))).run Try.prog W = .ok (.slice (some ⟨W.heap.size, 0, none⟩) ls.length ls.length) (W.alloc (.cells (ints (List.replicate ls.length 0)).toArray 3))) := by
    intro W
    have := run_make (w := W) 23 3 i0 (.int .i64 0) Try.underlying23 hi0 hz0 .i64 .i64 ls.length ls.length (by omega) (by omega) (by rw [hz2]; omega) (by omega)
    rw [Hid, this, hz1, ← made_ints]; simp [Value.cells]
  have MK := Lib.hid mk
  clear mk
  go_wp2_with (go_at_call 47; (with_reducible refine SC.out.mono ?_); rintro e w1 ⟨rfl, hblk, hB1⟩; have mk := (MK.out w1).out)
  clear mk
  have hB1s := hB1.size
  have hgl := hblk.lt
  go_loopw [1, 7] (fun s1 s7 wr => ∃ (k : Nat) (N : Int) (L : List Int), k ≤ ls.length ∧ 0 ≤ N ∧ N ≤ 65536 ∧ s7 = .int .i64 k ∧ s1 = .int .i64 N ∧ Blk wr w.heap.size 3 (ints (stl ls)).toArray ∧ Blk wr w1.heap.size 3 (ints L).toArray ∧ Hid (Ati ls n N k) ∧ Hid (L.length = ls.length ∧ ∀ j, j < k → L.getD j 0 = (atl ls n).getD j 0) ∧ Below w.heap.size w wr) (fun _ s7 _ => ls.length - (intOf s7).toNat)
  case atStart => exact ⟨0, n, List.replicate ls.length 0, Nat.zero_le _, (ati_bd HS.out HM.out).1, (ati_bd HS.out HM.out).2, rfl, rfl, hblk.alloc _, Blk.new _ _ _, HS, ⟨by simp, fun j hj => absurd hj (Nat.not_lt_zero _)⟩, hB1.alloc hB1s _⟩
  case round =>
    obtain ⟨k, N, L, hk, n0, n1, rfl, rfl, hs, hb, HA, HL, hB⟩ := hrel
    by_cases hlt : k < ls.length
    · have sc := hs.cell k
      rw [ints_at (by rw [stl_len]; exact hlt), stl_getD ls k hlt] at sc
      have kc := hb.cell k
      have hL := HL.out.1
      rw [ints_at (by omega)] at kc
      have kf := hb.frozen k
      generalize L.getD k 0 = l0 at kc
      obtain ⟨st, ge⟩ := ati_step HA.out HP.out hlt
      have bd := ati_bd st HM.out
      have pp := HD.out (k + 1)
      have R : Hid ((L.set k (N / prod (ls.drop (k + 1)))).length = ls.length ∧ ∀ j, j < k + 1 → (L.set k (N / prod (ls.drop (k + 1)))).getD j 0 = (atl ls n).getD j 0) := by
        refine ⟨by simpa using hL, fun j hj => ?_⟩
        by_cases e : k = j
        · subst e; rw [set_getD_self (by omega), ge]
        · rw [set_getD_ne e]; exact HL.out.2 j (by omega)
      have ST := Lib.hid st
      have HL2 := Lib.hid hL
      clear st ge hL HL
      generalize prod (ls.drop (k + 1)) = P at *
      have pz : ¬ P = 0 := by omega
      obtain ⟨b1, b2⟩ := bd
      obtain ⟨pp1, pp2⟩ := pp
      have s1 := hs.far (p := ⟨w1.heap.size, k, none⟩) (by show w.heap.size ≠ w1.heap.size; omega) (.int .i64 (N / P))
      have sc2 := s1.cell k
      rw [hs.far (p := ⟨w1.heap.size, k, none⟩) (by show w.heap.size ≠ w1.heap.size; omega) (.int .i64 (N / P)) |>.cell k] at sc2
      have sc3 : (wr.setCell ⟨w1.heap.size, k, none⟩ (.int .i64 (N / P))).cell? ⟨w.heap.size, k, none⟩ = some (.int .i64 P) := by rw [s1.cell k, ← hs.cell k]; exact sc
      clear sc2
      go_wp2
      refine ⟨⟨k + 1, N % P, L.set k (N / P), by omega, b1, b2, by go_num, rfl, s1, hb.put k _, ST, R, hB.setCell hB1s _⟩, by simp [intOf]; omega⟩
    · obtain rfl : k = ls.length := by omega
      obtain rfl : L = atl ls n := ext_getD (by rw [atl_len]; exact HL.out.1) fun i hi => HL.out.2 i (by have := HL.out.1; omega)
      have hld := Ld.of_blk hb (c := ls.length) (by rw [atl_len]; exact Nat.le_refl _)
      rw [atl_len] at hld
      have HLD := Lib.hid hld
      clear hld
      go_wp2
      go_ret
      exact ⟨_, rfl, HLD.out, hB⟩

set_option maxRecDepth 100000 in
set_option maxHeartbeats 2000000 in
theorem rdim_any (vs : Value) (s : List Int) (w : World) (hs : Ld w vs s) (l4 : s.length ≤ 1073741824) (k : Nat) (k2 : k ≤ 1073741824) :
    Calls Try.prog 66 #[vs, .int .i64 k] w fun e w' => e = .returned (.int .i64 (ov s (k + 1))) ∧ w = w' := by
  obtain ⟨os, cs, rfl, _, hxs⟩ := hs
  have HS := Lib.hid hxs
  clear hxs
  by_cases h : k < s.length
  · obtain ⟨q, hq⟩ : ∃ q, s.length = q + k + 1 := ⟨s.length - k - 1, by omega⟩
    obtain ⟨b, f, rfl, hb, hc⟩ := HS.out q (by omega)
    have E : Hid (ov s (k + 1) = s.getD q 0) := by unfold ov; rw [if_neg (by omega), show s.length - (k + 1) = q by omega]; exact Lib.hid rfl
    have e1 : ((q + k + 1 : Nat) : Int) - 1 = ((q + k : Nat) : Int) := by omega
    have e2 : ((q + k : Nat) : Int) - (k : Int) = (q : Int) := by omega
    have h2 : k < q + k + 1 := by omega
    rw [hq]
    rw [hq] at l4
    clear HS hq h
    generalize s.getD q 0 = x at *
    go_enter Try.func66, Try.ntmps66
    go_wp2
    go_ret
    exact ⟨by rw [E.out]; rfl, rfl⟩
  · have E : Hid (ov s (k + 1) = 1) := by unfold ov; rw [if_pos (by omega)]; exact Lib.hid rfl
    go_enter Try.func66, Try.ntmps66
    go_wp2
    go_ret
    exact ⟨by rw [E.out]; rfl, rfl⟩
end Go.Proofs.Ytdcmcfmodbdhaaa
namespace Go.Proofs.Ytdcmcfmodbdhaaa
open Go.RowKit

theorem gr_max {x y : Int} (hx : 1 ≤ x) (hy : 1 ≤ y) (h : x = y ∨ x = 1 ∨ y = 1) : gr x y = if x < y then y else x := by
  unfold gr
  split <;> split <;> omega

set_option maxRecDepth 100000 in
set_option maxHeartbeats 4000000 in
theorem rspread_any (va vb : Value) (a b : List Int) (w : World) (ha : Ld w va a) (hb : Ld w vb b) (ma : may a = true) (mb : may b = true) :
    Calls Try.prog 48 #[va, vb] w (SomeL w (spe a b) (spv a b)) := by
  obtain ⟨i0, hi0, hz0, hz1, hz2⟩ := info_parts infoI
  have la := may_len ma
  have lb := may_len mb
  have DA := Lib.hid (fun (W : World) (h : Below w.heap.size w W) (j : Nat) (j2 : j ≤ 1073741824) => rdim_any va a W (ha.below h) (by omega) j j2)
  have DB := Lib.hid (fun (W : World) (h : Below w.heap.size w W) (j : Nat) (j2 : j ≤ 1073741824) => rdim_any vb b W (hb.below h) (by omega) j j2)
  have HM := Lib.hid (And.intro (may_pos ma) (may_pos mb))
  obtain ⟨oa, ca, rfl, _, _⟩ := ha
  obtain ⟨ob, cb, rfl, _, _⟩ := hb
  obtain ⟨n, hn⟩ : ∃ n, n = mx a b := ⟨_, rfl⟩
  have hn4 : n ≤ 4 := by rw [hn]; unfold mx; omega
  have mk : (Instr.makeSlice 23 (.int .i64 (n : Int)) (.int .i64 (n : Int))).run Try.prog w = .ok (.slice (some ⟨w.heap.size, 0, none⟩) n n) (w.alloc (.cells (madeCells #[.int .i64 0] n) 3)) := by
    have := run_make (w := w) 23 3 i0 (.int .i64 0) Try.underlying23 hi0 hz0 .i64 .i64 n n (by omega) (by omega) (by rw [hz2]; omega) (by omega)
    rw [this, hz1]; simp [Value.cells]
  rw [made_ints] at mk
  have hn2 : (n = b.length ∧ a.length < b.length) ∨ (n = a.length ∧ ¬ a.length < b.length) := by rw [hn]; unfold mx; omega
  have HN := Lib.hid hn
  clear ma mb hn
  rcases hn2 with ⟨rfl, h2⟩ | ⟨rfl, h2⟩
  · go_enter Try.func48, Try.ntmps48
    go_wp2
    clear mk
    go_loopw [8] (fun s8 wr => ∃ (k : Nat) (L : List Int), k ≤ b.length ∧ s8 = .int .i64 k ∧ Blk wr w.heap.size 3 (ints L).toArray ∧ Hid (L.length = b.length ∧ (∀ i, b.length - k ≤ i → i < b.length → L.getD i 0 = gr (ov a (b.length - i)) (ov b (b.length - i))) ∧ ∀ j, 1 ≤ j → j ≤ k → fa a b j = true) ∧ Below w.heap.size w wr) (fun s8 _ => b.length - (intOf s8).toNat)
    case atStart => exact ⟨0, List.replicate b.length 0, Nat.zero_le _, rfl, Blk.new _ _ _, ⟨by simp, fun i h1 h2 => by omega, fun j h1 h2 => by omega⟩, (Below.refl _ _).alloc (Nat.le_refl _) _⟩
    case round =>
      obtain ⟨k, L, hk, rfl, hblk, HL, hB⟩ := hrel
      have hBs := hB.size
      by_cases hlt : k < b.length
      · obtain ⟨q, hq⟩ : ∃ q, b.length = q + k + 1 := ⟨b.length - k - 1, by omega⟩
        have A1 := Lib.hid (DA.out wr hB k (by omega))
        have B1 := Lib.hid (DB.out wr hB k (by omega))
        have kc := hblk.cell q
        have hL := HL.out.1
        rw [ints_at (by omega)] at kc
        have kf := hblk.frozen q
        generalize L.getD q 0 = l0 at kc
        have HG : Hid (∀ v : Int, v = gr (ov a (k + 1)) (ov b (k + 1)) → fa a b (k + 1) = true → (L.set q v).length = b.length ∧ (∀ i, b.length - (k + 1) ≤ i → i < b.length → (L.set q v).getD i 0 = gr (ov a (b.length - i)) (ov b (b.length - i))) ∧ ∀ j, 1 ≤ j → j ≤ k + 1 → fa a b j = true) := by
          intro v hv hf
          have H := HL.out
          refine ⟨by simpa using hL, fun i h1 hi => ?_, fun i h1 h2 => ?_⟩
          · by_cases e : q = i
            · subst e; rw [set_getD_self (by omega), hv, show b.length - q = k + 1 by omega]
            · rw [set_getD_ne e]; exact H.2.1 i (by omega) hi
          · by_cases e : i = k + 1
            · subst e; exact hf
            · exact H.2.2 i h1 (by omega)
        have HF : Hid (fa a b (k + 1) = true ↔ ov a (k + 1) = ov b (k + 1) ∨ ov a (k + 1) = 1 ∨ ov b (k + 1) = 1) := fa_iff a b (k + 1)
        have HP : Hid (1 ≤ ov a (k + 1) ∧ 1 ≤ ov b (k + 1)) := ⟨ov_pos HM.out.1 (by omega), ov_pos HM.out.2 (by omega)⟩
        have HE : Hid (fa a b (k + 1) = false → spe a b = 2 ∧ spv a b = []) := by
          intro hf
          have : fit a b = false := by
            cases h : fit a b with
            | false => rfl
            | true => rw [(fitN_iff a b _).1 h (k + 1) (by omega) (by rw [← HN.out]; omega)] at hf; cases hf
          have e : spe a b = 2 := by unfold spe; rw [this]; rfl
          exact ⟨e, by unfold spv; rw [if_neg (by omega)]⟩
        have e1 : (b.length : Int) - 1 - (k : Int) = (q : Int) := by omega
        have ql : q < b.length := by omega
        generalize ov a (k + 1) = x at *
        generalize ov b (k + 1) = y at *
        have HQ := Lib.hid hq
        clear hq
        have HL2 := Lib.hid hL
        clear hL HL
        by_cases g : x = y ∨ x = 1 ∨ y = 1
        · have hm := gr_max HP.out.1 HP.out.2 g
          by_cases g4 : x < y
          · rw [if_pos g4] at hm
            have R := Lib.hid (HG.out y hm.symm (HF.out.2 g))
            clear hm
            have g1 : (x != y) = true := by rw [bne_iff_ne]; omega
            by_cases g2 : x = 1
            · subst g2
              clear g
              go_wp2_with (first | (go_at_call 66; (with_reducible refine A1.out.mono ?_); rintro e w' ⟨rfl, rfl⟩) | (go_at_call 66; (with_reducible refine B1.out.mono ?_); rintro e w' ⟨rfl, rfl⟩))
              refine ⟨⟨k + 1, L.set q y, by omega, by go_num, hblk.put q y, R, hB.setCell (Nat.le_refl _) _⟩, by simp [intOf]; omega⟩
            · exfalso
              have := HP.out
              rcases g with g | g | g <;> omega
          · rw [if_neg g4] at hm
            have R := Lib.hid (HG.out x hm.symm (HF.out.2 g))
            clear hm
            by_cases g1 : x = y
            · subst g1
              clear g
              go_wp2_with (first | (go_at_call 66; (with_reducible refine A1.out.mono ?_); rintro e w' ⟨rfl, rfl⟩) | (go_at_call 66; (with_reducible refine B1.out.mono ?_); rintro e w' ⟨rfl, rfl⟩))
              refine ⟨⟨k + 1, L.set q x, by omega, by go_num, hblk.put q x, R, hB.setCell (Nat.le_refl _) _⟩, by simp [intOf]; omega⟩
            · obtain rfl : y = 1 := by have := HP.out; rcases g with g | g | g <;> omega
              have b1 : (x != 1) = true := by rw [bne_iff_ne]; exact g1
              clear g g1
              go_wp2_with (first | (go_at_call 66; (with_reducible refine A1.out.mono ?_); rintro e w' ⟨rfl, rfl⟩) | (go_at_call 66; (with_reducible refine B1.out.mono ?_); rintro e w' ⟨rfl, rfl⟩))
              refine ⟨⟨k + 1, L.set q x, by omega, by go_num, hblk.put q x, R, hB.setCell (Nat.le_refl _) _⟩, by simp [intOf]; omega⟩
        · have R := Lib.hid (HE.out (by
            cases h : fa a b (k + 1) with
            | false => rfl
            | true => exact absurd (HF.out.1 h) g))
          have b1 : (x != y) = true := by rw [bne_iff_ne]; exact fun e => g (.inl e)
          have b2 : (x != 1) = true := by rw [bne_iff_ne]; exact fun e => g (.inr (.inl e))
          have b3 : (y != 1) = true := by rw [bne_iff_ne]; exact fun e => g (.inr (.inr e))
          clear g
          go_wp2_with (first | (go_at_call 66; (with_reducible refine A1.out.mono ?_); rintro e w' ⟨rfl, rfl⟩) | (go_at_call 66; (with_reducible refine B1.out.mono ?_); rintro e w' ⟨rfl, rfl⟩))
          go_ret2
          exact ⟨_, by rw [R.out.1]; rfl, by rw [R.out.2]; exact Ld.nil _, hB⟩
      · have hkn : k = b.length := by omega
        have E : L = spr a b := by
          have H := HL.out
          unfold spr
          rw [← HN.out]
          refine ext_getD (by rw [spl_len]; exact H.1) fun i hi => ?_
          rw [spl_getD _ _ _ _ (by omega)]
          exact H.2.1 i (by omega) (by omega)
        have hfit : fit a b = true := by
          unfold fit
          rw [← HN.out]
          exact (fitN_iff _ _ _).2 fun j h1 h2 => HL.out.2.2 j h1 (by omega)
        have hL := HL.out.1
        subst E
        have hld := Ld.of_blk hblk (c := b.length) (by omega)
        rw [hL] at hld
        have C := Lib.hid (rmay_any _ _ wr hld (by omega))
        cases hm : may (spr a b) with
        | true =>
          have R : Hid (spe a b = 0 ∧ spv a b = spr a b) := by
            have e : spe a b = 0 := by unfold spe; rw [if_pos hfit, if_pos hm]
            exact ⟨e, by unfold spv; rw [if_pos e]⟩
          rw [hm] at C
          have HLD := Lib.hid hld
          clear hfit hm hld hL
          go_wp2_with (go_at_call 13; (with_reducible refine C.out.mono ?_); rintro e w' ⟨rfl, rfl⟩)
          go_ret2
          exact ⟨_, by rw [R.out.1]; rfl, by rw [R.out.2]; exact HLD.out, hB⟩
        | false =>
          have R : Hid (spe a b = 5 ∧ spv a b = []) := by
            have e : spe a b = 5 := by unfold spe; rw [if_pos hfit, hm]; rfl
            exact ⟨e, by unfold spv; rw [if_neg (by omega)]⟩
          rw [hm] at C
          clear hfit hm hld hL
          go_wp2_with (go_at_call 13; (with_reducible refine C.out.mono ?_); rintro e w' ⟨rfl, rfl⟩)
          go_ret2
          exact ⟨_, by rw [R.out.1]; rfl, by rw [R.out.2]; exact Ld.nil _, hB⟩
  · go_enter Try.func48, Try.ntmps48
    go_wp2
    clear mk
    go_loopw [8] (fun s8 wr => ∃ (k : Nat) (L : List Int), k ≤ a.length ∧ s8 = .int .i64 k ∧ Blk wr w.heap.size 3 (ints L).toArray ∧ Hid (L.length = a.length ∧ (∀ i, a.length - k ≤ i → i < a.length → L.getD i 0 = gr (ov a (a.length - i)) (ov b (a.length - i))) ∧ ∀ j, 1 ≤ j → j ≤ k → fa a b j = true) ∧ Below w.heap.size w wr) (fun s8 _ => a.length - (intOf s8).toNat)
    case atStart => exact ⟨0, List.replicate a.length 0, Nat.zero_le _, rfl, Blk.new _ _ _, ⟨by simp, fun i h1 h2 => by omega, fun j h1 h2 => by omega⟩, (Below.refl _ _).alloc (Nat.le_refl _) _⟩
    case round =>
      obtain ⟨k, L, hk, rfl, hblk, HL, hB⟩ := hrel
      have hBs := hB.size
      by_cases hlt : k < a.length
      · obtain ⟨q, hq⟩ : ∃ q, a.length = q + k + 1 := ⟨a.length - k - 1, by omega⟩
        have A1 := Lib.hid (DA.out wr hB k (by omega))
        have B1 := Lib.hid (DB.out wr hB k (by omega))
        have kc := hblk.cell q
        have hL := HL.out.1
        rw [ints_at (by omega)] at kc
        have kf := hblk.frozen q
        generalize L.getD q 0 = l0 at kc
        have HG : Hid (∀ v : Int, v = gr (ov a (k + 1)) (ov b (k + 1)) → fa a b (k + 1) = true → (L.set q v).length = a.length ∧ (∀ i, a.length - (k + 1) ≤ i → i < a.length → (L.set q v).getD i 0 = gr (ov a (a.length - i)) (ov b (a.length - i))) ∧ ∀ j, 1 ≤ j → j ≤ k + 1 → fa a b j = true) := by
          intro v hv hf
          have H := HL.out
          refine ⟨by simpa using hL, fun i h1 hi => ?_, fun i h1 h2 => ?_⟩
          · by_cases e : q = i
            · subst e; rw [set_getD_self (by omega), hv, show a.length - q = k + 1 by omega]
            · rw [set_getD_ne e]; exact H.2.1 i (by omega) hi
          · by_cases e : i = k + 1
            · subst e; exact hf
            · exact H.2.2 i h1 (by omega)
        have HF : Hid (fa a b (k + 1) = true ↔ ov a (k + 1) = ov b (k + 1) ∨ ov a (k + 1) = 1 ∨ ov b (k + 1) = 1) := fa_iff a b (k + 1)
        have HP : Hid (1 ≤ ov a (k + 1) ∧ 1 ≤ ov b (k + 1)) := ⟨ov_pos HM.out.1 (by omega), ov_pos HM.out.2 (by omega)⟩
        have HE : Hid (fa a b (k + 1) = false → spe a b = 2 ∧ spv a b = []) := by
          intro hf
          have : fit a b = false := by
            cases h : fit a b with
            | false => rfl
            | true => rw [(fitN_iff a b _).1 h (k + 1) (by omega) (by rw [← HN.out]; omega)] at hf; cases hf
          have e : spe a b = 2 := by unfold spe; rw [this]; rfl
          exact ⟨e, by unfold spv; rw [if_neg (by omega)]⟩
        have e1 : (a.length : Int) - 1 - (k : Int) = (q : Int) := by omega
        have ql : q < a.length := by omega
        generalize ov a (k + 1) = x at *
        generalize ov b (k + 1) = y at *
        have HQ := Lib.hid hq
        clear hq
        have HL2 := Lib.hid hL
        clear hL HL
        by_cases g : x = y ∨ x = 1 ∨ y = 1
        · have hm := gr_max HP.out.1 HP.out.2 g
          by_cases g4 : x < y
          · rw [if_pos g4] at hm
            have R := Lib.hid (HG.out y hm.symm (HF.out.2 g))
            clear hm
            have g1 : (x != y) = true := by rw [bne_iff_ne]; omega
            by_cases g2 : x = 1
            · subst g2
              clear g
              go_wp2_with (first | (go_at_call 66; (with_reducible refine A1.out.mono ?_); rintro e w' ⟨rfl, rfl⟩) | (go_at_call 66; (with_reducible refine B1.out.mono ?_); rintro e w' ⟨rfl, rfl⟩))
              refine ⟨⟨k + 1, L.set q y, by omega, by go_num, hblk.put q y, R, hB.setCell (Nat.le_refl _) _⟩, by simp [intOf]; omega⟩
            · exfalso
              have := HP.out
              rcases g with g | g | g <;> omega
          · rw [if_neg g4] at hm
            have R := Lib.hid (HG.out x hm.symm (HF.out.2 g))
            clear hm
            by_cases g1 : x = y
            · subst g1
              clear g
              go_wp2_with (first | (go_at_call 66; (with_reducible refine A1.out.mono ?_); rintro e w' ⟨rfl, rfl⟩) | (go_at_call 66; (with_reducible refine B1.out.mono ?_); rintro e w' ⟨rfl, rfl⟩))
              refine ⟨⟨k + 1, L.set q x, by omega, by go_num, hblk.put q x, R, hB.setCell (Nat.le_refl _) _⟩, by simp [intOf]; omega⟩
            · obtain rfl : y = 1 := by have := HP.out; rcases g with g | g | g <;> omega
              have b1 : (x != 1) = true := by rw [bne_iff_ne]; exact g1
              clear g g1
              go_wp2_with (first | (go_at_call 66; (with_reducible refine A1.out.mono ?_); rintro e w' ⟨rfl, rfl⟩) | (go_at_call 66; (with_reducible refine B1.out.mono ?_); rintro e w' ⟨rfl, rfl⟩))
              refine ⟨⟨k + 1, L.set q x, by omega, by go_num, hblk.put q x, R, hB.setCell (Nat.le_refl _) _⟩, by simp [intOf]; omega⟩
        · have R := Lib.hid (HE.out (by
            cases h : fa a b (k + 1) with
            | false => rfl
            | true => exact absurd (HF.out.1 h) g))
          have b1 : (x != y) = true := by rw [bne_iff_ne]; exact fun e => g (.inl e)
          have b2 : (x != 1) = true := by rw [bne_iff_ne]; exact fun e => g (.inr (.inl e))
          have b3 : (y != 1) = true := by rw [bne_iff_ne]; exact fun e => g (.inr (.inr e))
          clear g
          go_wp2_with (first | (go_at_call 66; (with_reducible refine A1.out.mono ?_); rintro e w' ⟨rfl, rfl⟩) | (go_at_call 66; (with_reducible refine B1.out.mono ?_); rintro e w' ⟨rfl, rfl⟩))
          go_ret2
          exact ⟨_, by rw [R.out.1]; rfl, by rw [R.out.2]; exact Ld.nil _, hB⟩
      · have hkn : k = a.length := by omega
        have E : L = spr a b := by
          have H := HL.out
          unfold spr
          rw [← HN.out]
          refine ext_getD (by rw [spl_len]; exact H.1) fun i hi => ?_
          rw [spl_getD _ _ _ _ (by omega)]
          exact H.2.1 i (by omega) (by omega)
        have hfit : fit a b = true := by
          unfold fit
          rw [← HN.out]
          exact (fitN_iff _ _ _).2 fun j h1 h2 => HL.out.2.2 j h1 (by omega)
        have hL := HL.out.1
        subst E
        have hld := Ld.of_blk hblk (c := a.length) (by omega)
        rw [hL] at hld
        have C := Lib.hid (rmay_any _ _ wr hld (by omega))
        cases hm : may (spr a b) with
        | true =>
          have R : Hid (spe a b = 0 ∧ spv a b = spr a b) := by
            have e : spe a b = 0 := by unfold spe; rw [if_pos hfit, if_pos hm]
            exact ⟨e, by unfold spv; rw [if_pos e]⟩
          rw [hm] at C
          have HLD := Lib.hid hld
          clear hfit hm hld hL
          go_wp2_with (go_at_call 13; (with_reducible refine C.out.mono ?_); rintro e w' ⟨rfl, rfl⟩)
          go_ret2
          exact ⟨_, by rw [R.out.1]; rfl, by rw [R.out.2]; exact HLD.out, hB⟩
        | false =>
          have R : Hid (spe a b = 5 ∧ spv a b = []) := by
            have e : spe a b = 5 := by unfold spe; rw [if_pos hfit, hm]; rfl
            exact ⟨e, by unfold spv; rw [if_neg (by omega)]⟩
          rw [hm] at C
          clear hfit hm hld hL
          go_wp2_with (go_at_call 13; (with_reducible refine C.out.mono ?_); rintro e w' ⟨rfl, rfl⟩)
          go_ret2
          exact ⟨_, by rw [R.out.1]; rfl, by rw [R.out.2]; exact Ld.nil _, hB⟩

theorem spv_len {a b : List Int} (ha : a.length ≤ 4) (hb : b.length ≤ 4) : (spv a b).length ≤ 4 := by
  unfold spv
  split
  · unfold spr; rw [spl_len]; unfold mx; omega
  · simp
set_option maxRecDepth 100000 in
set_option maxHeartbeats 4000000 in
theorem rgoes_any (vs vt : Value) (s t : List Int) (w : World) (hs : Ld w vs s) (ht : Ld w vt t) (ms : may s = true) (mt : may t = true) :
    Calls Try.prog 15 #[vs, vt] w fun e w' => e = .returned (.bool (goes s t)) ∧ Below w.heap.size w w' := by
  have SP := Lib.hid (rspread_any vs vt s t w hs ht ms mt)
  have l1 := spv_len (may_len ms) (may_len mt)
  have l2 := may_len mt
  have EQ := Lib.hid (fun (W : World) (v : Value) (h : Below w.heap.size w W) (hv : Ld W v (spv s t)) => eqn_any v vt (spv s t) t W hv (ht.below h) (by omega) (by omega))
  have G : Hid (goes s t = (decide (spe s t = 0) && decide (spv s t = t))) := rfl
  generalize spe s t = r at *
  generalize spv s t = x at *
  clear hs ht ms mt l1 l2
  by_cases h0 : r = 0
  · subst h0
    have E : Hid (goes s t = decide (x = t)) := by rw [Hid, G.out]; simp
    clear G
    generalize decide (x = t) = d at *
    go_enter Try.func15, Try.ntmps15
    go_wp2_with (first | (go_at_call 48; (with_reducible refine SP.out.mono ?_); rintro e w1 ⟨v, rfl, hv, hB1⟩; have Q1 := Lib.hid (EQ.out w1 v hB1 hv)) | (go_at_call 33; (with_reducible refine Q1.out.mono ?_); rintro e w2 ⟨rfl, hB2⟩))
    go_ret
    exact ⟨by rw [E.out]; rfl, hB1.trans (hB2.mono hB1.size)⟩
  · have E : Hid (goes s t = false) := by rw [Hid, G.out]; simp [h0]
    have b0 : (r == 0) = false := by rw [beq_eq_false_iff_ne]; exact h0
    clear G h0
    go_enter Try.func15, Try.ntmps15
    go_wp2_with (go_at_call 48; (with_reducible refine SP.out.mono ?_); rintro e w1 ⟨v, rfl, hv, hB1⟩)
    go_ret
    exact ⟨by rw [E.out]; rfl, hB1⟩

end Go.Proofs.Ytdcmcfmodbdhaaa
namespace Go.Proofs.Ytdcmcfmodbdhaaa
open Go.RowKit
attribute [local go_sem ↓] Go.wp_at_zero Go.wp_at_succ

theorem grown_drw {w W : World} {r : Option Nat} (h : w.grownBy W r) (n : Nat) : w.grownBy (W.drewN n) r := ⟨h.os, h.tape, h.output, h.size, h.block⟩
theorem grown_put {w W : World} {g k : Nat} (h : w.grownBy W (some g)) (v : Value) : w.grownBy (W.setCell ⟨g, k, none⟩ v) (some g) :=
  ⟨h.os, h.tape, h.output, by simpa using h.size, fun j hj hne => (Below.heap_setCell _ _ _ j (fun e => hne (by rw [e]))).trans (h.block j hj hne)⟩
theorem grown_cell {w W : World} {g : Nat} (h : w.grownBy W (some g)) {b i : Nat} {v : Value} (hb : b < w.heap.size) (hne : b ≠ g) (hc : w.cell? ⟨b, i, none⟩ = some v) : W.cell? ⟨b, i, none⟩ = some v := by
  rw [← hc]; simp [World.cell?, h.block b hb (by simpa using hne)]
theorem own_box {w : World} {base n b : Nat} {v : Value} {xs : List Value} {cs : Array Value} (h : w.ownsRow base 3 1 v n xs) (hb : Blk w b 25 cs) (x y z : Value) : (((w.setCell ⟨b, 0, none⟩ x).setCell ⟨b, 1, none⟩ y).setCell ⟨b, 2, none⟩ z).ownsRow base 3 1 v n xs :=
  h.kept (grown_box3 w b x y z) (.inr (own_not_box h hb))
theorem blk_apart {w : World} {g b : Nat} {cs cs' : Array Value} (h : Blk w g 3 cs) (hb : Blk w b 25 cs') : ¬ g = b := fun e => by
  subst e
  have := h.symm.trans hb
  simp at this
theorem blk_box3 {w : World} {g b : Nat} {cs cs' : Array Value} (h : Blk w g 3 cs) (hb : Blk w b 25 cs') (x y z : Value) : Blk (((w.setCell ⟨b, 0, none⟩ x).setCell ⟨b, 1, none⟩ y).setCell ⟨b, 2, none⟩ z) g 3 cs :=
  h.kept (grown_box3 w b x y z) (fun e => blk_apart h hb (Option.some.inj e))
theorem blk_new1 (w : World) (o : Obj) (t : TypeId) (cs : Array Value) : Blk ((w.alloc o).alloc (.cells cs t)) (w.heap.size + 1) t cs := by
  have := Blk.new (w.alloc o) t cs
  rwa [World.size_alloc] at this
theorem wsn_put {sh st s : List Int} {k a : Nat} (ha : s.length - sh.length = a) (e : sh.getD k 0 = s.getD (k + a) 0) : wsn sh st s (k + 1) = (wsn sh st s k).set (k + a) (st.getD k 0) := by subst ha; exact if_pos e
theorem wsn_skip {sh st s : List Int} {k a : Nat} (ha : s.length - sh.length = a) (e : ¬ sh.getD k 0 = s.getD (k + a) 0) : wsn sh st s (k + 1) = wsn sh st s k := by subst ha; exact if_neg e

set_option maxRecDepth 100000 in
set_option maxHeartbeats 4000000 in
theorem widen_any (vs vt va : Value) (sh st s : List Int) (off : Int) (w : World) (hs : Ld w vs sh) (ht : Ld w vt st) (ha : Ld w va s) (l1 : sh.length ≤ 1073741824) (l2 : st.length ≤ 17592186044416) (l3 : s.length ≤ 1073741824) :
    Calls Try.prog 22 #[.agg #[vs, vt, .int .i64 off], va] w (SomeV w (wie sh st off s) (unl (wie sh st off s) s) (unl (wie sh st off s) (wst sh st s)) (unn (wie sh st off s) off)) := by
  obtain ⟨i0, hi0, hz0, hz1, hz2⟩ := info_parts infoI
  have hB0 : Below w.heap.size w ((w.alloc (.cells #[vs, vt, .int .i64 off] 25)).alloc (.cells #[.slice none 0 0, .slice none 0 0, .int .i64 0] 25)) := ((Below.refl _ _).alloc (Nat.le_refl _) _).alloc (by simp) _
  have hX0 : Blk ((w.alloc (.cells #[vs, vt, .int .i64 off] 25)).alloc (.cells #[.slice none 0 0, .slice none 0 0, .int .i64 0] 25)) w.heap.size 25 #[vs, vt, .int .i64 off] := (Blk.new w _ _).alloc _
  have hX1 : Blk ((w.alloc (.cells #[vs, vt, .int .i64 off] 25)).alloc (.cells #[.slice none 0 0, .slice none 0 0, .int .i64 0] 25)) (w.heap.size + 1) 25 #[.slice none 0 0, .slice none 0 0, .int .i64 0] := by
    have := Blk.new (w.alloc (.cells #[vs, vt, .int .i64 off] 25)) 25 #[.slice none 0 0, .slice none 0 0, .int .i64 0]
    rwa [World.size_alloc] at this
  have CK := vcheck_any vs vt sh st off 65536 _ (hs.below hB0) (ht.below hB0) (by omega) l2
  simp only [World.size_alloc] at CK
  replace CK := Lib.hid CK
  have CP := Lib.hid (fun (a : may sh = true) (b : may s = true) (W : World) (hb : Below w.heap.size w W) => spread_any vs va sh s W (hs.below hb) (ha.below hb) a b)
  have CSN := Lib.hid (fun (h : may s = false) (W : World) (hb : Below w.heap.size w W) => check_no va s W (ha.below hb) h)
  have CSK := Lib.hid (fun (h : may s = true) (W : World) (hb : Below w.heap.size w W) => check_ok va s W (ha.below hb) h)
  have CE := Lib.hid (fun (hl : (spv sh s).length ≤ 17592186044416) (W : World) (hb : Below w.heap.size w W) (v : Value) (hv : Ld W v (spv sh s)) => equal_any v va (spv sh s) s W hv (ha.below hb) hl (by omega))
  have CL := Lib.hid (fun (W : World) (hb : Below w.heap.size w W) => cloned_any va s W (ha.below hb) (by omega))
  obtain ⟨os, cs, rfl, _, hxs⟩ := hs
  obtain ⟨ot, ct, rfl, _, hxt⟩ := ht
  obtain ⟨oa, ca, rfl, _, hxa⟩ := ha
  have HS := Lib.hid hxs
  have HT := Lib.hid hxt
  have HA := Lib.hid hxa
  clear hxs hxt hxa
  have HX0 := Lib.hid hX0
  have HX1 := Lib.hid hX1
  have HB0 := Lib.hid hB0
  clear hX0 hX1 hB0
  cases hv : vwb sh st off 65536 with
  | false =>
    have R : Hid (wie sh st off s = 1) := by unfold wie; rw [hv]; exact Lib.hid rfl
    rw [hv, frm_f] at CK
    clear hv CL CE CP
    go_enter Try.func22, Try.ntmps22
    go_wp2_with (go_at_call 28; (with_reducible refine CK.out.mono ?_); rintro e w2 ⟨rfl, hb2⟩; have Y1 := Lib.hid (HX1.out.below hb2 (by omega)); have Y0 := Lib.hid (HX0.out.below hb2 (by omega)); obtain ⟨c0, c1, c2, _⟩ := (blk3 Y0.out); obtain ⟨d0, d1, d2, f0, f1, f2⟩ := blk3 Y1.out; have bb2 := HB0.out.trans (hb2.mono (by omega)); have y1l := Y1.out.lt; clear hb2)
    refine bodyPost_ret (v := .tuple #[.agg #[.slice none 0 0, .slice none 0 0, .int .i64 0], .int .i64 1]) (by simp [results, Try.results22, go_sem, d0, d1, d2]) rfl ?_
    rw [R.out]
    exact someV_end (sh := []) (st := []) (Nat.le_succ _) bb2 Y1.out rfl rfl (ov_nil _ _)
  | true =>
    rw [hv, frm_t] at CK
    have hVw := vwb_iff.1 hv
    cases hm : may s with
    | false =>
      have R : Hid (wie sh st off s = 1) := by unfold wie; rw [hv, hm]; exact Lib.hid rfl
      have CS := Lib.hid (CSN.out hm)
      clear hv hVw hm CSN CSK CL CE CP
      go_enter Try.func22, Try.ntmps22
      go_wp2_with (first | (go_at_call 28; (with_reducible refine CK.out.mono ?_); rintro e w2 ⟨rfl, hb2⟩; have Y1 := Lib.hid (HX1.out.below hb2 (by omega)); have Y0 := Lib.hid (HX0.out.below hb2 (by omega)); obtain ⟨c0, c1, c2, _⟩ := (blk3 Y0.out); obtain ⟨d0, d1, d2, f0, f1, f2⟩ := blk3 Y1.out; have bb2 := HB0.out.trans (hb2.mono (by omega)); have y1l := Y1.out.lt; clear hb2) | (go_at_call 52; (with_reducible refine (CS.out _ bb2).mono ?_); rintro e w' ⟨rfl, rfl⟩))
      refine bodyPost_ret (v := .tuple #[.agg #[.slice none 0 0, .slice none 0 0, .int .i64 0], .int .i64 1]) (by simp [results, Try.results22, go_sem, d0, d1, d2]) rfl ?_
      rw [R.out]
      exact someV_end (sh := []) (st := []) (Nat.le_succ _) bb2 Y1.out rfl rfl (ov_nil _ _)
    | true =>
      have CS := Lib.hid (CSK.out hm)
      replace CP := Lib.hid (CP.out hVw.1 hm)
      have lsp : (spv sh s).length ≤ 4 := spv_len (may_len hVw.1) (may_len hm)
      replace CE := Lib.hid (CE.out (by omega))
      clear CSN CSK
      by_cases h0 : spe sh s = 0
      · rw [h0] at CP
        by_cases h1 : spv sh s = s
        · have hg : goes sh s = true := by unfold goes; rw [decide_eq_true h0, decide_eq_true h1]; rfl
          have R : Hid (wie sh st off s = 0) := by unfold wie; rw [hv, hm, hg]; exact Lib.hid rfl
          have hgl := goes_len hVw.1 hm hg
          rw [decide_eq_true h1] at CE
          have HV := Lib.hid (And.intro hVw hm)
          have l4 := may_len hVw.1
          have l5 := may_len hm
          have HLS := Lib.hid hVw.2.1
          obtain ⟨a, ha⟩ : ∃ a, s.length = sh.length + a := ⟨s.length - sh.length, by omega⟩
          have HAA := Lib.hid ha
          have ea : (s.length : Int) - (sh.length : Int) = (a : Int) := by omega
          clear hv hVw hm h0 h1 hg lsp hgl ha
          generalize spv sh s = sp at *
          have mk : ∀ W : World, (Instr.makeSlice 23 (.int .i64 (s.length : Int)) (.int .i64 (s.length : Int))).run Try.prog W = .ok (.slice (some ⟨W.heap.size, 0, none⟩) s.length s.length) (W.alloc (.cells (ints (List.replicate s.length 0)).toArray 3)) := by
            intro W
            have := run_make (w := W) 23 3 i0 (.int .i64 0) Try.underlying23 hi0 hz0 .i64 .i64 s.length s.length (by omega) (by omega) (by rw [hz2]; omega) (by omega)
            rw [this, hz1, ← made_ints]; simp [Value.cells]
          go_enter Try.func22, Try.ntmps22
          go_wp2_with (first | (go_at_call 28; (with_reducible refine CK.out.mono ?_); rintro e w2 ⟨rfl, hb2⟩; have Y1 := Lib.hid (HX1.out.below hb2 (by omega)); have Y0 := Lib.hid (HX0.out.below hb2 (by omega)); obtain ⟨c0, c1, c2, _⟩ := (blk3 Y0.out); obtain ⟨d0, d1, d2, f0, f1, f2⟩ := blk3 Y1.out; have bb2 := HB0.out.trans (hb2.mono (by omega)); have y1l := Y1.out.lt; clear hb2) | (go_at_call 52; (with_reducible refine (CS.out _ bb2).mono ?_); rintro e w' ⟨rfl, rfl⟩) | (go_at_call 53; (with_reducible refine (CP.out _ bb2).mono ?_); rintro e w3 ⟨v3, rfl, hl3, hb3⟩; obtain ⟨o3, c3, rfl, _, _⟩ := id hl3; replace hl3 := Lib.hid hl3; replace Y1 := Lib.hid (Y1.out.below hb3 (by omega)); replace Y0 := Lib.hid (Y0.out.below hb3 (by omega)); obtain ⟨c0, c1, c2, _⟩ := (blk3 Y0.out); obtain ⟨d0, d1, d2, f0, f1, f2⟩ := blk3 Y1.out; have bb3 := bb2.trans (hb3.mono bb2.size); have z3 := hb3.size; clear hb3) | (go_at_call 54; (with_reducible refine (CE.out _ bb3 _ hl3.out).mono ?_); rintro e w4 ⟨rfl, hb4⟩; replace Y1 := Lib.hid (Y1.out.below hb4 (by omega)); replace Y0 := Lib.hid (Y0.out.below hb4 (by omega)); obtain ⟨c0, c1, c2, _⟩ := (blk3 Y0.out); obtain ⟨d0, d1, d2, f0, f1, f2⟩ := blk3 Y1.out; have bb4 := bb3.trans (hb4.mono bb3.size); have z4 := hb4.size; clear hb4))
          have bz4 : Below w4.heap.size w4 w4 := Below.refl _ _
          have KS := Lib.hid (fun (W : World) (hW : Below w4.heap.size w4 W) => (blk3 (Y0.out.below hW Y0.out.lt)).2.2.1)
          have y0l := Y0.out.lt
          have s4 := bb4.size
          go_cut [8] (fun s8 wx => ∃ (P gm c5 : Nat) (o5 : Option Addr), s8 = .pointer (some ⟨P, 0, none⟩) ∧ Blk wx P 25 #[.slice o5 s.length c5, .slice (some ⟨gm, 0, none⟩) s.length s.length, .int .i64 off] ∧ Blk wx gm 3 (ints (List.replicate s.length 0)).toArray ∧ Hid (wx.ownsRow w4.heap.size 3 1 (.slice o5 s.length c5) s.length (ints s) ∧ ∀ g, o5 = some ⟨g, 0, none⟩ → ¬ g = gm) ∧ Hid (w4.heap.size ≤ gm ∧ w4.heap.size ≤ P) ∧ Hid (Below w4.heap.size w4 wx))
          case first =>
            go_region_held3 (fun W => W.cell? ⟨w.heap.size, 2, none⟩ = some (.int .i64 off)) (first | go_keep | (refine KS.out _ ?_; repeat (first | assumption | exact Nat.le_refl _ | exact Nat.le_succ _ | exact Below.refl _ _ | apply below_drew1 | (refine Below.setCell ?_ ?_ _) | (refine Below.alloc ?_ ?_ _) | omega | (simp; done) | (simp; omega))))
              (first | (go_at_call 51; (with_reducible refine Go.Calls.mono (CL.out _ ?_) ?_); (· repeat (first | assumption | exact Nat.le_refl _ | exact Nat.le_succ _ | exact Below.refl _ _ | apply below_drew1 | (refine Below.alloc ?_ ?_ _) | omega | (simp; done) | (simp; omega))); rintro e w5 ⟨o5, c5, rfl, ho5, _, hb5⟩; have bz5 : Below w4.heap.size w4 w5 := (by refine Below.trans ?_ (hb5.mono ?_); (· repeat (first | assumption | exact Nat.le_refl _ | exact Nat.le_succ _ | exact Below.refl _ _ | apply below_drew1 | (refine Below.alloc ?_ ?_ _) | omega | (simp; done) | (simp; omega))); (· first | exact Nat.le_refl _ | omega | (simp; done) | (simp; omega))); have s5 := bz5.size; have O5 : Hid (w5.ownsRow w4.heap.size 3 1 (.slice o5 s.length c5) s.length (ints s)) := own_base ho5 (by first | exact Nat.le_refl _ | omega | (simp; done) | (simp; omega)); have O5B := Lib.hid ho5; (first | (have zg : Blk w5 w4.heap.size 3 (ints (List.replicate s.length 0)).toArray := Blk.below (by first | exact Blk.new w4 _ _ | exact (Blk.new w4 _ _).alloc _) hb5 (by first | exact Nat.le_refl _ | omega | (simp; done) | (simp; omega))) | (have zg : Blk w5 (w4.heap.size + 1) 3 (ints (List.replicate s.length 0)).toArray := Blk.below (by have q := Blk.new (w4.alloc (.cells #[.slice none 0 0, .slice none 0 0, .int .i64 0] 25)) 3 (ints (List.replicate s.length 0)).toArray; rw [World.size_alloc] at q; exact q) hb5 (by first | exact Nat.le_refl _ | omega | (simp; done) | (simp; omega))) | skip); (first | (have zP : Blk w5 w4.heap.size 25 #[.slice none 0 0, .slice none 0 0, .int .i64 0] := Blk.below (by first | exact Blk.new w4 _ _ | exact (Blk.new w4 _ _).alloc _) hb5 (by first | exact Nat.le_refl _ | omega | (simp; done) | (simp; omega)); have zPl := zP.lt; obtain ⟨p0, p1, p2, pf0, pf1, pf2⟩ := blk3 zP) | (have zP : Blk w5 (w4.heap.size + 1) 25 #[.slice none 0 0, .slice none 0 0, .int .i64 0] := Blk.below (by have q := Blk.new (w4.alloc (.cells (ints (List.replicate s.length 0)).toArray 3)) 25 #[.slice none 0 0, .slice none 0 0, .int .i64 0]; rw [World.size_alloc] at q; exact q) hb5 (by first | exact Nat.le_refl _ | omega | (simp; done) | (simp; omega)); have zPl := zP.lt; obtain ⟨p0, p1, p2, pf0, pf1, pf2⟩ := blk3 zP) | skip); have k0 := KS.out _ bz5; replace ho5 := Lib.hid ho5))
            · go_wp2
              go_meet
              refine ⟨_, w5.heap.size, c5, o5, rfl, ?_, ?_, ⟨?_, ?_⟩, ⟨?_, ?_⟩, ?_⟩
              · exact blk_new1 w5 _ _ _
              · exact (Blk.new w5 _ _).alloc _
              · exact (O5.out.alloc _).alloc _
              · intro g e; subst e; have q1 := (O5B.out.lt g rfl).1; have q2 := (O5B.out.lt g rfl).2; (try simp at q1); omega
              · first | exact Nat.le_refl _ | exact Nat.le_succ _ | omega | (simp; done) | (simp; omega)
              · first | exact Nat.le_refl _ | exact Nat.le_succ _ | omega | (simp; done) | (simp; omega)
              · exact (bz5.alloc s5 _).alloc (by simp; omega) _
            · go_wp2
              go_meet
              refine ⟨_, w5.heap.size + 1, c5, o5, rfl, ?_, ?_, ⟨?_, ?_⟩, ⟨?_, ?_⟩, ?_⟩
              · exact (Blk.new w5 _ _).alloc _
              · exact blk_new1 w5 _ _ _
              · exact (O5.out.alloc _).alloc _
              · intro g e; subst e; have q1 := (O5B.out.lt g rfl).1; have q2 := (O5B.out.lt g rfl).2; (try simp at q1); omega
              · first | exact Nat.le_refl _ | exact Nat.le_succ _ | omega | (simp; done) | (simp; omega)
              · first | exact Nat.le_refl _ | exact Nat.le_succ _ | omega | (simp; done) | (simp; omega)
              · exact (bz5.alloc s5 _).alloc (by simp; omega) _
            · go_wp2
              go_meet
              refine ⟨_, w4.heap.size, c5, o5, rfl, ?_, ?_, ⟨?_, ?_⟩, ⟨?_, ?_⟩, ?_⟩
              · exact Blk.new w5 _ _
              · exact zg.alloc _
              · exact O5.out.alloc _
              · intro g e; subst e; have q1 := (O5B.out.lt g rfl).1; have q2 := (O5B.out.lt g rfl).2; (try simp at q1); omega
              · first | exact Nat.le_refl _ | exact Nat.le_succ _ | omega | (simp; done) | (simp; omega)
              · first | exact Nat.le_refl _ | exact Nat.le_succ _ | omega | (simp; done) | (simp; omega)
              · exact bz5.alloc s5 _
            · go_wp2
              go_meet
              refine ⟨_, w4.heap.size, c5, o5, rfl, ?_, ?_, ⟨?_, ?_⟩, ⟨?_, ?_⟩, ?_⟩
              · exact ((zP.set_ 0 _).set_ 1 _).set_ 2 _
              · exact blk_box3 zg zP _ _ _
              · exact own_box O5.out zP _ _ _
              · intro g e; subst e; have q1 := (O5B.out.lt g rfl).1; have q2 := (O5B.out.lt g rfl).2; (try simp at q1); omega
              · first | exact Nat.le_refl _ | exact Nat.le_succ _ | omega | (simp; done) | (simp; omega)
              · first | exact Nat.le_refl _ | exact Nat.le_succ _ | omega | (simp; done) | (simp; omega)
              · exact Below.box bz5 (Nat.le_succ _) _ _ _
            · go_wp2
              go_meet
              refine ⟨_, w5.heap.size, c5, o5, rfl, ?_, ?_, ⟨?_, ?_⟩, ⟨?_, ?_⟩, ?_⟩
              · exact (((zP.set_ 0 _).set_ 1 _).set_ 2 _).alloc _
              · have q := Blk.new (((w5.setCell ⟨w4.heap.size, 0, none⟩ (.slice o5 s.length c5)).setCell ⟨w4.heap.size, 1, none⟩ (.slice (some ⟨w5.heap.size, 0, none⟩) s.length s.length)).setCell ⟨w4.heap.size, 2, none⟩ (.int .i64 off)) 3 (ints (List.replicate s.length 0)).toArray
                rw [show (((w5.setCell ⟨w4.heap.size, 0, none⟩ (.slice o5 s.length c5)).setCell ⟨w4.heap.size, 1, none⟩ (.slice (some ⟨w5.heap.size, 0, none⟩) s.length s.length)).setCell ⟨w4.heap.size, 2, none⟩ (.int .i64 off)).heap.size = w5.heap.size by simp] at q
                exact q
              · exact (own_box O5.out zP _ _ _).alloc _
              · intro g e; subst e; have q1 := (O5B.out.lt g rfl).1; have q2 := (O5B.out.lt g rfl).2; (try simp at q1); omega
              · first | exact Nat.le_refl _ | exact Nat.le_succ _ | omega | (simp; done) | (simp; omega)
              · first | exact Nat.le_refl _ | exact Nat.le_succ _ | omega | (simp; done) | (simp; omega)
              · exact (Below.box bz5 (Nat.le_refl _) _ _ _).alloc (by simpa using s5) _
            · go_wp2
              go_meet
              refine ⟨_, w4.heap.size + 1, c5, o5, rfl, ?_, ?_, ⟨?_, ?_⟩, ⟨?_, ?_⟩, ?_⟩
              · exact ((zP.set_ 0 _).set_ 1 _).set_ 2 _
              · exact blk_box3 zg zP _ _ _
              · exact own_box O5.out zP _ _ _
              · intro g e; subst e; have q1 := (O5B.out.lt g rfl).1; have q2 := (O5B.out.lt g rfl).2; (try simp at q1); omega
              · first | exact Nat.le_refl _ | exact Nat.le_succ _ | omega | (simp; done) | (simp; omega)
              · first | exact Nat.le_refl _ | exact Nat.le_succ _ | omega | (simp; done) | (simp; omega)
              · exact Below.box bz5 (Nat.le_refl _) _ _ _
          case rest =>
            obtain ⟨P, gm, c5, o5, rfl, hP, hgm, HO, HL, HB⟩ := hcut
            obtain ⟨t0, t1, t2, _⟩ := blk3 hP
            have HP := Lib.hid hP
            have YF := Lib.hid (Y1.out.below HB.out (by have := Y1.out.lt; omega))
            have Y0F := Lib.hid (Y0.out.below HB.out (by omega))
            obtain ⟨c0, c1, c2, _⟩ := blk3 Y0F.out
            clear hP
            go_wp2
            have g5 := hgm.lt
            have pl := HP.out.lt
            have nPg := blk_apart hgm HP.out
            go_loopw [54] (fun s54 wr => ∃ k : Nat, k ≤ sh.length ∧ s54 = .int .i64 k ∧ Hid (Blk wr gm 3 (ints (wsn sh st s k)).toArray) ∧ Hid (wc.grownBy wr (some gm))) (fun s54 _ => sh.length - (intOf s54).toNat)
            case atStart => exact ⟨0, Nat.zero_le _, rfl, hgm, World.grownBy.refl _ _⟩
            case round =>
              obtain ⟨k, hk, rfl, hw, hG⟩ := hrel
              have wl := HL.out
              have bl := HB.out.size
              have gold : ∀ (b i : Nat) (v : Value), b < w.heap.size → w.cell? ⟨b, i, none⟩ = some v → wr.cell? ⟨b, i, none⟩ = some v := fun b i v h1 h2 =>
                grown_cell hG.out (by omega) (by omega) ((HB.out.cell (p := ⟨b, i, none⟩) (by show b < _; omega)).trans ((bb4.cell (p := ⟨b, i, none⟩) h1).trans h2))
              have gbox := fun (b i : Nat) (v : Value) (h1 : b < wc.heap.size) (h2 : b ≠ gm) (h3 : wc.cell? ⟨b, i, none⟩ = some v) => grown_cell (i := i) hG.out h1 h2 h3
              have yp := blk3 HP.out
              have yb := blk3 Y0F.out
              have e0 := gbox w.heap.size 0 _ (by omega) (by omega) yb.1
              have e1 := gbox w.heap.size 1 _ (by omega) (by omega) yb.2.1
              have e2 := gbox P 1 _ pl (fun e => nPg e.symm) yp.2.1
              have GOLD := Lib.hid gold
              clear gold gbox yp yb
              by_cases hlt : k < sh.length
              · have ha := HAA.out
                have hls := HLS.out
                obtain ⟨bs, fs, rfl, ns, xs⟩ := HS.out k hlt
                obtain ⟨bt, ft, rfl, nt, xt⟩ := HT.out k (by omega)
                obtain ⟨ba, fa, rfl, na, xa⟩ := HA.out (a + k) (by omega)
                have xs' := GOLD.out _ _ _ ns xs
                have xt' := GOLD.out _ _ _ nt xt
                have xa' := GOLD.out _ _ _ na xa
                have xa2 : wr.cell? ⟨ba, fa + ((a : Int) + (k : Int)).toNat, none⟩ = some (.int .i64 (s.getD (a + k) 0)) := by rw [show ((a : Int) + (k : Int)).toNat = a + k by omega]; exact xa'
                have kc := hw.out.cell (a + k)
                rw [ints_at (by rw [wsn_len]; omega)] at kc
                have kf := hw.out.frozen (a + k)
                have akl : a + k < s.length := by omega
                have klt : k < st.length := by omega
                have HPUT : Hid (sh.getD k 0 = s.getD (a + k) 0 → wsn sh st s (k + 1) = (wsn sh st s k).set (a + k) (st.getD k 0)) := fun e => by rw [Nat.add_comm a k] at e ⊢; exact wsn_put (by omega) e
                have HSKIP : Hid (¬ sh.getD k 0 = s.getD (a + k) 0 → wsn sh st s (k + 1) = wsn sh st s k) := fun e => by rw [Nat.add_comm a k] at e; exact wsn_skip (by omega) e
                clear xs xt xa ha hls
                generalize (wsn sh st s k).getD (a + k) 0 = q0 at kc
                generalize sh.getD k 0 = d at *
                generalize s.getD (a + k) 0 = d2 at *
                generalize st.getD k 0 = q at *
                by_cases g : d = d2
                · subst g
                  have R1 := Lib.hid (HPUT.out rfl)
                  go_wp2
                  go_quiet (fail)
                  go_wp2
                  refine ⟨⟨k + 1, by omega, by go_num, ?_, ?_⟩, by simp [intOf]; omega⟩
                  · rw [R1.out]
                    exact Blk.put hw.out (a + k) q
                  · exact grown_put (by first | exact grown_drw hG.out _ | exact hG.out) _
                · have R1 := Lib.hid (HSKIP.out g)
                  have g' : (d == d2) = false := by rw [beq_eq_false_iff_ne]; exact g
                  clear g
                  go_wp2
                  go_quiet (fail)
                  go_wp2
                  refine ⟨⟨k + 1, by omega, by go_num, ?_, ?_⟩, by simp [intOf]; omega⟩
                  · rw [R1.out]
                    exact hw.out
                  · first | exact grown_drw hG.out _ | exact hG.out
              · obtain rfl : k = sh.length := by omega
                have hls : (st.length : Int) = (sh.length : Int) := by have := HLS.out; omega
                have dF := Lib.hid ((YF.out.kept hG.out (fun e => blk_apart hgm YF.out (Option.some.inj e).symm)))
                have pF := Lib.hid ((HP.out.kept hG.out (fun e => nPg (Option.some.inj e).symm)))
                obtain ⟨d0, d1, d2, f0, f1, f2⟩ := blk3 dF.out
                obtain ⟨t0, t1, t2, _⟩ := blk3 pF.out
                go_wp2
                refine bodyPost_ret (v := .tuple #[.agg #[.slice o5 s.length c5, .slice (some ⟨gm, 0, none⟩) s.length s.length, .int .i64 off], .int .i64 0]) (by simp [results, Try.results22, go_sem, d0, d1, d2]) rfl ?_
                rw [R.out]
                have hbel : Below w4.heap.size w4 wr := HB.out.grown hG.out bl (fun k e => by cases e; exact wl.1)
                have hw2 : wr.ownsRow w4.heap.size 3 1 (.slice (some ⟨gm, 0, none⟩) s.length s.length) (wst sh st s).length (ints (wst sh st s)) := by
                  have q := hw.out.owns (base := w4.heap.size) wl.1 (by rw [wsn_len]; omega)
                  rw [wsn_len] at q
                  unfold wst
                  rw [wsn_len]
                  exact q
                have ho : wr.ownsRow w4.heap.size 3 1 (.slice o5 s.length c5) s.length (ints s) := HO.out.1.kept hG.out (by
                  cases o5 with
                  | none => exact .inl rfl
                  | some ad =>
                    right
                    intro e
                    simp only [Value.ownBlock, Option.some.injEq] at e
                    rcases HO.out.1.2 with ⟨e2, _⟩ | ⟨g, _, _, e2, _⟩
                    · cases e2
                    · simp only [Value.slice.injEq, Option.some.injEq] at e2
                      rw [e2.1] at e
                      exact HO.out.2 g (by rw [e2.1]) e)
                refine someV_end (sh := s) (st := wst sh st s) (Nat.le_succ _) (bb4.trans (hbel.mono s4)) dF.out rfl (by unfold wst; rw [wsn_len]) (Ov.base (base := w4.heap.size) ⟨ho, hw2, ?_⟩ s4)
                intro g e e2
                simp only [Value.ownBlock, Option.some.injEq] at e2
                rcases HO.out.1.2 with ⟨e3, _⟩ | ⟨g', _, _, e3, _⟩
                · simp only [Value.slice.injEq] at e3
                  rw [e3.1] at e; simp [Value.ownBlock] at e
                · simp only [Value.slice.injEq] at e3
                  rw [e3.1] at e
                  simp only [Value.ownBlock, Option.some.injEq] at e
                  exact HO.out.2 g' e3.1 (by omega)
        · have R : Hid (wie sh st off s = 2) := by unfold wie goes; rw [hv, hm, decide_eq_true h0, decide_eq_false h1]; exact Lib.hid rfl
          rw [decide_eq_false h1] at CE
          clear hv hVw hm h0 h1 CL lsp
          generalize spv sh s = sp at *
          go_enter Try.func22, Try.ntmps22
          go_wp2_with (first | (go_at_call 28; (with_reducible refine CK.out.mono ?_); rintro e w2 ⟨rfl, hb2⟩; have Y1 := Lib.hid (HX1.out.below hb2 (by omega)); have Y0 := Lib.hid (HX0.out.below hb2 (by omega)); obtain ⟨c0, c1, c2, _⟩ := (blk3 Y0.out); obtain ⟨d0, d1, d2, f0, f1, f2⟩ := blk3 Y1.out; have bb2 := HB0.out.trans (hb2.mono (by omega)); have y1l := Y1.out.lt; clear hb2) | (go_at_call 52; (with_reducible refine (CS.out _ bb2).mono ?_); rintro e w' ⟨rfl, rfl⟩) | (go_at_call 53; (with_reducible refine (CP.out _ bb2).mono ?_); rintro e w3 ⟨v3, rfl, hl3, hb3⟩; obtain ⟨o3, c3, rfl, _, _⟩ := id hl3; replace hl3 := Lib.hid hl3; replace Y1 := Lib.hid (Y1.out.below hb3 (by omega)); replace Y0 := Lib.hid (Y0.out.below hb3 (by omega)); obtain ⟨c0, c1, c2, _⟩ := (blk3 Y0.out); obtain ⟨d0, d1, d2, f0, f1, f2⟩ := blk3 Y1.out; have bb3 := bb2.trans (hb3.mono bb2.size); have z3 := hb3.size; clear hb3) | (go_at_call 54; (with_reducible refine (CE.out _ bb3 _ hl3.out).mono ?_); rintro e w4 ⟨rfl, hb4⟩; replace Y1 := Lib.hid (Y1.out.below hb4 (by omega)); replace Y0 := Lib.hid (Y0.out.below hb4 (by omega)); obtain ⟨c0, c1, c2, _⟩ := (blk3 Y0.out); obtain ⟨d0, d1, d2, f0, f1, f2⟩ := blk3 Y1.out; have bb4 := bb3.trans (hb4.mono bb3.size); have z4 := hb4.size; clear hb4))
          refine bodyPost_ret (v := .tuple #[.agg #[.slice none 0 0, .slice none 0 0, .int .i64 0], .int .i64 2]) (by simp [results, Try.results22, go_sem, d0, d1, d2]) rfl ?_
          rw [R.out]
          exact someV_end (sh := []) (st := []) (Nat.le_succ _) bb4 Y1.out rfl rfl (ov_nil _ _)
      · have R : Hid (wie sh st off s = 2) := by unfold wie goes; rw [hv, hm, decide_eq_false h0]; exact Lib.hid rfl
        have h0' : (spe sh s != 0) = true := by rw [bne_iff_ne]; exact h0
        clear hv hVw hm h0 CL CE lsp
        generalize spv sh s = sp at *
        generalize spe sh s = er at *
        go_enter Try.func22, Try.ntmps22
        go_wp2_with (first | (go_at_call 28; (with_reducible refine CK.out.mono ?_); rintro e w2 ⟨rfl, hb2⟩; have Y1 := Lib.hid (HX1.out.below hb2 (by omega)); have Y0 := Lib.hid (HX0.out.below hb2 (by omega)); obtain ⟨c0, c1, c2, _⟩ := (blk3 Y0.out); obtain ⟨d0, d1, d2, f0, f1, f2⟩ := blk3 Y1.out; have bb2 := HB0.out.trans (hb2.mono (by omega)); have y1l := Y1.out.lt; clear hb2) | (go_at_call 52; (with_reducible refine (CS.out _ bb2).mono ?_); rintro e w' ⟨rfl, rfl⟩) | (go_at_call 53; (with_reducible refine (CP.out _ bb2).mono ?_); rintro e w3 ⟨v3, rfl, hl3, hb3⟩; obtain ⟨o3, c3, rfl, _, _⟩ := id hl3; replace hl3 := Lib.hid hl3; replace Y1 := Lib.hid (Y1.out.below hb3 (by omega)); replace Y0 := Lib.hid (Y0.out.below hb3 (by omega)); obtain ⟨c0, c1, c2, _⟩ := (blk3 Y0.out); obtain ⟨d0, d1, d2, f0, f1, f2⟩ := blk3 Y1.out; have bb3 := bb2.trans (hb3.mono bb2.size); have z3 := hb3.size; clear hb3))
        refine bodyPost_ret (v := .tuple #[.agg #[.slice none 0 0, .slice none 0 0, .int .i64 0], .int .i64 2]) (by simp [results, Try.results22, go_sem, d0, d1, d2]) rfl ?_
        rw [R.out]
        exact someV_end (sh := []) (st := []) (Nat.le_succ _) bb3 Y1.out rfl rfl (ov_nil _ _)
end Go.Proofs.Ytdcmcfmodbdhaaa
