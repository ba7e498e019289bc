/-
  The reference's shapes: counts, what may be, strides, places, indexes.
  The reference's shapes: places and indexes, spread shapes.
  The reference's shapes: spread shapes, what stands under an index.
  view.Widen.
  Lists of words: alike? all words?
  The program's look for numbers that are no words.
  view.Copy.
  Words laid where indexes stand; which places are taken; plain mathematics.
  slices.Clone of words.
  The reference's views: which may be, axes, the plain one.
  view.Reshape; the reference's plain view.
  The view laws' own helpers: views held against one another, copied, written over, asked.
  Of the references that the laws of package view call: words copied and spoilt, where an index stands.
  Tensors: alike? spoilt; may they be?
  A told tensor's box is written: a row of another kind stands.
  shape.Under.
  package elem: Check.
  The reference's copy of a tensor; words' signs; a tensor told by its words.
-/
import Derived.Deep.QuietTactic
import Derived.BigQuiet
import Derived.IntWalk
import Derived.Deep.AppendLies
import Derived.Deep.DeepBigQuietO
import Derived.Test.YtmafgdinegboeaaGreatM11
import Derived.Test.YtmafgdinegboeaaGreatM13
import Derived.Test.YtmafgdinegboeaaGreatM14
namespace Go.Proofs.YtmafgdinegboeaaGreat
open Go.RowKit

/-- The reference's count. -/
def rct (ls : List Int) : Int := if cnt 1 ls = 0 then 65537 else cnt 1 ls
theorem may_rct {ls : List Int} (h4 : ls.length ≤ 4) : decide (rct ls ≤ 65536) = may ls := by
  unfold rct
  rcases cnt_cases ls 1 (by decide) (by decide) with h | ⟨h1, h2, _, _⟩
  · rw [if_pos h, may_not h]; rfl
  · rw [if_neg (by omega), may_yes h4 (by omega)]; simpa using h2
theorem rct_may {ls : List Int} (h : may ls = true) : rct ls = prod ls := by
  unfold rct
  rw [may_cnt h, if_neg (by have := may_prod h; omega)]

set_option maxRecDepth 100000 in
set_option maxHeartbeats 4000000 in
theorem rcount_any (v : Value) (ls : List Int) (w : World) (h : Ld w v ls) (hd : dms ls) (l4 : ls.length ≤ 1073741824) :
    Calls Tryz.prog 46 #[v] w fun e w' => e = .returned (.int .i64 (rct ls)) ∧ w = w' := by
  obtain ⟨o, c, rfl, _, hx⟩ := h
  have HX := Lib.hid hx
  have HD := Lib.hid hd
  clear hx hd
  go_enter Tryz.func46, Tryz.ntmps46
  go_wp2
  go_loop [3, 4] (fun s3 s4 => ∃ (k : Nat) (m : Int), k ≤ ls.length ∧ 1 ≤ m ∧ m ≤ 65536 ∧ s4 = .int .i64 k ∧ s3 = .int .i64 m ∧ Hid (cnt m (ls.drop k) = cnt 1 ls)) (fun _ s4 => ls.length - (intOf s4).toNat)
  case atStart => exact ⟨0, 1, Nat.zero_le _, by decide, by decide, rfl, rfl, rfl⟩
  case round =>
    obtain ⟨k, m, hk, m0, m1, rfl, rfl, HM⟩ := hrel
    by_cases hlt : k < ls.length
    · obtain ⟨b, f, rfl, hb, hc⟩ := HX.out k hlt
      have st := cnt_step hlt m
      rw [HM.out] at st
      have dd := HD.out _ (getD_mem hlt)
      obtain ⟨d, hd⟩ : ∃ d, d = ls.getD k 0 := ⟨_, rfl⟩
      rw [← hd] at st hc dd
      obtain ⟨d1, d2⟩ := dd
      have dn : ¬ 65536 < d := by omega
      have md : m * d ≤ 65536 * 4096 := Int.mul_le_mul m1 d2 (by omega) (by decide)
      have m2 : 1 ≤ m * d := by have := Int.mul_le_mul m0 d1 (by decide) (by omega); omega
      by_cases g : m * d ≤ 65536
      · rw [if_pos ⟨d1, d2, by rw [Int.mul_comm]; exact g⟩] at st
        have ST := Lib.hid st
        have g' : ¬ 65536 < m * d := by omega
        clear st hd md
        go_wp2
        refine ⟨⟨k + 1, m * d, by omega, m2, g, by go_num, rfl, by unfold Hid; rw [← ST.out]⟩, by simp [intOf]; omega⟩
      · rw [if_neg (by rw [Int.mul_comm]; omega)] at st
        have E : Hid (rct ls = 65537) := by unfold rct; rw [if_pos st]; exact Lib.hid rfl
        have g' : 65536 < m * d := by omega
        clear st hd
        go_wp2
        go_ret
        exact ⟨by rw [E.out]; rfl, rfl⟩
    · have E : Hid (m = rct ls) := by
        have := HM.out
        rw [List.drop_eq_nil_of_le (by omega)] at this
        unfold rct
        rw [← this, if_neg (by show cnt m [] ≠ 0; simp [cnt]; omega)]
        exact Lib.hid rfl
      go_wp2
      go_ret
      exact ⟨by rw [← E.out]; rfl, rfl⟩

set_option maxRecDepth 100000 in
set_option maxHeartbeats 4000000 in
theorem rmay_any (v : Value) (ls : List Int) (w : World) (h : Ld w v ls) (l4 : ls.length ≤ 1073741824) :
    Calls Tryz.prog 45 #[v] w fun e w' => e = .returned (.bool (may ls)) ∧ w = w' := by
  by_cases h4 : 4 < ls.length
  · have E : Hid (may ls = false) := may_long h4
    obtain ⟨o, c, rfl, _, _⟩ := h
    go_enter Tryz.func45, Tryz.ntmps45
    go_wp2
    go_ret
    exact ⟨by rw [E.out]; rfl, rfl⟩
  have C := Lib.hid (fun hd => rcount_any v ls w h hd (by omega))
  obtain ⟨o, c, rfl, _, hx⟩ := h
  have HX := Lib.hid hx
  have HR : Hid (decide (rct ls ≤ 65536) = may ls) := may_rct (by omega)
  clear hx
  go_enter Tryz.func45, Tryz.ntmps45
  go_wp2
  go_loop [3] (fun s3 => ∃ k : Nat, k ≤ ls.length ∧ s3 = .int .i64 k ∧ Hid (∀ j, j < k → 1 ≤ ls.getD j 0 ∧ ls.getD j 0 ≤ 4096)) (fun s3 => ls.length - (intOf s3).toNat)
  case atStart => exact ⟨0, Nat.zero_le _, rfl, fun j hj => absurd hj (Nat.not_lt_zero _)⟩
  case round =>
    obtain ⟨k, hk, rfl, HK⟩ := hrel
    by_cases hlt : k < ls.length
    · obtain ⟨b, f, rfl, hb, hc⟩ := HX.out k hlt
      have HN : Hid (¬ (1 ≤ ls.getD k 0 ∧ ls.getD k 0 ≤ 4096) → may ls = false) := fun g => by
        cases h : may ls with
        | false => rfl
        | true => exact absurd (may_dim h hlt) g
      have HG : Hid (1 ≤ ls.getD k 0 ∧ ls.getD k 0 ≤ 4096 → ∀ j, j < k + 1 → 1 ≤ ls.getD j 0 ∧ ls.getD j 0 ≤ 4096) := fun g j hj => by
        by_cases e : j = k
        · subst e; exact g
        · exact HK.out j (by omega)
      generalize ls.getD k 0 = d at *
      by_cases g1 : d < 1
      · have R := Lib.hid (HN.out (by omega))
        go_wp2
        go_ret
        exact ⟨by rw [R.out]; rfl, rfl⟩
      by_cases g2 : 4096 < d
      · have R := Lib.hid (HN.out (by omega))
        go_wp2
        go_ret
        exact ⟨by rw [R.out]; rfl, rfl⟩
      have R := Lib.hid (HG.out (by omega))
      go_wp2
      refine ⟨⟨k + 1, by omega, by go_num, R⟩, by simp [intOf]; omega⟩
    · have hd : dms ls := by
        intro d hm
        obtain ⟨i, hi, rfl⟩ := List.mem_iff_getElem.1 hm
        have := HK.out i (by omega)
        simpa [List.getD, List.getElem?_eq_getElem hi] using this
      have C1 := Lib.hid (C.out hd)
      clear hd
      generalize rct ls = r at *
      go_wp2_with (go_at_call 46; (with_reducible refine C1.out.mono ?_); rintro e w' ⟨rfl, rfl⟩)
      go_ret
      exact ⟨by rw [← HR.out]; rfl, rfl⟩

set_option maxRecDepth 100000 in
set_option maxHeartbeats 4000000 in
theorem rstrides_any (v : Value) (ls : List Int) (w : World) (h : Ld w v ls) (hm : may ls = true) :
    Calls Tryz.prog 111 #[v] w fun e w' => e = .returned (.slice (some ⟨w.heap.size, 0, none⟩) ls.length ls.length) ∧ Blk w' w.heap.size 3 (ints (stl ls)).toArray ∧ Below w.heap.size w w' := by
  obtain ⟨i0, hi0, hz0, hz1, hz2⟩ := info_parts infoI
  obtain ⟨o, c, rfl, _, hx⟩ := h
  have HX := Lib.hid hx
  have l4 := may_len hm
  have HD : Hid (∀ k, k < ls.length → 1 ≤ ls.getD k 0 ∧ ls.getD k 0 ≤ 4096) := fun k hk => may_dim hm hk
  have HP : Hid (∀ k, 1 ≤ prod (ls.drop k) ∧ prod (ls.drop k) ≤ 65536) := may_drop hm
  have mk : (Instr.makeSlice 23 (.int .i64 (ls.length : Int)) (.int .i64 (ls.length : Int))).run Tryz.prog w = .ok (.slice (some ⟨w.heap.size, 0, none⟩) ls.length ls.length) (w.alloc (.cells (madeCells #[.int .i64 0] ls.length) 3)) := by
    have := run_make (w := w) 23 3 i0 (.int .i64 0) Tryz.underlying23 hi0 hz0 .i64 .i64 ls.length ls.length (by omega) (by omega) (by rw [hz2]; omega) (by omega)
    rw [this, hz1]; simp [Value.cells]
  rw [made_ints] at mk
  clear hx hm
  go_enter Tryz.func111, Tryz.ntmps111
  go_wp2
  clear mk
  go_loopw [4, 5] (fun s4 s5 wr => ∃ (k : Nat) (m : Int) (L : List Int), k ≤ ls.length ∧ s5 = .int .i64 ((k : Int) - 1) ∧ s4 = .int .i64 m ∧ Blk wr w.heap.size 3 (ints L).toArray ∧ Hid (L.length = ls.length ∧ m = prod (ls.drop k) ∧ ∀ i, k ≤ i → i < ls.length → L.getD i 0 = prod (ls.drop (i + 1))) ∧ Below w.heap.size w wr) (fun _ s5 _ => (intOf s5 + 1).toNat)
  case atStart => exact ⟨ls.length, 1, List.replicate ls.length 0, Nat.le_refl _, rfl, rfl, Blk.new _ _ _, ⟨by simp, by simp [prod], fun i h1 h2 => by omega⟩, (Below.refl _ _).alloc (Nat.le_refl _) _⟩
  case round =>
    obtain ⟨k, m, L, hk, rfl, rfl, hblk, HL, hB⟩ := hrel
    have hBs := hB.size
    cases k with
    | zero =>
      have E : L = stl ls := by
        refine ext_getD (by rw [stl_len]; exact HL.out.1) fun i hi => ?_
        have := HL.out.1
        rw [stl_getD _ _ (by omega)]
        exact HL.out.2.2 i (Nat.zero_le _) (by omega)
      subst E
      go_wp2
      go_ret
      exact ⟨rfl, hblk, hB⟩
    | succ k =>
      obtain ⟨b, f, rfl, hb, hc⟩ := HX.out k (by omega)
      have hc' : wr.cell? ⟨b, f + k, none⟩ = some (.int .i64 (ls.getD k 0)) := (hB.cell (p := ⟨b, f + k, none⟩) hb).trans hc
      have kc := hblk.cell k
      have hL := HL.out.1
      rw [ints_at (by omega)] at kc
      have kf := hblk.frozen k
      generalize L.getD k 0 = l0 at kc
      have dd := HD.out k (by omega)
      have p0 := HP.out (k + 1)
      have p1 := HP.out k
      have pd := prod_drop (ls := ls) (k := k) (by omega)
      have em := HL.out.2.1
      have R : Hid ((L.set k m).length = ls.length ∧ m * ls.getD k 0 = prod (ls.drop k) ∧ ∀ i, k ≤ i → i < ls.length → (L.set k m).getD i 0 = prod (ls.drop (i + 1))) := by
        refine ⟨by simpa using hL, by rw [em, pd, Int.mul_comm], fun i h1 h2 => ?_⟩
        by_cases e : k = i
        · subst e; rw [set_getD_self (by omega), em]
        · rw [set_getD_ne e]; exact HL.out.2.2 i (by omega) h2
      rw [← em] at p0
      rw [← R.out.2.1] at p1
      have ej : ((k + 1 : Nat) : Int) - 1 = (k : Int) := by omega
      rw [ej]
      have HL2 := Lib.hid hL
      clear em pd hc hL HL
      generalize ls.getD k 0 = d at *
      obtain ⟨p1, p2⟩ := p1
      go_wp2
      refine ⟨⟨k, m * d, L.set k m, by omega, by go_num, rfl, hblk.put k m, R, hB.setCell (Nat.le_refl _) _⟩, by simp [intOf]; try omega⟩
end Go.Proofs.YtmafgdinegboeaaGreat
namespace Go.Proofs.YtmafgdinegboeaaGreat
open Go.RowKit


set_option maxRecDepth 100000 in
set_option maxHeartbeats 4000000 in
theorem rindex_any (vs vi : Value) (s i : List Int) (w : World) (hs : Ld w vs s) (hi : Ld w vi i) (hm : may s = true) (hx : inx s i = true) :
    Calls Tryz.prog 52 #[vs, vi] w fun e w' => e = .returned (.int .i64 (ix s i)) ∧ Below w.heap.size w w' := by
  have hl := inx_len hx
  have l4 := may_len hm
  have SC := Lib.hid (rstrides_any vs s w hs hm)
  obtain ⟨oi, ci, rfl, _, hxi⟩ := hi
  obtain ⟨os, cs, rfl, _, hxs⟩ := hs
  have HI := Lib.hid hxi
  have HL := Lib.hid hl
  have HP := Lib.hid (And.intro (may_pos hm) hx)
  have HD := Lib.hid (may_drop hm)
  have HV := Lib.hid (And.intro (ix_bd hx) (may_prod hm))
  rw [← hl]
  clear hxi hxs hm hx hl
  go_enter Tryz.func52, Tryz.ntmps52
  go_wp2_with (go_at_call 111; (with_reducible refine SC.out.mono ?_); rintro e w1 ⟨rfl, hblk, hB1⟩)
  have hB1s := hB1.size
  have hgl := hblk.lt
  go_loopw [6, 7] (fun s6 s7 wr => ∃ (k : Nat) (p : Int), k ≤ s.length ∧ 0 ≤ p ∧ p ≤ 65536 ∧ s7 = .int .i64 k ∧ s6 = .int .i64 p ∧ Hid (Sum s i (ix s i) p k) ∧ Below w1.heap.size w1 wr) (fun _ s7 _ => s.length - (intOf s7).toNat)
  case atStart => exact ⟨0, 0, Nat.zero_le _, by decide, by decide, rfl, rfl, sum_start, Below.refl _ _⟩
  case round =>
    obtain ⟨k, p, hk, p0, p1, rfl, rfl, HK, hW⟩ := hrel
    by_cases hlt : k < s.length
    · obtain ⟨b1, f1, rfl, h1, c1⟩ := HI.out k (by have := HL.out; omega)
      have c1' : wr.cell? ⟨b1, f1 + k, none⟩ = some (.int .i64 (i.getD k 0)) := (hW.cell (p := ⟨b1, f1 + k, none⟩) (by show b1 < _; omega)).trans ((hB1.cell (p := ⟨b1, f1 + k, none⟩) h1).trans c1)
      have c2' : wr.cell? ⟨w.heap.size, k, none⟩ = some (.int .i64 (prod (s.drop (k + 1)))) := by
        rw [hW.cell (p := ⟨w.heap.size, k, none⟩) hgl, hblk.cell, ints_at (by rw [stl_len]; exact hlt), stl_getD s k hlt]
      obtain ⟨st, n0, n1, n2⟩ := sum_step HK.out HP.out.2 HP.out.1 hlt
      have hv := HV.out
      have st1 := st.2.1
      have ST := Lib.hid st
      clear c1 st
      generalize i.getD k 0 = x at *
      generalize prod (s.drop (k + 1)) = P at *
      have q1 : x * P ≤ 65536 := by omega
      have q2 : p + x * P ≤ 65536 := by omega
      have HV2 := Lib.hid hv
      clear hv n1 n2
      have e1 : IntKind.i64.wrap (x * P) = x * P := IntWalk.i64_in _ ⟨by omega, by omega⟩
      have e2 : IntKind.i64.wrap (p + x * P) = p + x * P := IntWalk.i64_in _ ⟨by omega, by omega⟩
      go_wp2
      go_quiet (fail)
      clear e1 e2
      go_wp2
      refine ⟨⟨k + 1, p + x * P, by omega, st1, q2, by go_num, rfl, ST, by first | exact below_drw hW _ | exact hW⟩, by simp [intOf]; omega⟩
    · obtain rfl : k = s.length := by omega
      obtain rfl := sum_end HK.out
      go_wp2
      go_ret
      exact ⟨rfl, hB1.trans (hW.mono hB1s)⟩

/-- Where a place's index is being told. -/
def Ati (s : List Int) (n N : Int) (k : Nat) : Prop := k ≤ s.length ∧ 0 ≤ N ∧ N < prod (s.drop k) ∧ atl (s.drop k) N = (atl s n).drop k
theorem ati_start {s : List Int} {n : Int} (h0 : 0 ≤ n) (h1 : n < prod s) : Ati s n n 0 := ⟨Nat.zero_le _, h0, by simpa using h1, by simp⟩
theorem ati_step {s : List Int} {n N : Int} {k : Nat} (h : Ati s n N k) (hp : pos s) (hk : k < s.length) : Ati s n (N % prod (s.drop (k + 1))) (k + 1) ∧ (atl s n).getD k 0 = N / prod (s.drop (k + 1)) := by
  obtain ⟨a, b, c, d⟩ := h
  have q := prod_pos (pos_drop hp (k + 1))
  rw [drop_getD hk, atl, drop_getD (show k < (atl s n).length by rw [atl_len]; exact hk)] at d
  simp only [List.cons.injEq] at d
  exact ⟨⟨by omega, Int.emod_nonneg _ (by omega), Int.emod_lt_of_pos _ (by omega), d.2⟩, d.1.symm⟩
theorem ati_bd {s : List Int} {n N : Int} {k : Nat} (h : Ati s n N k) (hm : may s = true) : 0 ≤ N ∧ N ≤ 65536 := by
  have := may_drop hm k
  exact ⟨h.2.1, by have := h.2.2.1; omega⟩

set_option maxRecDepth 100000 in
set_option maxHeartbeats 4000000 in
theorem rat_any (v : Value) (ls : List Int) (n : Int) (w : World) (h : Ld w v ls) (hm : may ls = true) (h0 : 0 ≤ n) (h1 : n < prod ls) :
    Calls Tryz.prog 50 #[v, .int .i64 n] w fun e w' => ∃ v, e = .returned v ∧ Ld w' v (atl ls n) ∧ Below w.heap.size w w' := by
  obtain ⟨i0, hi0, hz0, hz1, hz2⟩ := info_parts infoI
  have l4 := may_len hm
  have SC := Lib.hid (rstrides_any v ls w h hm)
  obtain ⟨o, c, rfl, _, hx⟩ := h
  have HP := Lib.hid (may_pos hm)
  have HD := Lib.hid (may_drop hm)
  have HM := Lib.hid hm
  have HS : Hid (Ati ls n n 0) := ati_start h0 h1
  clear hx hm
  go_enter Tryz.func50, Tryz.ntmps50
  have mk : ∀ W : World, Hid ((Instr.makeSlice 23 (.int .i64 (ls.length : Int)) (.int .i64 (ls.length : Int))).run Tryz.prog W = .ok (.slice (some ⟨W.heap.size, 0, none⟩) ls.length ls.length) (W.alloc (.cells (ints (List.replicate ls.length 0)).toArray 3))) := by
    intro W
    have := run_make (w := W) 23 3 i0 (.int .i64 0) Tryz.underlying23 hi0 hz0 .i64 .i64 ls.length ls.length (by omega) (by omega) (by rw [hz2]; omega) (by omega)
    rw [Hid, this, hz1, ← made_ints]; simp [Value.cells]
  have MK := Lib.hid mk
  clear mk
  go_wp2_with (go_at_call 111; (with_reducible refine SC.out.mono ?_); rintro e w1 ⟨rfl, hblk, hB1⟩; have mk := (MK.out w1).out)
  clear mk
  have hB1s := hB1.size
  have hgl := hblk.lt
  go_loopw [1, 7] (fun s1 s7 wr => ∃ (k : Nat) (N : Int) (L : List Int), k ≤ ls.length ∧ 0 ≤ N ∧ N ≤ 65536 ∧ s7 = .int .i64 k ∧ s1 = .int .i64 N ∧ Blk wr w.heap.size 3 (ints (stl ls)).toArray ∧ Blk wr w1.heap.size 3 (ints L).toArray ∧ Hid (Ati ls n N k) ∧ Hid (L.length = ls.length ∧ ∀ j, j < k → L.getD j 0 = (atl ls n).getD j 0) ∧ Below w.heap.size w wr) (fun _ s7 _ => ls.length - (intOf s7).toNat)
  case atStart => exact ⟨0, n, List.replicate ls.length 0, Nat.zero_le _, (ati_bd HS.out HM.out).1, (ati_bd HS.out HM.out).2, rfl, rfl, hblk.alloc _, Blk.new _ _ _, HS, ⟨by simp, fun j hj => absurd hj (Nat.not_lt_zero _)⟩, hB1.alloc hB1s _⟩
  case round =>
    obtain ⟨k, N, L, hk, n0, n1, rfl, rfl, hs, hb, HA, HL, hB⟩ := hrel
    by_cases hlt : k < ls.length
    · have sc := hs.cell k
      rw [ints_at (by rw [stl_len]; exact hlt), stl_getD ls k hlt] at sc
      have kc := hb.cell k
      have hL := HL.out.1
      rw [ints_at (by omega)] at kc
      have kf := hb.frozen k
      generalize L.getD k 0 = l0 at kc
      obtain ⟨st, ge⟩ := ati_step HA.out HP.out hlt
      have bd := ati_bd st HM.out
      have pp := HD.out (k + 1)
      have R : Hid ((L.set k (N / prod (ls.drop (k + 1)))).length = ls.length ∧ ∀ j, j < k + 1 → (L.set k (N / prod (ls.drop (k + 1)))).getD j 0 = (atl ls n).getD j 0) := by
        refine ⟨by simpa using hL, fun j hj => ?_⟩
        by_cases e : k = j
        · subst e; rw [set_getD_self (by omega), ge]
        · rw [set_getD_ne e]; exact HL.out.2 j (by omega)
      have ST := Lib.hid st
      have HL2 := Lib.hid hL
      clear st ge hL HL
      generalize prod (ls.drop (k + 1)) = P at *
      have pz : ¬ P = 0 := by omega
      obtain ⟨b1, b2⟩ := bd
      obtain ⟨pp1, pp2⟩ := pp
      have s1 := hs.far (p := ⟨w1.heap.size, k, none⟩) (by show w.heap.size ≠ w1.heap.size; omega) (.int .i64 (N / P))
      have sc2 := s1.cell k
      rw [hs.far (p := ⟨w1.heap.size, k, none⟩) (by show w.heap.size ≠ w1.heap.size; omega) (.int .i64 (N / P)) |>.cell k] at sc2
      have sc3 : (wr.setCell ⟨w1.heap.size, k, none⟩ (.int .i64 (N / P))).cell? ⟨w.heap.size, k, none⟩ = some (.int .i64 P) := by rw [s1.cell k, ← hs.cell k]; exact sc
      clear sc2
      go_wp2
      refine ⟨⟨k + 1, N % P, L.set k (N / P), by omega, b1, b2, by go_num, rfl, s1, hb.put k _, ST, R, hB.setCell hB1s _⟩, by simp [intOf]; omega⟩
    · obtain rfl : k = ls.length := by omega
      obtain rfl : L = atl ls n := ext_getD (by rw [atl_len]; exact HL.out.1) fun i hi => HL.out.2 i (by have := HL.out.1; omega)
      have hld := Ld.of_blk hb (c := ls.length) (by rw [atl_len]; exact Nat.le_refl _)
      rw [atl_len] at hld
      have HLD := Lib.hid hld
      clear hld
      go_wp2
      go_ret
      exact ⟨_, rfl, HLD.out, hB⟩

end Go.Proofs.YtmafgdinegboeaaGreat
namespace Go.Proofs.YtmafgdinegboeaaGreat
open Go.RowKit

end Go.Proofs.YtmafgdinegboeaaGreat
namespace Go.Proofs.YtmafgdinegboeaaGreat
open Go.RowKit
attribute [local go_sem ↓] Go.wp_at_zero Go.wp_at_succ

theorem grown_put {w W : World} {g k : Nat} (h : w.grownBy W (some g)) (v : Value) : w.grownBy (W.setCell ⟨g, k, none⟩ v) (some g) :=
  ⟨h.os, h.tape, h.output, by simpa using h.size, fun j hj hne => (Below.heap_setCell _ _ _ j (fun e => hne (by rw [e]))).trans (h.block j hj hne)⟩
theorem blk_new1 (w : World) (o : Obj) (t : TypeId) (cs : Array Value) : Blk ((w.alloc o).alloc (.cells cs t)) (w.heap.size + 1) t cs := by
  have := Blk.new (w.alloc o) t cs
  rwa [World.size_alloc] at this
end Go.Proofs.YtmafgdinegboeaaGreat
namespace Go.Proofs.YtmafgdinegboeaaGreat
open Go.RowKit

set_option maxRecDepth 100000 in
set_option maxHeartbeats 4000000 in
theorem eqw_any (va vb : Value) (a b : List Int) (w : World) (ha : Ld w va a) (hb : Ld w vb b) (la : a.length ≤ 17592186044416) (_lb : b.length ≤ 17592186044416) :
    Calls Tryz.prog 25 #[va, vb] w fun e w' => e = .returned (.bool (decide (a = b))) ∧ Below w.heap.size w w' := by
  obtain ⟨oa, ca, rfl, _, hxa⟩ := ha
  obtain ⟨ob, cb, rfl, _, hxb⟩ := hb
  have HA := Lib.hid hxa
  have HB := Lib.hid hxb
  clear hxa hxb
  by_cases hl : a.length = b.length
  · have HL := Lib.hid hl
    have HX : Hid ((∀ k, k < a.length → a.getD k 0 = b.getD k 0) → a = b) := ext_getD hl
    rw [← hl]
    clear hl _lb
    go_enter Tryz.func25, Tryz.ntmps25
    go_wp2
    go_loopw [5] (fun s5 wr => ∃ k : Nat, k ≤ a.length ∧ s5 = .int .i64 k ∧ Hid (∀ j, j < k → a.getD j 0 = b.getD j 0) ∧ Below w.heap.size w wr) (fun s5 _ => a.length - (intOf s5).toNat)
    case atStart => exact ⟨0, Nat.zero_le _, rfl, fun j hj => absurd hj (Nat.not_lt_zero _), Below.refl _ _⟩
    case round =>
      obtain ⟨k, hk, rfl, HK, hW⟩ := hrel
      by_cases hlt : k < a.length
      · obtain ⟨b1, f1, rfl, h1, c1⟩ := HA.out k hlt
        obtain ⟨b2, f2, rfl, h2, c2⟩ := HB.out k (by have := HL.out; omega)
        have c1' : wr.cell? ⟨b1, f1 + k, none⟩ = some (.int .i64 (a.getD k 0)) := (hW.cell (p := ⟨b1, f1 + k, none⟩) h1).trans c1
        have c2' : wr.cell? ⟨b2, f2 + k, none⟩ = some (.int .i64 (b.getD k 0)) := (hW.cell (p := ⟨b2, f2 + k, none⟩) h2).trans c2
        have HG : Hid (a.getD k 0 = b.getD k 0 → ∀ j, j < k + 1 → a.getD j 0 = b.getD j 0) := fun g j hj => by
          by_cases e : j = k
          · subst e; exact g
          · exact HK.out j (by omega)
        have HN : Hid (¬ a.getD k 0 = b.getD k 0 → decide (a = b) = false) := fun g => decide_eq_false (fun e => g (by rw [e]))
        clear c1 c2
        generalize a.getD k 0 = x at *
        generalize b.getD k 0 = y at *
        by_cases g : x = y
        · subst g
          have R := Lib.hid (HG.out rfl)
          go_wp2
          go_quiet (fail)
          go_wp2
          exact ⟨⟨k + 1, by omega, by go_num, R, by first | exact below_drw hW _ | exact hW⟩, by simp [intOf]; omega⟩
        · have R := Lib.hid (HN.out g)
          have g' : (x != y) = true := by rw [bne_iff_ne]; exact g
          clear g
          go_wp2
          go_quiet (fail)
          go_wp2
          go_ret
          exact ⟨by rw [R.out]; rfl, by first | exact below_drw hW _ | exact hW⟩
      · have e : Hid (decide (a = b) = true) := decide_eq_true (HX.out fun j hj => HK.out j (by omega))
        go_wp2
        go_ret
        exact ⟨by rw [e.out]; rfl, hW⟩
  · have e : Hid (decide (a = b) = false) := decide_eq_false (fun e => hl (by rw [e]))
    have hl2 : ((a.length : Int) != (b.length : Int)) = true := by rw [bne_iff_ne]; omega
    clear hl
    go_enter Tryz.func25, Tryz.ntmps25
    go_wp2
    go_ret
    exact ⟨by rw [e.out]; rfl, Below.refl _ _⟩

/-- Words alone? -/
def wds (l : List Int) : Bool := l.all fun x => decide (-140737488355328 < x) && decide (x < 140737488355328)
theorem wds_at {l : List Int} (h : wds l = true) {k : Nat} (hk : k < l.length) : -140737488355328 < l.getD k 0 ∧ l.getD k 0 < 140737488355328 := by
  unfold wds at h
  rw [List.all_eq_true] at h
  have := h (l.getD k 0) (getD_mem hk)
  simpa using this
theorem wds_no {l : List Int} {k : Nat} (hk : k < l.length) (h : ¬ (-140737488355328 < l.getD k 0 ∧ l.getD k 0 < 140737488355328)) : wds l = false := by
  cases e : wds l with
  | false => rfl
  | true => exact absurd (wds_at e hk) h
theorem wds_yes {l : List Int} (h : ∀ k, k < l.length → -140737488355328 < l.getD k 0 ∧ l.getD k 0 < 140737488355328) : wds l = true := by
  unfold wds
  rw [List.all_eq_true]
  intro x hx
  obtain ⟨i, hi, rfl⟩ := List.mem_iff_getElem.1 hx
  have := h i hi
  simp only [List.getD, List.getElem?_eq_getElem hi, Option.getD_some] at this
  simpa using this
set_option maxRecDepth 100000 in
set_option maxHeartbeats 4000000 in
theorem may2_any (x : Int) (w : World) : Calls Tryz.prog 110 #[.int .i64 x] w fun e w' => e = .returned (.bool (decide (-140737488355328 < x) && decide (x < 140737488355328))) ∧ w = w' := by
  by_cases g1 : -140737488355328 < x
  · by_cases g2 : x < 140737488355328
    · have b1 := decide_eq_true g1
      have b2 := decide_eq_true g2
      rw [b1, b2]
      go_enter Tryz.func110, Tryz.ntmps110
      go_wp2
      go_ret
      exact ⟨rfl, rfl⟩
    · have b1 := decide_eq_true g1
      have b2 := decide_eq_false g2
      rw [b1, b2]
      go_enter Tryz.func110, Tryz.ntmps110
      go_wp2
      go_ret
      exact ⟨rfl, rfl⟩
  · have b1 := decide_eq_false g1
    rw [b1]
    go_enter Tryz.func110, Tryz.ntmps110
    go_wp2
    go_ret
    exact ⟨rfl, rfl⟩

set_option maxRecDepth 100000 in
set_option maxHeartbeats 4000000 in
theorem words_any (v : Value) (l : List Int) (w : World) (h : Ld w v l) (hl : l.length ≤ 9223372036854775807) : Calls Tryz.prog 47 #[v] w fun e w' => e = .returned (.bool (wds l)) ∧ w = w' := by
  obtain ⟨o, c, rfl, _, hx⟩ := h
  have HX := Lib.hid hx
  clear hx
  go_enter Tryz.func47, Tryz.ntmps47
  go_wp2
  go_loop [3] (fun s3 => ∃ k : Nat, k ≤ l.length ∧ s3 = .int .i64 k ∧ Hid (∀ j, j < k → -140737488355328 < l.getD j 0 ∧ l.getD j 0 < 140737488355328)) (fun s3 => l.length - (intOf s3).toNat)
  case atStart => exact ⟨0, Nat.zero_le _, rfl, fun j hj => absurd hj (Nat.not_lt_zero _)⟩
  case round =>
    obtain ⟨k, hk, rfl, HK⟩ := hrel
    by_cases hlt : k < l.length
    · obtain ⟨b, f, rfl, _, hc⟩ := HX.out k hlt
      have HY : Hid ((decide (-140737488355328 < l.getD k 0) && decide (l.getD k 0 < 140737488355328)) = true → ∀ j, j < k + 1 → -140737488355328 < l.getD j 0 ∧ l.getD j 0 < 140737488355328) := fun g j hj => by
        by_cases e : j = k
        · subst e; simpa using g
        · exact HK.out j (by omega)
      have HN : Hid ((decide (-140737488355328 < l.getD k 0) && decide (l.getD k 0 < 140737488355328)) = false → wds l = false) := fun g => wds_no hlt (fun e => by rw [decide_eq_true e.1, decide_eq_true e.2] at g; cases g)
      generalize l.getD k 0 = x at *
      have KM := Lib.hid (fun (W : World) => may2_any x W)
      cases gg : (decide (-140737488355328 < x) && decide (x < 140737488355328)) with
      | true =>
        rw [gg] at KM
        have R := Lib.hid (HY.out gg)
        clear gg
        go_wp2_with (go_at_call 110; (with_reducible refine (KM.out _).mono ?_); rintro e w' ⟨rfl, rfl⟩)
        exact ⟨⟨k + 1, by omega, by go_num, R⟩, by simp [intOf]; omega⟩
      | false =>
        rw [gg] at KM
        have R := Lib.hid (HN.out gg)
        clear gg
        go_wp2_with (go_at_call 110; (with_reducible refine (KM.out _).mono ?_); rintro e w' ⟨rfl, rfl⟩)
        go_ret
        exact ⟨by rw [R.out]; rfl, rfl⟩
    · obtain rfl : k = l.length := by omega
      have R := Lib.hid (wds_yes HK.out)
      clear hlt
      go_wp2
      go_ret
      exact ⟨by rw [R.out]; rfl, rfl⟩
end Go.Proofs.YtmafgdinegboeaaGreat
namespace Go.Proofs.YtmafgdinegboeaaGreat
open Go.RowKit

/-- A tensor? -/
def tnb (ts tds : List Int) : Bool := may ts && decide ((tds.length : Int) = prod ts) && wds tds
end Go.Proofs.YtmafgdinegboeaaGreat
namespace Go.Proofs.YtmafgdinegboeaaGreat
open Go.RowKit Go.Shelf
attribute [local go_sem] Oper.semAt_some

theorem blk2 {W : World} {b : Nat} {t : TypeId} {x y : Value} (h : Blk W b t #[x, y]) : W.cell? ⟨b, 0, none⟩ = some x ∧ W.cell? ⟨b, 1, none⟩ = some y ∧ W.frozen? ⟨b, 0, none⟩ = false ∧ W.frozen? ⟨b, 1, none⟩ = false :=
  ⟨h.cell 0, h.cell 1, h.frozen 0, h.frozen 1⟩
/-- A tensor in new memory, and an error. -/
def SomeT (w : World) (er : Int) (sh ds : List Int) (e : Ending) (w' : World) : Prop := ∃ os cs od cd, e = .returned (.tuple #[.agg #[.slice os sh.length cs, .slice od ds.length cd], .int .i64 er]) ∧ w'.ownsRow w.heap.size 3 1 (.slice os sh.length cs) sh.length (ints sh) ∧ w'.ownsRow w.heap.size 2 1 (.slice od ds.length cd) ds.length (ints ds) ∧ Below w.heap.size w w'
theorem infoW : (Tryz.prog.info? 2).map (fun i => (i.zero, i.size, i.bytes)) = some (some (.int .i64 0), 1, 8) := by kernel_rfl

theorem tens_not_row {w : World} {base n b : Nat} {v : Value} {xs : List Value} {cs : Array Value} {t u : TypeId} (h : w.ownsRow base t 1 v n xs) (hb : Blk w b u cs) (hne : t ≠ u) : ¬ v.ownBlock = some b := by
  intro e
  rcases h.2 with ⟨rfl, _⟩ | ⟨g, cap, cur, rfl, _, hh, _⟩
  · simp [Value.ownBlock] at e
  · simp only [Value.ownBlock, Option.some.injEq] at e
    subst e
    have := hh.symm.trans hb
    simp only [Option.some.injEq, Obj.cells.injEq] at this
    exact hne this.2.1
end Go.Proofs.YtmafgdinegboeaaGreat
namespace Go.Proofs.YtmafgdinegboeaaGreat

end Go.Proofs.YtmafgdinegboeaaGreat
namespace Go.Proofs.YtmafgdinegboeaaGreat
open Go.RowKit

/-- Words in new memory. -/
def SomeWd (w : World) (ls : List Int) (e : Ending) (w' : World) : Prop := ∃ o c, e = .returned (.slice o ls.length c) ∧ w'.ownsRow w.heap.size 2 1 (.slice o ls.length c) ls.length (ints ls) ∧ Ld w' (.slice o ls.length c) ls ∧ Below w.heap.size w w'
end Go.Proofs.YtmafgdinegboeaaGreat
namespace Go.Proofs.YtmafgdinegboeaaGreat
open Go.RowKit


end Go.Proofs.YtmafgdinegboeaaGreat
namespace Go.Proofs.YtmafgdinegboeaaGreat
open Go.RowKit

end Go.Proofs.YtmafgdinegboeaaGreat
namespace Go.Proofs.YtmafgdinegboeaaGreat
open Go.RowKit


theorem own_len {w : World} {base n : Nat} {e : TypeId} {v : Value} {xs : List Value} (h : w.ownsRow base e 1 v n xs) : ∃ o c, v = .slice o n c := by
  rcases h.2 with ⟨rfl, rfl⟩ | ⟨g, cap, cur, rfl, _⟩
  · exact ⟨_, _, rfl⟩
  · exact ⟨_, _, rfl⟩
theorem own_put2 {w : World} {base g c i n : Nat} {ls : List Int} {e : TypeId} (h : w.ownsRow base e 1 (.slice (some ⟨g, 0, none⟩) n c) n (ints ls)) (hl : ls.length = n) (hi : i < n) (v : Int) : (w.setCell ⟨g, i, none⟩ (.int .i64 v)).ownsRow base e 1 (.slice (some ⟨g, 0, none⟩) n c) n (ints (ls.set i v)) := by
  subst hl
  have := own_put h hi v
  rwa [List.length_set] at this

set_option maxRecDepth 100000 in
set_option maxHeartbeats 4000000 in
theorem numberso_any (base : Nat) (v : Value) (ls : List Int) (w : World) (h : w.ownsRow base 3 1 v ls.length (ints ls)) (hb : base ≤ w.heap.size) (hl : ls.length ≤ 65536) :
    Calls Tryz.prog 130 #[v] w fun e w' => e = .returned (.tuple #[]) ∧ w.grownBy w' v.ownBlock := by
  obtain ⟨i0, hi0, hz0, hz1, hz2⟩ := info_parts infoI
  obtain ⟨n, hn⟩ : ∃ n, n = ls.length := ⟨_, rfl⟩
  have HLN := Lib.hid hn
  rw [← hn] at h hl
  clear hn
  obtain ⟨o, c, rfl⟩ := own_len h
  have H0 : Hid (w.ownsRow base 3 1 (.slice o n c) n (ints ls)) := h
  have HF := Lib.hid (fun (h0 : 0 < n) => own_some h h0)
  clear h
  go_enter Tryz.func130, Tryz.ntmps130
  go_wp2
  go_loopw [2] (fun s2 wr => ∃ (k : Nat) (L : List Int), k ≤ n ∧ s2 = .int .i64 k ∧ Hid (L.length = n) ∧ Hid (wr.ownsRow base 3 1 (.slice o n c) n (ints L)) ∧ Hid (w.grownBy wr (Value.slice o n c).ownBlock)) (fun s2 _ => n - (intOf s2).toNat)
  case atStart => exact ⟨0, ls, Nat.zero_le _, rfl, HLN.out.symm, H0.out, World.grownBy.refl _ _⟩
  case round =>
    obtain ⟨k, L, hk, rfl, HL, HO, HG⟩ := hrel
    by_cases hlt : k < n
    · obtain ⟨g, rfl⟩ := HF.out (by omega)
      have kc : wr.cell? ⟨g, k, none⟩ = some (.int .i64 (L.getD k 0)) := by
        have h1 := HO.out
        rw [← HL.out] at h1
        exact own_cell h1 (by have := HL.out; omega)
      have kf := own_frozen HO.out k
      generalize L.getD k 0 = x at kc
      go_wp2
      refine ⟨⟨k + 1, L.set k (-99), by omega, by go_num, by have := HL.out; simpa [Hid] using this, own_put2 HO.out HL.out hlt _, grown_put HG.out _⟩, by simp [intOf]; omega⟩
    · go_wp2_with (at_builtin; refine wpList_append_own _ rfl _ _ 23 rfl base 3 i0 (.int .i64 0) 1 8 Tryz.underlying23 hi0 hz0 hz1 hz2 rfl (by decide) _ n (ints L) rfl (HO.out.alloc _) ⟨wr.heap.size, 0, none⟩ 1 1 [.int .i64 5] rfl rfl ?c1 ?c2 ?c3 ?c4 ?c5 ?_)
      case c1 => exact (cell_one_new _ _ _)
      case c2 => simp [Value.oneCell']
      case c3 => unfold maxLen; omega
      case c4 => omega
      case c5 => have := HG.out.size; simp; omega
      intro v' w9 _ hgrow _
      have h1 := HG.out
      have h2 : w.grownBy w9 (Value.slice o n c).ownBlock := ⟨hgrow.os.trans h1.os, hgrow.tape.trans h1.tape, hgrow.output.trans h1.output, Nat.le_trans h1.size (Nat.le_trans (by simp) hgrow.size), fun j hj hne => (hgrow.block j (by have := h1.size; simp; omega) hne).trans ((Below.heap_alloc _ _ _ (by have := h1.size; omega)).trans (h1.block j hj hne))⟩
      have H2 := Lib.hid h2
      clear h1 h2 hgrow
      go_wp2
      refine bodyPost_end (results_none rfl _ _ _) rfl ?_
      exact ⟨rfl, H2.out⟩

/-- Views' boxes are kept. -/
def KB (w w' : World) : Prop := ∀ (B : Nat) (cs : Array Value), Blk w B 168 cs → Blk w' B 168 cs
theorem KB.trans {a b c : World} (h : KB a b) (k : KB b c) : KB a c := fun B cs hB => k B cs (h B cs hB)
end Go.Proofs.YtmafgdinegboeaaGreat
namespace Go.Proofs.YtmafgdinegboeaaGreat
open Go.RowKit

set_option maxRecDepth 100000 in
set_option maxHeartbeats 4000000 in
theorem wordso_any (base : Nat) (v : Value) (ls : List Int) (w : World) (h : w.ownsRow base 2 1 v ls.length (ints ls)) (hb : base ≤ w.heap.size) (hl : ls.length ≤ 65536) :
    Calls Tryz.prog 131 #[v] w fun e w' => e = .returned (.tuple #[]) ∧ w.grownBy w' v.ownBlock := by
  obtain ⟨i0, hi0, hz0, hz1, hz2⟩ := info_parts infoW
  obtain ⟨n, hn⟩ : ∃ n, n = ls.length := ⟨_, rfl⟩
  have HLN := Lib.hid hn
  rw [← hn] at h hl
  clear hn
  obtain ⟨o, c, rfl⟩ := own_len h
  have H0 : Hid (w.ownsRow base 2 1 (.slice o n c) n (ints ls)) := h
  have HF := Lib.hid (fun (h0 : 0 < n) => own_some h h0)
  clear h
  go_enter Tryz.func131, Tryz.ntmps131
  go_wp2
  go_loopw [2] (fun s2 wr => ∃ (k : Nat) (L : List Int), k ≤ n ∧ s2 = .int .i64 k ∧ Hid (L.length = n) ∧ Hid (wr.ownsRow base 2 1 (.slice o n c) n (ints L)) ∧ Hid (w.grownBy wr (Value.slice o n c).ownBlock)) (fun s2 _ => n - (intOf s2).toNat)
  case atStart => exact ⟨0, ls, Nat.zero_le _, rfl, HLN.out.symm, H0.out, World.grownBy.refl _ _⟩
  case round =>
    obtain ⟨k, L, hk, rfl, HL, HO, HG⟩ := hrel
    by_cases hlt : k < n
    · obtain ⟨g, rfl⟩ := HF.out (by omega)
      have kc : wr.cell? ⟨g, k, none⟩ = some (.int .i64 (L.getD k 0)) := by
        have h1 := HO.out
        rw [← HL.out] at h1
        exact own_cell h1 (by have := HL.out; omega)
      have kf := own_frozen HO.out k
      generalize L.getD k 0 = x at kc
      go_wp2
      refine ⟨⟨k + 1, L.set k (-9999), by omega, by go_num, by have := HL.out; simpa [Hid] using this, own_put2 HO.out HL.out hlt _, grown_put HG.out _⟩, by simp [intOf]; omega⟩
    · go_wp2_with (at_builtin; refine wpList_append_own _ rfl _ _ 24 rfl base 2 i0 (.int .i64 0) 1 8 Tryz.underlying24 hi0 hz0 hz1 hz2 rfl (by decide) _ n (ints L) rfl (HO.out.alloc _) ⟨wr.heap.size, 0, none⟩ 1 1 [.int .i64 5] rfl rfl ?c1 ?c2 ?c3 ?c4 ?c5 ?_)
      case c1 => exact (cell_one_new _ _ _)
      case c2 => simp [Value.oneCell']
      case c3 => unfold maxLen; omega
      case c4 => omega
      case c5 => have := HG.out.size; simp; omega
      intro v' w9 _ hgrow _
      have h1 := HG.out
      have h2 : w.grownBy w9 (Value.slice o n c).ownBlock := ⟨hgrow.os.trans h1.os, hgrow.tape.trans h1.tape, hgrow.output.trans h1.output, Nat.le_trans h1.size (Nat.le_trans (by simp) hgrow.size), fun j hj hne => (hgrow.block j (by have := h1.size; simp; omega) hne).trans ((Below.heap_alloc _ _ _ (by have := h1.size; omega)).trans (h1.block j hj hne))⟩
      have H2 := Lib.hid h2
      clear h1 h2 hgrow
      go_wp2
      refine bodyPost_end (results_none rfl _ _ _) rfl ?_
      exact ⟨rfl, H2.out⟩

set_option maxRecDepth 100000 in
set_option maxHeartbeats 4000000 in
theorem copywords_any (v : Value) (ls : List Int) (w : World) (h : Ld w v ls) (ll : ls.length ≤ 17592186044000) :
    Calls Tryz.prog 59 #[v] w (SomeWd w ls) := by
  obtain ⟨i0, hi0, hz0, hz1, hz2⟩ := info_parts infoW
  obtain ⟨o, c, rfl, _, hx⟩ := h
  have HX := Lib.hid hx
  clear hx
  go_enter Tryz.func59, Tryz.ntmps59
  go_wp2
  go_loopw [3, 4] (fun s3 s4 wr => ∃ k : Nat, k ≤ ls.length ∧ s4 = .int .i64 k ∧ Hid (wr.ownsRow w.heap.size 2 1 s3 k (ints (ls.take k))) ∧ Below w.heap.size w wr) (fun _ s4 _ => ls.length - (intOf s4).toNat)
  case atStart => exact ⟨0, Nat.zero_le _, rfl, World.ownsRow_nil _ _ _ _, Below.refl _ _⟩
  case round =>
    obtain ⟨k, hk, rfl, HO, hB⟩ := hrel
    have hBs := hB.size
    by_cases hlt : k < ls.length
    · obtain ⟨b, f, rfl, hb, hc⟩ := HX.out k hlt
      have hc' : wr.cell? ⟨b, f + k, none⟩ = some (.int .i64 (ls.getD k 0)) := (hB.cell (p := ⟨b, f + k, none⟩) hb).trans hc
      have E : Hid (ints (ls.take (k + 1)) = ints (ls.take k) ++ [.int .i64 (ls.getD k 0)]) := by
        unfold Hid ints
        rw [List.take_succ_eq_append_getElem hlt, List.map_append]
        simp [List.getD, List.getElem?_eq_getElem hlt]
      clear hc
      generalize ls.getD k 0 = x at *
      go_wp2_with (at_builtin; refine wpList_append_own _ rfl _ _ 24 rfl w.heap.size 2 i0 (.int .i64 0) 1 8 Tryz.underlying24 hi0 hz0 hz1 hz2 rfl (by decide) _ k (ints (ls.take k)) rfl (HO.out.alloc _) ⟨wr.heap.size, 0, none⟩ 1 1 [.int .i64 x] rfl rfl ?c1 ?c2 ?c3 ?c4 ?c5 ?_)
      case c1 => exact (cell_one_new _ _ _)
      case c2 => simp [Value.oneCell']
      case c3 => unfold maxLen; omega
      case c4 => omega
      case c5 => simp; omega
      intro v' w9 hown1 hgrow _
      have hB9 : Below w.heap.size w w9 := (hB.alloc hBs _).grown hgrow (by simp; omega) (fun j hj => (HO.out.lt j hj).1)
      have h1 : Hid (w9.ownsRow w.heap.size 2 1 v' (k + 1) (ints (ls.take (k + 1)))) := by
        rw [Hid, E.out]; exact hown1
      clear hown1 hgrow
      go_wp2
      exact ⟨⟨k + 1, by omega, by go_num, h1, hB9⟩, by simp [intOf]; omega⟩
    · obtain rfl : k = ls.length := by omega
      have h1 := HO.out
      rw [List.take_length] at h1
      obtain ⟨o2, c2, rfl, hld⟩ := Ld.of_owns h1
      have H1 := Lib.hid (And.intro h1 hld)
      clear h1 hld HO
      go_wp2
      go_ret
      exact ⟨o2, c2, rfl, H1.out.1, H1.out.2, hB⟩

end Go.Proofs.YtmafgdinegboeaaGreat
namespace Go.Proofs.YtmafgdinegboeaaGreat
open Go.RowKit Go.Shelf

set_option maxRecDepth 100000 in
set_option maxHeartbeats 4000000 in
theorem eqtensor_same (va vb ua ub : Value) (a b : List Int) (w : World) (ha : Ld w va a) (hb : Ld w vb b) (hc : Ld w ua a) (hd : Ld w ub b) (l1 : a.length ≤ 17592186044416) (l2 : b.length ≤ 17592186044416) :
    Calls Tryz.prog 19 #[.agg #[va, vb], .agg #[ua, ub]] w fun e w' => e = .returned (.bool true) ∧ Below w.heap.size w w' := by
  have hB0 : Below w.heap.size w ((w.alloc (.cells #[va, vb] 26)).alloc (.cells #[ua, ub] 26)) := ((Below.refl _ _).alloc (Nat.le_refl _) _).alloc (by simp) _
  have X0 := Lib.hid ((Blk.new w 26 #[va, vb]).alloc (.cells #[ua, ub] 26))
  have X1 := Lib.hid (blk_new1 w (.cells #[va, vb] 26) 26 #[ua, ub])
  have C1 : Hid (∀ n, ((w.alloc (.cells #[va, vb] 26)).alloc (.cells #[ua, ub] 26)).heap.size = n → Calls Tryz.prog 16 #[va, ua] ((w.alloc (.cells #[va, vb] 26)).alloc (.cells #[ua, ub] 26)) fun e w' => e = .returned (.bool true) ∧ Below n ((w.alloc (.cells #[va, vb] 26)).alloc (.cells #[ua, ub] 26)) w') := fun n hn => by
    subst hn
    have := eqn_any va ua a a _ (ha.below hB0) (hc.below hB0) l1 l1
    rwa [show decide (a = a) = true by simp] at this
  have C2 : Hid (∀ W, Below w.heap.size w W → Calls Tryz.prog 25 #[vb, ub] W fun e w' => e = .returned (.bool true) ∧ Below W.heap.size W w') := fun W hW => by
    have := eqw_any vb ub b b _ (hb.below hW) (hd.below hW) l2 l2
    rwa [show decide (b = b) = true by simp] at this
  replace C1 := Lib.hid (C1.out (w.heap.size + 2) (by simp))
  obtain ⟨o1, n1, rfl, _, _⟩ := ha
  obtain ⟨o2, n2, rfl, _, _⟩ := hb
  obtain ⟨o3, n3, rfl, _, _⟩ := hc
  obtain ⟨o4, n4, rfl, _, _⟩ := hd
  have HB0 := Lib.hid hB0
  clear hB0
  go_enter Tryz.func19, Tryz.ntmps19
  go_wp2_with (first
    | (go_at_call 16; (with_reducible refine C1.out.mono ?_); rintro e w2 ⟨rfl, hb2⟩; have b2 := HB0.out.trans (hb2.mono (by omega)); have Z0 := Lib.hid (X0.out.below hb2 (by omega)); have Z1 := Lib.hid (X1.out.below hb2 (by omega)); obtain ⟨c0, c1, _⟩ := blk2 Z0.out; obtain ⟨d0, d1, _⟩ := blk2 Z1.out; clear hb2)
    | (go_at_call 25; (with_reducible refine (C2.out _ b2).mono ?_); rintro e w3 ⟨rfl, hb3⟩; have b3 := b2.trans (hb3.mono b2.size); clear hb3))
  go_ret
  exact ⟨rfl, b3⟩

end Go.Proofs.YtmafgdinegboeaaGreat
namespace Go.Proofs.YtmafgdinegboeaaGreat
open Go Go.RowKit Go.Shelf

theorem own_two {X : World} {b base n : Nat} {e : TypeId} {v : Value} {xs : List Value} {cs : Array Value} (hO : X.ownsRow base e 1 v n xs) (hb : Blk X b 26 cs) (hne : e ≠ 26) (u1 u2 : Value) :
    ((X.setCell ⟨b, 0, none⟩ u1).setCell ⟨b, 1, none⟩ u2).ownsRow base e 1 v n xs := by
  have h1 := hO.kept (grown_set X ⟨b, 0, none⟩ u1) (.inr (tens_not_row hO hb hne))
  exact h1.kept (grown_set _ ⟨b, 1, none⟩ u2) (.inr (tens_not_row h1 (hb.set_ 0 u1) hne))
end Go.Proofs.YtmafgdinegboeaaGreat
namespace Go.Proofs.YtmafgdinegboeaaGreat
open Go.RowKit

set_option maxRecDepth 100000 in
set_option maxHeartbeats 4000000 in
theorem spreads_any (vs vt : Value) (s t : List Int) (w : World) (hs : Ld w vs s) (ht : Ld w vt t) (ms : may s = true) (mt : may t = true) :
    Calls Tryz.prog 197 #[vs, vt] w fun e w' => e = .returned (.bool (goes s t)) ∧ w = w' := by
  have ls := may_len ms
  have lt := may_len mt
  have OA := Lib.hid (fun (j : Nat) (j1 : 1 ≤ j) (j2 : j ≤ 1073741824) => over_any vs s w hs (by omega) j j1 j2)
  obtain ⟨os, cs, rfl, _, _⟩ := hs
  obtain ⟨ot, ct, rfl, _, hxt⟩ := ht
  have HT := Lib.hid hxt
  have E : Hid (goes s t = (decide (s.length ≤ t.length) && gN s t t.length)) := goes_is ms mt
  clear hxt ms mt
  by_cases h0 : t.length < s.length
  · have E0 : Hid (goes s t = false) := by
      rw [Hid, E.out]
      have : ¬ s.length ≤ t.length := by omega
      simp [this]
    go_enter Tryz.func197, Tryz.ntmps197
    go_wp2
    go_ret
    exact ⟨by rw [E0.out]; rfl, rfl⟩
  · have E1 : Hid (goes s t = gN s t t.length) := by
      rw [Hid, E.out]
      have : s.length ≤ t.length := by omega
      simp [this]
    clear E
    have HO : Hid (∀ k, k < t.length → ov t (t.length - k) = t.getD k 0) := fun k hk => ov_at hk
    have HG : Hid (gN s t t.length = true ↔ ∀ j, 1 ≤ j → j ≤ t.length → ov s j = 1 ∨ ov s j = ov t j) := gN_iff s t t.length
    generalize hn : t.length = n at *
    clear hn
    go_enter Tryz.func197, Tryz.ntmps197
    go_wp2
    go_loop [15] (fun s15 => ∃ k : Nat, k ≤ n ∧ s15 = .int .i64 k ∧ Hid (∀ j, n - k < j → j ≤ n → ov s j = 1 ∨ ov s j = ov t j)) (fun s15 => n - (intOf s15).toNat)
    case atStart => exact ⟨0, Nat.zero_le _, rfl, fun j h1 h2 => by omega⟩
    case round =>
      obtain ⟨k, hk, rfl, HK⟩ := hrel
      by_cases hlt : k < n
      · obtain ⟨b, f, rfl, hb, hc⟩ := HT.out k hlt
        obtain ⟨j, hj⟩ : ∃ j, j = n - k := ⟨_, rfl⟩
        have ej : (n : Int) - (k : Int) = (j : Int) := by omega
        have O1 := Lib.hid (OA.out j (by omega) (by omega))
        have ho := HO.out k hlt
        rw [← hj] at ho
        rw [← ho] at hc
        have HY : Hid (ov s j = 1 ∨ ov s j = ov t j → ∀ i, n - (k + 1) < i → i ≤ n → ov s i = 1 ∨ ov s i = ov t i) := fun g i h1 h2 => by
          by_cases e : i = j
          · subst e; exact g
          · exact HK.out i (by omega) h2
        have HN : Hid (¬ (ov s j = 1 ∨ ov s j = ov t j) → gN s t n = false) := fun g => by
          cases h : gN s t n with
          | false => rfl
          | true => exact absurd (HG.out.1 h j (by omega) (by omega)) g
        clear ho
        generalize ov s j = x at *
        generalize ov t j = d at *
        have HJ := Lib.hid hj
        clear hj
        by_cases g1 : x = 1
        · subst g1
          have R := Lib.hid (HY.out (.inl rfl))
          go_wp2_with (go_at_call 216; (with_reducible refine O1.out.mono ?_); rintro e w' ⟨rfl, rfl⟩)
          refine ⟨⟨k + 1, by omega, by go_num, R⟩, by simp [intOf]; omega⟩
        have b1 : (x != 1) = true := by rw [bne_iff_ne]; exact g1
        by_cases g2 : x = d
        · subst g2
          have R := Lib.hid (HY.out (.inr rfl))
          clear g1
          go_wp2_with (go_at_call 216; (with_reducible refine O1.out.mono ?_); rintro e w' ⟨rfl, rfl⟩)
          refine ⟨⟨k + 1, by omega, by go_num, R⟩, by simp [intOf]; omega⟩
        have b2 : (x != d) = true := by rw [bne_iff_ne]; exact g2
        have R := Lib.hid (HN.out (fun h => h.elim g1 g2))
        clear g1 g2
        go_wp2_with (go_at_call 216; (with_reducible refine O1.out.mono ?_); rintro e w' ⟨rfl, rfl⟩)
        go_ret
        exact ⟨by rw [E1.out, R.out]; rfl, rfl⟩
      · have R : Hid (gN s t n = true) := HG.out.2 fun j h1 h2 => HK.out j (by omega) h2
        go_wp2
        go_ret
        exact ⟨by rw [E1.out, R.out]; rfl, rfl⟩

set_option maxRecDepth 100000 in
set_option maxHeartbeats 2000000 in
theorem under_ok (vs vt vi : Value) (s t i : List Int) (w : World) (hs : Ld w vs s) (ht : Ld w vt t) (hi : Ld w vi i) (ms : may s = true) (mt : may t = true) (hg : goes s t = true) (hx : inx t i = true) :
    Calls Tryz.prog 150 #[vs, vt, vi] w fun e w' => e = .returned (.tuple #[.int .i64 (und s i), .int .i64 0]) ∧ w = w' := by
  have hl := inx_len hx
  have l4 := may_len mt
  have hst : s.length ≤ t.length := by
    have := hg
    rw [goes_is ms mt] at this
    simp only [Bool.and_eq_true, decide_eq_true_eq] at this
    exact this.1
  have CS := Lib.hid (check_ok vs s w hs ms)
  have CT := Lib.hid (check_ok vt t w ht mt)
  have G := Lib.hid (spreads_any vs vt s t w hs ht ms mt)
  have W := Lib.hid (inside_any vi vt i t w hi ht (by omega))
  have U := Lib.hid (under_any vs vi s i w hs hi ms (by omega) (by omega) (under_inx ms mt hg hx))
  rw [hx] at W
  rw [hg] at G
  clear hs ht hi ms mt hg hx hl l4 hst
  go_enter Tryz.func150, Tryz.ntmps150
  go_wp2_with (first | (go_at_call 124; (with_reducible refine CS.out.mono ?_); rintro e w' ⟨rfl, rfl⟩) | (go_at_call 124; (with_reducible refine CT.out.mono ?_); rintro e w' ⟨rfl, rfl⟩) | (go_at_call 197; (with_reducible refine G.out.mono ?_); rintro e w' ⟨rfl, rfl⟩) | (go_at_call 198; (with_reducible refine W.out.mono ?_); rintro e w' ⟨rfl, rfl⟩) | (go_at_call 199; (with_reducible refine U.out.mono ?_); rintro e w' ⟨rfl, rfl⟩))
  go_ret2
  exact ⟨rfl, rfl⟩
end Go.Proofs.YtmafgdinegboeaaGreat
namespace Go.Proofs.YtmafgdinegboeaaGreat
open Go Go.RowKit Go.Shelf

theorem tnb_parts {sh ds : List Int} (h : tnb sh ds = true) : may sh = true ∧ (ds.length : Int) = prod sh ∧ wds ds = true := by
  unfold tnb at h
  simp only [Bool.and_eq_true, decide_eq_true_eq] at h
  exact ⟨h.1.1, h.1.2, h.2⟩
set_option maxRecDepth 100000 in
set_option maxHeartbeats 4000000 in
theorem echeck_any (vs vd : Value) (sh ds : List Int) (w : World) (hs : Ld w vs sh) (hd : Ld w vd ds) (_ls : sh.length ≤ 17592186044416) (ld : ds.length ≤ 17592186044416) :
    Calls Tryz.prog 83 #[.agg #[vs, vd]] w fun e w' => e = .returned (.int .i64 (if tnb sh ds = true then 0 else 1)) ∧ Below w.heap.size w w' := by
  obtain ⟨RR, hRR⟩ : ∃ RR : Int, RR = if tnb sh ds = true then 0 else 1 := ⟨_, rfl⟩
  rw [← hRR]
  have HRR := Lib.hid hRR
  clear hRR
  have B0 := Lib.hid ((Below.refl w.heap.size w).alloc (Nat.le_refl _) (.cells #[vs, vd] 26))
  obtain ⟨op, cp, rfl, _, _⟩ := id hs
  obtain ⟨od, cd, rfl, _, hx⟩ := id hd
  have HX := Lib.hid hx
  have WC := Lib.hid (fun (v : Int) (W : World) => check_any v W)
  cases hm : may sh with
  | false =>
    have C := Lib.hid (count_no _ sh _ (hs.below B0.out) hm)
    have E : Hid (tnb sh ds = false) := by unfold tnb; rw [hm]; exact Lib.hid (by simp)
    clear hs hd hm hx
    go_enter Tryz.func83, Tryz.ntmps83
    go_wp2_with (go_at_call 147; (with_reducible refine C.out.mono ?_); rintro e w' ⟨rfl, rfl⟩)
    go_ret
    exact ⟨by rw [HRR.out, E.out]; rfl, B0.out⟩
  | true =>
    have C := Lib.hid (count_ok _ sh _ (hs.below B0.out) hm)
    have E : Hid (tnb sh ds = (decide ((ds.length : Int) = prod sh) && wds ds)) := by unfold tnb; rw [hm]; exact Lib.hid (by simp)
    clear hs hd hm hx
    generalize prod sh = n at *
    by_cases q : (ds.length : Int) = n
    · have b1 : ((ds.length : Int) != n) = false := by simpa using q
      have E2 : Hid (tnb sh ds = wds ds) := by rw [Hid, E.out, decide_eq_true q, Bool.true_and]
      clear q E
      go_enter Tryz.func83, Tryz.ntmps83
      go_wp2_with (go_at_call 147; (with_reducible refine C.out.mono ?_); rintro e w' ⟨rfl, rfl⟩)
      go_loopw [25] (fun s25 wr => ∃ k : Nat, k ≤ ds.length ∧ s25 = .int .i64 k ∧ Hid (∀ j, j < k → wd (ds.getD j 0) = true) ∧ Hid (Below w.heap.size w wr)) (fun s25 _ => ds.length - (intOf s25).toNat)
      case atStart => exact ⟨0, Nat.zero_le _, rfl, fun j hj => absurd hj (Nat.not_lt_zero _), B0⟩
      case round =>
        obtain ⟨k, hk, rfl, HK, HB⟩ := hrel
        by_cases hlt : k < ds.length
        · obtain ⟨b, f, rfl, h1, c1⟩ := HX.out k hlt
          have c2 : wr.cell? ⟨b, f + k, none⟩ = some (.int .i64 (ds.getD k 0)) := (HB.out.cell (p := ⟨b, f + k, none⟩) h1).trans c1
          clear c1
          cases g : wd (ds.getD k 0) with
          | true =>
            have HG : Hid (∀ j, j < k + 1 → wd (ds.getD j 0) = true) := fun j hj => by
              by_cases e : j = k
              · rw [e]; exact g
              · exact HK.out j (by omega)
            have W1 := WC.out (ds.getD k 0)
            rw [g, if_pos rfl] at W1
            replace W1 := Lib.hid W1
            clear g
            generalize ds.getD k 0 = x at *
            go_wp2_with (go_at_call 153; (with_reducible refine (W1.out _).mono ?_); rintro e w' ⟨rfl, rfl⟩)
            exact ⟨⟨k + 1, by omega, by go_num, HG, HB⟩, by simp [intOf]; omega⟩
          | false =>
            have HG : Hid (wds ds = false) := wds_no hlt (fun h => by rw [wd_mk h] at g; cases g)
            have W1 := WC.out (ds.getD k 0)
            rw [g, if_neg (by decide)] at W1
            replace W1 := Lib.hid W1
            clear g
            generalize ds.getD k 0 = x at *
            go_wp2_with (go_at_call 153; (with_reducible refine (W1.out _).mono ?_); rintro e w' ⟨rfl, rfl⟩)
            go_ret
            exact ⟨by rw [HRR.out, E2.out, HG.out]; rfl, HB.out⟩
        · have HG : Hid (wds ds = true) := wds_yes (fun j hj => wd_bd (HK.out j (by omega)))
          go_wp2
          go_ret
          exact ⟨by rw [HRR.out, E2.out, HG.out]; rfl, HB.out⟩
    · have b1 : ((ds.length : Int) != n) = true := by simpa using q
      have E2 : Hid (tnb sh ds = false) := by rw [Hid, E.out, decide_eq_false q, Bool.false_and]
      clear q E
      go_enter Tryz.func83, Tryz.ntmps83
      go_wp2_with (go_at_call 147; (with_reducible refine C.out.mono ?_); rintro e w' ⟨rfl, rfl⟩)
      go_ret
      exact ⟨by rw [HRR.out, E2.out]; rfl, B0.out⟩
end Go.Proofs.YtmafgdinegboeaaGreat
namespace Go.Proofs.YtmafgdinegboeaaGreat
open Go Go.RowKit Go.Shelf

theorem own_tset {W : World} {T base n i : Nat} {t : TypeId} {v z : Value} {xs : List Value} {cs : Array Value} (h : W.ownsRow base t 1 v n xs) (hb : Blk W T 26 cs) (hne : t ≠ 26) : (W.setCell ⟨T, i, none⟩ z).ownsRow base t 1 v n xs :=
  h.kept (grown_set W ⟨T, i, none⟩ z) (.inr (tens_not_row h hb hne))
/-- A tensor in new memory. -/
def SomeCT (w : World) (sh ds : List Int) (e : Ending) (w' : World) : Prop := ∃ os cs od cd, e = .returned (.agg #[.slice os sh.length cs, .slice od ds.length cd]) ∧ w'.ownsRow w.heap.size 3 1 (.slice os sh.length cs) sh.length (ints sh) ∧ w'.ownsRow w.heap.size 2 1 (.slice od ds.length cd) ds.length (ints ds) ∧ Below w.heap.size w w'
set_option maxRecDepth 100000 in
set_option maxHeartbeats 8000000 in
theorem copytens_any (vs vd : Value) (sh ds : List Int) (w : World) (hs : Ld w vs sh) (hd : Ld w vd ds) (l1 : sh.length ≤ 17592186044000) (l2 : ds.length ≤ 17592186044000) :
    Calls Tryz.prog 14 #[.agg #[vs, vd]] w (SomeCT w sh ds) := by
  obtain ⟨w3, hw3⟩ : ∃ w3, w3 = ((w.alloc (.cells #[vs, vd] 26)).alloc (.cells #[.slice none 0 0, .slice none 0 0] 26)).alloc (.cells #[vs, vd] 26) := ⟨_, rfl⟩
  have hsz : w3.heap.size = w.heap.size + 3 := by rw [hw3]; simp
  have B3 : Below w.heap.size w w3 := by rw [hw3]; exact (((Below.refl _ _).alloc (Nat.le_refl _) _).alloc (by simp) _).alloc (by simp; omega) _
  have K0 : Hid (Blk w3 w.heap.size 26 #[vs, vd]) := by rw [hw3]; exact ((Blk.new w _ _).alloc _).alloc _
  have K1 : Hid (Blk w3 (w.heap.size + 1) 26 #[.slice none 0 0, .slice none 0 0]) := by rw [hw3]; exact (blk_new1 w _ _ _).alloc _
  have K2 : Hid (Blk w3 (w.heap.size + 2) 26 #[vs, vd]) := by
    rw [hw3]
    have q := Blk.new ((w.alloc (.cells #[vs, vd] 26)).alloc (.cells #[.slice none 0 0, .slice none 0 0] 26)) 26 #[vs, vd]
    rwa [World.size_alloc, World.size_alloc] at q
  have C1 : Hid (∀ n, w3.heap.size = n → Calls Tryz.prog 58 #[vs] w3 fun e w' => ∃ o c, e = .returned (.slice o sh.length c) ∧ w'.ownsRow n 3 1 (.slice o sh.length c) sh.length (ints sh) ∧ Ld w' (.slice o sh.length c) sh ∧ Below n w3 w') := fun n hn => by
    subst hn
    exact copy_any vs sh w3 (hs.below B3) l1
  replace C1 := Lib.hid (C1.out (w.heap.size + 3) hsz)
  have C2 := Lib.hid (fun (W : World) (hW : Below w.heap.size w W) => copywords_any vd ds W (hd.below hW) l2)
  obtain ⟨o1, n1, rfl, _, _⟩ := hs
  obtain ⟨o2, n2, rfl, _, _⟩ := hd
  have HW := Lib.hid hw3
  rw [hw3] at C1
  clear hw3
  go_enter Tryz.func14, Tryz.ntmps14
  go_wp2_with (first
    | (go_at_call 58; (with_reducible refine C1.out.mono ?_); rintro e w2 ⟨o5, c5, rfl, ho5, _, hb2⟩; rw [← HW.out] at hb2; have b2 := B3.trans (hb2.mono (by omega)); replace K0 := Lib.hid (K0.out.below hb2 (by omega)); replace K1 := Lib.hid (K1.out.below hb2 (by omega)); replace K2 := Lib.hid (K2.out.below hb2 (by omega)); obtain ⟨c0, c1, _⟩ := blk2 K0.out; obtain ⟨x0, x1, g0, g1⟩ := blk2 K2.out; have s2 := Nat.le_trans (Nat.le_of_eq hsz.symm) hb2.size; have O2 := Lib.hid (own_tset (i := 0) (z := .slice o5 sh.length c5) ho5 K2.out (by decide)); clear ho5 hb2)
    | (go_at_call 59; (with_reducible refine Go.Calls.mono (C2.out _ ?_) ?_); (· exact b2.setCell (by show w.heap.size ≤ w.heap.size + 2; omega) _); rintro e w4 ⟨o6, c6, rfl, ho6, _, hb4⟩; have b4 := (b2.setCell (p := ⟨w.heap.size + 2, 0, none⟩) (by show w.heap.size ≤ w.heap.size + 2; omega) (.slice o5 sh.length c5)).trans (hb4.mono (by simp; omega)); have s4 := hb4.size; have Q2 := Lib.hid ((K2.out.set_ 0 (.slice o5 sh.length c5)).below hb4 (by simp; omega)); have Q1 := Lib.hid ((K1.out.far (p := ⟨w.heap.size + 2, 0, none⟩) (by show w.heap.size + 1 ≠ w.heap.size + 2; omega) (.slice o5 sh.length c5)).below hb4 (by simp; omega)); obtain ⟨x0, x1, g0, g1⟩ := blk2 Q2.out; obtain ⟨d0, d1, f0, f1⟩ := blk2 Q1.out; have O4 := Lib.hid (Below.keepOwn O2.out hb4 (Nat.le_refl _)); have O6 := Lib.hid ho6; clear ho6 hb4))
  have e2 : w.heap.size + 1 + 1 = w.heap.size + 2 := rfl
  have R1 := Lib.hid (Q1.out.far (p := ⟨w.heap.size + 2, 1, none⟩) (by show w.heap.size + 1 ≠ w.heap.size + 2; omega) (.slice o6 ds.length c6))
  have R2 := Lib.hid ((R1.out.set_ 0 (.slice o5 sh.length c5)).set_ 1 (.slice o6 ds.length c6))
  have r0 := R2.out.cell 0
  have r1 := R2.out.cell 1
  refine bodyPost_ret (v := .agg #[.slice o5 sh.length c5, .slice o6 ds.length c6]) (by simp [results, Tryz.results14, go_sem, r0, r1]) rfl ?_
  have p5 := own_two (own_tset (i := 1) (z := .slice o6 ds.length c6) O4.out Q2.out (by decide)) R1.out (by decide) (.slice o5 sh.length c5) (.slice o6 ds.length c6)
  have p6 := own_two (own_tset (i := 1) (z := .slice o6 ds.length c6) O6.out Q2.out (by decide)) R1.out (by decide) (.slice o5 sh.length c5) (.slice o6 ds.length c6)
  refine ⟨_, _, _, _, rfl, own_base p5 ?_, own_base p6 ?_, ((b4.setCell (p := ⟨w.heap.size + 2, 1, none⟩) (by show w.heap.size ≤ w.heap.size + 2; omega) _).setCell (p := ⟨w.heap.size + 1, 0, none⟩) (by show w.heap.size ≤ w.heap.size + 1; omega) _).setCell (p := ⟨w.heap.size + 1, 1, none⟩) (by show w.heap.size ≤ w.heap.size + 1; omega) _⟩
  · omega
  · simp; omega
end Go.Proofs.YtmafgdinegboeaaGreat
