/-
  The reference's shapes: counts, what may be, strides, places, indexes.
  The reference's shapes: places and indexes, spread shapes.
  The reference's shapes: spread shapes, what stands under an index.
  view.Widen.
  view.Copy.
  Whole numbers of 128 bits, as a wide number's two halves: hi a and lo a of a whole number a.
  What the calls of package wide do, said of whole numbers: the small ones.
  Words: what the calls of package fx do, said of whole numbers.
  package elem: Check.
  package reduce: are these axes? what words go where.
-/
import Derived.Deep.QuietTactic
import Derived.BigQuiet
import Derived.IntWalk
import Derived.Deep.AppendLies
import Derived.Test.YtchakmkoimgakaaRows
import Derived.WalkKit
import Derived.WalkSpells
import Derived.StillTactics
import Derived.Laws.Pointers
import Derived.Laws.Externs
import Derived.Deep.RegionHeld3
import Derived.Shelf.Spec.BitsCarry
import Derived.RowKit3
import Derived.Lib.Hide
import Derived.Test.YtchakmkoimgakaaM02
import Derived.Test.YtchakmkoimgakaaM03
import Derived.Test.YtchakmkoimgakaaM05
namespace Go.Proofs.Ytchakmkoimgakaa
open Go.RowKit

/-- The reference's count. -/
def rct (ls : List Int) : Int := if cnt 1 ls = 0 then 65537 else cnt 1 ls
theorem may_rct {ls : List Int} (h4 : ls.length ≤ 4) : decide (rct ls ≤ 65536) = may ls := by
  unfold rct
  rcases cnt_cases ls 1 (by decide) (by decide) with h | ⟨h1, h2, _, _⟩
  · rw [if_pos h, may_not h]; rfl
  · rw [if_neg (by omega), may_yes h4 (by omega)]; simpa using h2
theorem rct_may {ls : List Int} (h : may ls = true) : rct ls = prod ls := by
  unfold rct
  rw [may_cnt h, if_neg (by have := may_prod h; omega)]

set_option maxRecDepth 100000 in
set_option maxHeartbeats 4000000 in
theorem rcount_any (v : Value) (ls : List Int) (w : World) (h : Ld w v ls) (hd : dms ls) (l4 : ls.length ≤ 1073741824) :
    Calls Try.prog 11 #[v] w fun e w' => e = .returned (.int .i64 (rct ls)) ∧ w = w' := by
  obtain ⟨o, c, rfl, _, hx⟩ := h
  have HX := Lib.hid hx
  have HD := Lib.hid hd
  clear hx hd
  go_enter Try.func11, Try.ntmps11
  go_wp2
  go_loop [3, 4] (fun s3 s4 => ∃ (k : Nat) (m : Int), k ≤ ls.length ∧ 1 ≤ m ∧ m ≤ 65536 ∧ s4 = .int .i64 k ∧ s3 = .int .i64 m ∧ Hid (cnt m (ls.drop k) = cnt 1 ls)) (fun _ s4 => ls.length - (intOf s4).toNat)
  case atStart => exact ⟨0, 1, Nat.zero_le _, by decide, by decide, rfl, rfl, rfl⟩
  case round =>
    obtain ⟨k, m, hk, m0, m1, rfl, rfl, HM⟩ := hrel
    by_cases hlt : k < ls.length
    · obtain ⟨b, f, rfl, hb, hc⟩ := HX.out k hlt
      have st := cnt_step hlt m
      rw [HM.out] at st
      have dd := HD.out _ (getD_mem hlt)
      obtain ⟨d, hd⟩ : ∃ d, d = ls.getD k 0 := ⟨_, rfl⟩
      rw [← hd] at st hc dd
      obtain ⟨d1, d2⟩ := dd
      have dn : ¬ 65536 < d := by omega
      have md : m * d ≤ 65536 * 4096 := Int.mul_le_mul m1 d2 (by omega) (by decide)
      have m2 : 1 ≤ m * d := by have := Int.mul_le_mul m0 d1 (by decide) (by omega); omega
      by_cases g : m * d ≤ 65536
      · rw [if_pos ⟨d1, d2, by rw [Int.mul_comm]; exact g⟩] at st
        have ST := Lib.hid st
        have g' : ¬ 65536 < m * d := by omega
        clear st hd md
        go_wp2
        refine ⟨⟨k + 1, m * d, by omega, m2, g, by go_num, rfl, by unfold Hid; rw [← ST.out]⟩, by simp [intOf]; omega⟩
      · rw [if_neg (by rw [Int.mul_comm]; omega)] at st
        have E : Hid (rct ls = 65537) := by unfold rct; rw [if_pos st]; exact Lib.hid rfl
        have g' : 65536 < m * d := by omega
        clear st hd
        go_wp2
        go_ret
        exact ⟨by rw [E.out]; rfl, rfl⟩
    · have E : Hid (m = rct ls) := by
        have := HM.out
        rw [List.drop_eq_nil_of_le (by omega)] at this
        unfold rct
        rw [← this, if_neg (by show cnt m [] ≠ 0; simp [cnt]; omega)]
        exact Lib.hid rfl
      go_wp2
      go_ret
      exact ⟨by rw [← E.out]; rfl, rfl⟩

set_option maxRecDepth 100000 in
set_option maxHeartbeats 4000000 in
theorem rmay_any (v : Value) (ls : List Int) (w : World) (h : Ld w v ls) (l4 : ls.length ≤ 1073741824) :
    Calls Try.prog 24 #[v] w fun e w' => e = .returned (.bool (may ls)) ∧ w = w' := by
  by_cases h4 : 4 < ls.length
  · have E : Hid (may ls = false) := may_long h4
    obtain ⟨o, c, rfl, _, _⟩ := h
    go_enter Try.func24, Try.ntmps24
    go_wp2
    go_ret
    exact ⟨by rw [E.out]; rfl, rfl⟩
  have C := Lib.hid (fun hd => rcount_any v ls w h hd (by omega))
  obtain ⟨o, c, rfl, _, hx⟩ := h
  have HX := Lib.hid hx
  have HR : Hid (decide (rct ls ≤ 65536) = may ls) := may_rct (by omega)
  clear hx
  go_enter Try.func24, Try.ntmps24
  go_wp2
  go_loop [3] (fun s3 => ∃ k : Nat, k ≤ ls.length ∧ s3 = .int .i64 k ∧ Hid (∀ j, j < k → 1 ≤ ls.getD j 0 ∧ ls.getD j 0 ≤ 4096)) (fun s3 => ls.length - (intOf s3).toNat)
  case atStart => exact ⟨0, Nat.zero_le _, rfl, fun j hj => absurd hj (Nat.not_lt_zero _)⟩
  case round =>
    obtain ⟨k, hk, rfl, HK⟩ := hrel
    by_cases hlt : k < ls.length
    · obtain ⟨b, f, rfl, hb, hc⟩ := HX.out k hlt
      have HN : Hid (¬ (1 ≤ ls.getD k 0 ∧ ls.getD k 0 ≤ 4096) → may ls = false) := fun g => by
        cases h : may ls with
        | false => rfl
        | true => exact absurd (may_dim h hlt) g
      have HG : Hid (1 ≤ ls.getD k 0 ∧ ls.getD k 0 ≤ 4096 → ∀ j, j < k + 1 → 1 ≤ ls.getD j 0 ∧ ls.getD j 0 ≤ 4096) := fun g j hj => by
        by_cases e : j = k
        · subst e; exact g
        · exact HK.out j (by omega)
      generalize ls.getD k 0 = d at *
      by_cases g1 : d < 1
      · have R := Lib.hid (HN.out (by omega))
        go_wp2
        go_ret
        exact ⟨by rw [R.out]; rfl, rfl⟩
      by_cases g2 : 4096 < d
      · have R := Lib.hid (HN.out (by omega))
        go_wp2
        go_ret
        exact ⟨by rw [R.out]; rfl, rfl⟩
      have R := Lib.hid (HG.out (by omega))
      go_wp2
      refine ⟨⟨k + 1, by omega, by go_num, R⟩, by simp [intOf]; omega⟩
    · have hd : dms ls := by
        intro d hm
        obtain ⟨i, hi, rfl⟩ := List.mem_iff_getElem.1 hm
        have := HK.out i (by omega)
        simpa [List.getD, List.getElem?_eq_getElem hi] using this
      have C1 := Lib.hid (C.out hd)
      clear hd
      generalize rct ls = r at *
      go_wp2_with (go_at_call 11; (with_reducible refine C1.out.mono ?_); rintro e w' ⟨rfl, rfl⟩)
      go_ret
      exact ⟨by rw [← HR.out]; rfl, rfl⟩

set_option maxRecDepth 100000 in
set_option maxHeartbeats 4000000 in
theorem rstrides_any (v : Value) (ls : List Int) (w : World) (h : Ld w v ls) (hm : may ls = true) :
    Calls Try.prog 31 #[v] w fun e w' => e = .returned (.slice (some ⟨w.heap.size, 0, none⟩) ls.length ls.length) ∧ Blk w' w.heap.size 3 (ints (stl ls)).toArray ∧ Below w.heap.size w w' := by
  obtain ⟨i0, hi0, hz0, hz1, hz2⟩ := info_parts infoI
  obtain ⟨o, c, rfl, _, hx⟩ := h
  have HX := Lib.hid hx
  have l4 := may_len hm
  have HD : Hid (∀ k, k < ls.length → 1 ≤ ls.getD k 0 ∧ ls.getD k 0 ≤ 4096) := fun k hk => may_dim hm hk
  have HP : Hid (∀ k, 1 ≤ prod (ls.drop k) ∧ prod (ls.drop k) ≤ 65536) := may_drop hm
  have mk : (Instr.makeSlice 23 (.int .i64 (ls.length : Int)) (.int .i64 (ls.length : Int))).run Try.prog w = .ok (.slice (some ⟨w.heap.size, 0, none⟩) ls.length ls.length) (w.alloc (.cells (madeCells #[.int .i64 0] ls.length) 3)) := by
    have := run_make (w := w) 23 3 i0 (.int .i64 0) Try.underlying23 hi0 hz0 .i64 .i64 ls.length ls.length (by omega) (by omega) (by rw [hz2]; omega) (by omega)
    rw [this, hz1]; simp [Value.cells]
  rw [made_ints] at mk
  clear hx hm
  go_enter Try.func31, Try.ntmps31
  go_wp2
  clear mk
  go_loopw [4, 5] (fun s4 s5 wr => ∃ (k : Nat) (m : Int) (L : List Int), k ≤ ls.length ∧ s5 = .int .i64 ((k : Int) - 1) ∧ s4 = .int .i64 m ∧ Blk wr w.heap.size 3 (ints L).toArray ∧ Hid (L.length = ls.length ∧ m = prod (ls.drop k) ∧ ∀ i, k ≤ i → i < ls.length → L.getD i 0 = prod (ls.drop (i + 1))) ∧ Below w.heap.size w wr) (fun _ s5 _ => (intOf s5 + 1).toNat)
  case atStart => exact ⟨ls.length, 1, List.replicate ls.length 0, Nat.le_refl _, rfl, rfl, Blk.new _ _ _, ⟨by simp, by simp [prod], fun i h1 h2 => by omega⟩, (Below.refl _ _).alloc (Nat.le_refl _) _⟩
  case round =>
    obtain ⟨k, m, L, hk, rfl, rfl, hblk, HL, hB⟩ := hrel
    have hBs := hB.size
    cases k with
    | zero =>
      have E : L = stl ls := by
        refine ext_getD (by rw [stl_len]; exact HL.out.1) fun i hi => ?_
        have := HL.out.1
        rw [stl_getD _ _ (by omega)]
        exact HL.out.2.2 i (Nat.zero_le _) (by omega)
      subst E
      go_wp2
      go_ret
      exact ⟨rfl, hblk, hB⟩
    | succ k =>
      obtain ⟨b, f, rfl, hb, hc⟩ := HX.out k (by omega)
      have hc' : wr.cell? ⟨b, f + k, none⟩ = some (.int .i64 (ls.getD k 0)) := (hB.cell (p := ⟨b, f + k, none⟩) hb).trans hc
      have kc := hblk.cell k
      have hL := HL.out.1
      rw [ints_at (by omega)] at kc
      have kf := hblk.frozen k
      generalize L.getD k 0 = l0 at kc
      have dd := HD.out k (by omega)
      have p0 := HP.out (k + 1)
      have p1 := HP.out k
      have pd := prod_drop (ls := ls) (k := k) (by omega)
      have em := HL.out.2.1
      have R : Hid ((L.set k m).length = ls.length ∧ m * ls.getD k 0 = prod (ls.drop k) ∧ ∀ i, k ≤ i → i < ls.length → (L.set k m).getD i 0 = prod (ls.drop (i + 1))) := by
        refine ⟨by simpa using hL, by rw [em, pd, Int.mul_comm], fun i h1 h2 => ?_⟩
        by_cases e : k = i
        · subst e; rw [set_getD_self (by omega), em]
        · rw [set_getD_ne e]; exact HL.out.2.2 i (by omega) h2
      rw [← em] at p0
      rw [← R.out.2.1] at p1
      have ej : ((k + 1 : Nat) : Int) - 1 = (k : Int) := by omega
      rw [ej]
      have HL2 := Lib.hid hL
      clear em pd hc hL HL
      generalize ls.getD k 0 = d at *
      obtain ⟨p1, p2⟩ := p1
      go_wp2
      refine ⟨⟨k, m * d, L.set k m, by omega, by go_num, rfl, hblk.put k m, R, hB.setCell (Nat.le_refl _) _⟩, by simp [intOf]; try omega⟩
end Go.Proofs.Ytchakmkoimgakaa
namespace Go.Proofs.Ytchakmkoimgakaa
open Go.RowKit


set_option maxRecDepth 100000 in
set_option maxHeartbeats 4000000 in
theorem rindex_any (vs vi : Value) (s i : List Int) (w : World) (hs : Ld w vs s) (hi : Ld w vi i) (hm : may s = true) (hx : inx s i = true) :
    Calls Try.prog 30 #[vs, vi] w fun e w' => e = .returned (.int .i64 (ix s i)) ∧ Below w.heap.size w w' := by
  have hl := inx_len hx
  have l4 := may_len hm
  have SC := Lib.hid (rstrides_any vs s w hs hm)
  obtain ⟨oi, ci, rfl, _, hxi⟩ := hi
  obtain ⟨os, cs, rfl, _, hxs⟩ := hs
  have HI := Lib.hid hxi
  have HL := Lib.hid hl
  have HP := Lib.hid (And.intro (may_pos hm) hx)
  have HD := Lib.hid (may_drop hm)
  have HV := Lib.hid (And.intro (ix_bd hx) (may_prod hm))
  rw [← hl]
  clear hxi hxs hm hx hl
  go_enter Try.func30, Try.ntmps30
  go_wp2_with (go_at_call 31; (with_reducible refine SC.out.mono ?_); rintro e w1 ⟨rfl, hblk, hB1⟩)
  have hB1s := hB1.size
  have hgl := hblk.lt
  go_loopw [6, 7] (fun s6 s7 wr => ∃ (k : Nat) (p : Int), k ≤ s.length ∧ 0 ≤ p ∧ p ≤ 65536 ∧ s7 = .int .i64 k ∧ s6 = .int .i64 p ∧ Hid (Sum s i (ix s i) p k) ∧ Below w1.heap.size w1 wr) (fun _ s7 _ => s.length - (intOf s7).toNat)
  case atStart => exact ⟨0, 0, Nat.zero_le _, by decide, by decide, rfl, rfl, sum_start, Below.refl _ _⟩
  case round =>
    obtain ⟨k, p, hk, p0, p1, rfl, rfl, HK, hW⟩ := hrel
    by_cases hlt : k < s.length
    · obtain ⟨b1, f1, rfl, h1, c1⟩ := HI.out k (by have := HL.out; omega)
      have c1' : wr.cell? ⟨b1, f1 + k, none⟩ = some (.int .i64 (i.getD k 0)) := (hW.cell (p := ⟨b1, f1 + k, none⟩) (by show b1 < _; omega)).trans ((hB1.cell (p := ⟨b1, f1 + k, none⟩) h1).trans c1)
      have c2' : wr.cell? ⟨w.heap.size, k, none⟩ = some (.int .i64 (prod (s.drop (k + 1)))) := by
        rw [hW.cell (p := ⟨w.heap.size, k, none⟩) hgl, hblk.cell, ints_at (by rw [stl_len]; exact hlt), stl_getD s k hlt]
      obtain ⟨st, n0, n1, n2⟩ := sum_step HK.out HP.out.2 HP.out.1 hlt
      have hv := HV.out
      have st1 := st.2.1
      have ST := Lib.hid st
      clear c1 st
      generalize i.getD k 0 = x at *
      generalize prod (s.drop (k + 1)) = P at *
      have q1 : x * P ≤ 65536 := by omega
      have q2 : p + x * P ≤ 65536 := by omega
      have HV2 := Lib.hid hv
      clear hv n1 n2
      have e1 : IntKind.i64.wrap (x * P) = x * P := IntWalk.i64_in _ ⟨by omega, by omega⟩
      have e2 : IntKind.i64.wrap (p + x * P) = p + x * P := IntWalk.i64_in _ ⟨by omega, by omega⟩
      go_wp2
      go_quiet (fail)
      clear e1 e2
      go_wp2
      refine ⟨⟨k + 1, p + x * P, by omega, st1, q2, by go_num, rfl, ST, by first | exact below_drw hW _ | exact hW⟩, by simp [intOf]; omega⟩
    · obtain rfl : k = s.length := by omega
      obtain rfl := sum_end HK.out
      go_wp2
      go_ret
      exact ⟨rfl, hB1.trans (hW.mono hB1s)⟩

/-- Where a place's index is being told. -/
def Ati (s : List Int) (n N : Int) (k : Nat) : Prop := k ≤ s.length ∧ 0 ≤ N ∧ N < prod (s.drop k) ∧ atl (s.drop k) N = (atl s n).drop k
theorem ati_start {s : List Int} {n : Int} (h0 : 0 ≤ n) (h1 : n < prod s) : Ati s n n 0 := ⟨Nat.zero_le _, h0, by simpa using h1, by simp⟩
theorem ati_step {s : List Int} {n N : Int} {k : Nat} (h : Ati s n N k) (hp : pos s) (hk : k < s.length) : Ati s n (N % prod (s.drop (k + 1))) (k + 1) ∧ (atl s n).getD k 0 = N / prod (s.drop (k + 1)) := by
  obtain ⟨a, b, c, d⟩ := h
  have q := prod_pos (pos_drop hp (k + 1))
  rw [drop_getD hk, atl, drop_getD (show k < (atl s n).length by rw [atl_len]; exact hk)] at d
  simp only [List.cons.injEq] at d
  exact ⟨⟨by omega, Int.emod_nonneg _ (by omega), Int.emod_lt_of_pos _ (by omega), d.2⟩, d.1.symm⟩
theorem ati_bd {s : List Int} {n N : Int} {k : Nat} (h : Ati s n N k) (hm : may s = true) : 0 ≤ N ∧ N ≤ 65536 := by
  have := may_drop hm k
  exact ⟨h.2.1, by have := h.2.2.1; omega⟩

set_option maxRecDepth 100000 in
set_option maxHeartbeats 4000000 in
theorem rat_any (v : Value) (ls : List Int) (n : Int) (w : World) (h : Ld w v ls) (hm : may ls = true) (h0 : 0 ≤ n) (h1 : n < prod ls) :
    Calls Try.prog 14 #[v, .int .i64 n] w fun e w' => ∃ v, e = .returned v ∧ Ld w' v (atl ls n) ∧ Below w.heap.size w w' := by
  obtain ⟨i0, hi0, hz0, hz1, hz2⟩ := info_parts infoI
  have l4 := may_len hm
  have SC := Lib.hid (rstrides_any v ls w h hm)
  obtain ⟨o, c, rfl, _, hx⟩ := h
  have HP := Lib.hid (may_pos hm)
  have HD := Lib.hid (may_drop hm)
  have HM := Lib.hid hm
  have HS : Hid (Ati ls n n 0) := ati_start h0 h1
  clear hx hm
  go_enter Try.func14, Try.ntmps14
  have mk : ∀ W : World, Hid ((Instr.makeSlice 23 (.int .i64 (ls.length : Int)) (.int .i64 (ls.length : Int))).run Try.prog W = .ok (.slice (some ⟨W.heap.size, 0, none⟩) ls.length ls.length) (W.alloc (.cells (ints (List.replicate ls.length 0)).toArray 3))) := by
    intro W
    have := run_make (w := W) 23 3 i0 (.int .i64 0) Try.underlying23 hi0 hz0 .i64 .i64 ls.length ls.length (by omega) (by omega) (by rw [hz2]; omega) (by omega)
    rw [Hid, this, hz1, ← made_ints]; simp [Value.cells]
  have MK := Lib.hid mk
  clear mk
  go_wp2_with (go_at_call 31; (with_reducible refine SC.out.mono ?_); rintro e w1 ⟨rfl, hblk, hB1⟩; have mk := (MK.out w1).out)
  clear mk
  have hB1s := hB1.size
  have hgl := hblk.lt
  go_loopw [1, 7] (fun s1 s7 wr => ∃ (k : Nat) (N : Int) (L : List Int), k ≤ ls.length ∧ 0 ≤ N ∧ N ≤ 65536 ∧ s7 = .int .i64 k ∧ s1 = .int .i64 N ∧ Blk wr w.heap.size 3 (ints (stl ls)).toArray ∧ Blk wr w1.heap.size 3 (ints L).toArray ∧ Hid (Ati ls n N k) ∧ Hid (L.length = ls.length ∧ ∀ j, j < k → L.getD j 0 = (atl ls n).getD j 0) ∧ Below w.heap.size w wr) (fun _ s7 _ => ls.length - (intOf s7).toNat)
  case atStart => exact ⟨0, n, List.replicate ls.length 0, Nat.zero_le _, (ati_bd HS.out HM.out).1, (ati_bd HS.out HM.out).2, rfl, rfl, hblk.alloc _, Blk.new _ _ _, HS, ⟨by simp, fun j hj => absurd hj (Nat.not_lt_zero _)⟩, hB1.alloc hB1s _⟩
  case round =>
    obtain ⟨k, N, L, hk, n0, n1, rfl, rfl, hs, hb, HA, HL, hB⟩ := hrel
    by_cases hlt : k < ls.length
    · have sc := hs.cell k
      rw [ints_at (by rw [stl_len]; exact hlt), stl_getD ls k hlt] at sc
      have kc := hb.cell k
      have hL := HL.out.1
      rw [ints_at (by omega)] at kc
      have kf := hb.frozen k
      generalize L.getD k 0 = l0 at kc
      obtain ⟨st, ge⟩ := ati_step HA.out HP.out hlt
      have bd := ati_bd st HM.out
      have pp := HD.out (k + 1)
      have R : Hid ((L.set k (N / prod (ls.drop (k + 1)))).length = ls.length ∧ ∀ j, j < k + 1 → (L.set k (N / prod (ls.drop (k + 1)))).getD j 0 = (atl ls n).getD j 0) := by
        refine ⟨by simpa using hL, fun j hj => ?_⟩
        by_cases e : k = j
        · subst e; rw [set_getD_self (by omega), ge]
        · rw [set_getD_ne e]; exact HL.out.2 j (by omega)
      have ST := Lib.hid st
      have HL2 := Lib.hid hL
      clear st ge hL HL
      generalize prod (ls.drop (k + 1)) = P at *
      have pz : ¬ P = 0 := by omega
      obtain ⟨b1, b2⟩ := bd
      obtain ⟨pp1, pp2⟩ := pp
      have s1 := hs.far (p := ⟨w1.heap.size, k, none⟩) (by show w.heap.size ≠ w1.heap.size; omega) (.int .i64 (N / P))
      have sc2 := s1.cell k
      rw [hs.far (p := ⟨w1.heap.size, k, none⟩) (by show w.heap.size ≠ w1.heap.size; omega) (.int .i64 (N / P)) |>.cell k] at sc2
      have sc3 : (wr.setCell ⟨w1.heap.size, k, none⟩ (.int .i64 (N / P))).cell? ⟨w.heap.size, k, none⟩ = some (.int .i64 P) := by rw [s1.cell k, ← hs.cell k]; exact sc
      clear sc2
      go_wp2
      refine ⟨⟨k + 1, N % P, L.set k (N / P), by omega, b1, b2, by go_num, rfl, s1, hb.put k _, ST, R, hB.setCell hB1s _⟩, by simp [intOf]; omega⟩
    · obtain rfl : k = ls.length := by omega
      obtain rfl : L = atl ls n := ext_getD (by rw [atl_len]; exact HL.out.1) fun i hi => HL.out.2 i (by have := HL.out.1; omega)
      have hld := Ld.of_blk hb (c := ls.length) (by rw [atl_len]; exact Nat.le_refl _)
      rw [atl_len] at hld
      have HLD := Lib.hid hld
      clear hld
      go_wp2
      go_ret
      exact ⟨_, rfl, HLD.out, hB⟩

end Go.Proofs.Ytchakmkoimgakaa
namespace Go.Proofs.Ytchakmkoimgakaa
open Go.RowKit

theorem gr_max {x y : Int} (hx : 1 ≤ x) (hy : 1 ≤ y) (h : x = y ∨ x = 1 ∨ y = 1) : gr x y = if x < y then y else x := by
  unfold gr
  split <;> split <;> omega


theorem spv_len {a b : List Int} (ha : a.length ≤ 4) (hb : b.length ≤ 4) : (spv a b).length ≤ 4 := by
  unfold spv
  split
  · unfold spr; rw [spl_len]; unfold mx; omega
  · simp

end Go.Proofs.Ytchakmkoimgakaa
namespace Go.Proofs.Ytchakmkoimgakaa
open Go.RowKit
attribute [local go_sem ↓] Go.wp_at_zero Go.wp_at_succ

theorem grown_drw {w W : World} {r : Option Nat} (h : w.grownBy W r) (n : Nat) : w.grownBy (W.drewN n) r := ⟨h.os, h.tape, h.output, h.size, h.block⟩
theorem grown_put {w W : World} {g k : Nat} (h : w.grownBy W (some g)) (v : Value) : w.grownBy (W.setCell ⟨g, k, none⟩ v) (some g) :=
  ⟨h.os, h.tape, h.output, by simpa using h.size, fun j hj hne => (Below.heap_setCell _ _ _ j (fun e => hne (by rw [e]))).trans (h.block j hj hne)⟩
theorem grown_cell {w W : World} {g : Nat} (h : w.grownBy W (some g)) {b i : Nat} {v : Value} (hb : b < w.heap.size) (hne : b ≠ g) (hc : w.cell? ⟨b, i, none⟩ = some v) : W.cell? ⟨b, i, none⟩ = some v := by
  rw [← hc]; simp [World.cell?, h.block b hb (by simpa using hne)]
theorem own_box {w : World} {base n b : Nat} {v : Value} {xs : List Value} {cs : Array Value} (h : w.ownsRow base 3 1 v n xs) (hb : Blk w b 49 cs) (x y z : Value) : (((w.setCell ⟨b, 0, none⟩ x).setCell ⟨b, 1, none⟩ y).setCell ⟨b, 2, none⟩ z).ownsRow base 3 1 v n xs :=
  h.kept (grown_box3 w b x y z) (.inr (own_not_box h hb))
theorem blk_apart {w : World} {g b : Nat} {cs cs' : Array Value} (h : Blk w g 3 cs) (hb : Blk w b 49 cs') : ¬ g = b := fun e => by
  subst e
  have := h.symm.trans hb
  simp at this
theorem blk_box3 {w : World} {g b : Nat} {cs cs' : Array Value} (h : Blk w g 3 cs) (hb : Blk w b 49 cs') (x y z : Value) : Blk (((w.setCell ⟨b, 0, none⟩ x).setCell ⟨b, 1, none⟩ y).setCell ⟨b, 2, none⟩ z) g 3 cs :=
  h.kept (grown_box3 w b x y z) (fun e => blk_apart h hb (Option.some.inj e))
theorem blk_new1 (w : World) (o : Obj) (t : TypeId) (cs : Array Value) : Blk ((w.alloc o).alloc (.cells cs t)) (w.heap.size + 1) t cs := by
  have := Blk.new (w.alloc o) t cs
  rwa [World.size_alloc] at this
theorem wsn_put {sh st s : List Int} {k a : Nat} (ha : s.length - sh.length = a) (e : sh.getD k 0 = s.getD (k + a) 0) : wsn sh st s (k + 1) = (wsn sh st s k).set (k + a) (st.getD k 0) := by subst ha; exact if_pos e
theorem wsn_skip {sh st s : List Int} {k a : Nat} (ha : s.length - sh.length = a) (e : ¬ sh.getD k 0 = s.getD (k + a) 0) : wsn sh st s (k + 1) = wsn sh st s k := by subst ha; exact if_neg e

end Go.Proofs.Ytchakmkoimgakaa
namespace Go.Proofs.Ytchakmkoimgakaa
open Go.RowKit Go.Shelf
attribute [local go_sem] Oper.semAt_some

/-- The words where the indexes stand. -/
def cps (sh st : List Int) (off : Int) (ls : List Int) (N : Nat) : List Int := (List.range N).map fun k => ls.getD (off + dot st (atl sh (k : Nat))).toNat 0
theorem cps_len (sh st : List Int) (off : Int) (ls : List Int) (N : Nat) : (cps sh st off ls N).length = N := by simp [cps]
theorem cps_getD {sh st : List Int} {off : Int} {ls : List Int} {N k : Nat} (h : k < N) : (cps sh st off ls N).getD k 0 = ls.getD (off + dot st (atl sh (k : Nat))).toNat 0 := by simp [cps, List.getD, h]
theorem cps_snoc {sh st : List Int} {off : Int} {ls : List Int} {N k P : Nat} (h : k < N) (e : off + dot st (atl sh (k : Nat)) = (P : Int)) : (cps sh st off ls N).take (k + 1) = (cps sh st off ls N).take k ++ [ls.getD P 0] := by
  have hk : k < (cps sh st off ls N).length := by rw [cps_len]; exact h
  have h1 := cps_getD (sh := sh) (st := st) (off := off) (ls := ls) h
  rw [e, Int.toNat_natCast] at h1
  rw [List.take_succ_eq_append_getElem hk]
  rw [List.getD_eq_getElem?_getD, List.getElem?_eq_getElem hk] at h1
  rw [← h1]; rfl
theorem blk2 {W : World} {b : Nat} {t : TypeId} {x y : Value} (h : Blk W b t #[x, y]) : W.cell? ⟨b, 0, none⟩ = some x ∧ W.cell? ⟨b, 1, none⟩ = some y ∧ W.frozen? ⟨b, 0, none⟩ = false ∧ W.frozen? ⟨b, 1, none⟩ = false :=
  ⟨h.cell 0, h.cell 1, h.frozen 0, h.frozen 1⟩
/-- A tensor in new memory, and an error. -/
def SomeT (w : World) (er : Int) (sh ds : List Int) (e : Ending) (w' : World) : Prop := ∃ os cs od cd, e = .returned (.tuple #[.agg #[.slice os sh.length cs, .slice od ds.length cd], .int .i64 er]) ∧ w'.ownsRow w.heap.size 3 1 (.slice os sh.length cs) sh.length (ints sh) ∧ w'.ownsRow w.heap.size 2 1 (.slice od ds.length cd) ds.length (ints ds) ∧ Below w.heap.size w w'
theorem infoW : (Try.prog.info? 2).map (fun i => (i.zero, i.size, i.bytes)) = some (some (.int .i64 0), 1, 8) := by kernel_rfl


theorem tens_not_row {w : World} {base n b : Nat} {v : Value} {xs : List Value} {cs : Array Value} {t u : TypeId} (h : w.ownsRow base t 1 v n xs) (hb : Blk w b u cs) (hne : t ≠ u) : ¬ v.ownBlock = some b := by
  intro e
  rcases h.2 with ⟨rfl, _⟩ | ⟨g, cap, cur, rfl, _, hh, _⟩
  · simp [Value.ownBlock] at e
  · simp only [Value.ownBlock, Option.some.injEq] at e
    subst e
    have := hh.symm.trans hb
    simp only [Option.some.injEq, Obj.cells.injEq] at this
    exact hne this.2.1
/-- A word is appended. -/
theorem cp_step {X w9 w5 : World} {T B g k : Nat} {y : Int} {dv : Value} {xs : List Value} {cs : Array Value} (hb : Blk X T 26 cs) (hu : X.ownsRow B 2 1 dv k xs) (hB : Below T w5 X)
    (hgrow : (X.alloc (.cells #[.int .i64 y] 2)).drew.grownBy w9 dv.ownBlock) (_hat : dv.ownBlock = some g ∨ g = X.heap.size + 1) (hTl : T < B) (hXs : B ≤ X.heap.size) :
    Blk w9 T 26 cs ∧ Below T w5 w9 := by
  refine ⟨((hb.alloc _).drew).kept hgrow (fun e => by have := (hu.lt T e.symm).1; omega), ?_⟩
  have h1 := below_drw (hB.alloc (by omega) (.cells #[.int .i64 y] 2)) 1
  exact h1.grown hgrow (by simp; omega) (fun j e => by have := (hu.lt j e).1; omega)
/-- What a round of Copy's loop leaves. -/
def CpI (T B : Nat) (w5 : World) (sv : Value) (ds : List Int) (k : Nat) (W : World) : Prop := ∃ dv, Blk W T 26 #[sv, dv] ∧ W.ownsRow B 2 1 dv k (ints (ds.take k)) ∧ Below T w5 W ∧ B ≤ W.heap.size
theorem cpi_own (T B : Nat) (w5 : World) (sv : Value) (ds : List Int) (hT : T < B) (_hs : w5.heap.size ≤ B) : OwnFrom B (fun (pre : List Nat) W => CpI T B w5 sv ds pre.length W) := by
  rintro s X Y row ⟨dv, h1, h2, h3, h4⟩ hg hr
  have hc : ∀ r, row = some r → ∃ o : Obj, X.heap[r]? = some o ∧ o.isCells = false := fun r e => (hr r e).2
  exact ⟨dv, blk_own (β := Unit) T _ (fun _ => _) () X Y row h1 hg hc, own_kept h2 hg hc, h3.grown hg (by omega) (fun k e => by have := (hr k e).1; omega), Nat.le_trans h4 hg.size⟩
theorem kv_alloc {S : Nat → Prop} {X : World} (o : Obj) (hS : ∀ k, S k → k < X.heap.size) : KV S X (X.alloc o) :=
  ⟨fun k hk => Below.heap_alloc _ _ _ (hS k hk), fun _k _ _ _ e _ => Below.heap_alloc _ _ _ (Array.getElem?_eq_some_iff.1 e).1⟩
theorem cp_done {X w9 w5 : World} {T B g k c : Nat} {y : Int} {dv sv : Value} {ds : List Int} (hown : w9.ownsRow B 2 1 (.slice (some ⟨g, 0, none⟩) (k + 1) c) (k + 1) (ints (ds.take k) ++ [.int .i64 y])) (hb9 : Blk w9 T 26 #[sv, dv]) (hB9 : Below T w5 w9) (hb : Blk X T 26 #[sv, dv]) (hu : X.ownsRow B 2 1 dv k (ints (ds.take k)))
    (hgrow : (X.alloc (.cells #[.int .i64 y] 2)).drew.grownBy w9 dv.ownBlock) (hE : ds.take (k + 1) = ds.take k ++ [y]) (hTl : T < B) (hXs : B ≤ X.heap.size) :
    KeepsFrom B X (w9.setCell ⟨T, 1, none⟩ (.slice (some ⟨g, 0, none⟩) (k + 1) c)) ∧ KV (fun j => j < B ∧ j ≠ T) X (w9.setCell ⟨T, 1, none⟩ (.slice (some ⟨g, 0, none⟩) (k + 1) c)) ∧ CpI T B w5 sv ds (k + 1) (w9.setCell ⟨T, 1, none⟩ (.slice (some ⟨g, 0, none⟩) (k + 1) c)) := by
  have hsz : X.heap.size ≤ w9.heap.size := Nat.le_trans (by simp) hgrow.size
  have same : ∀ j, j < X.heap.size → some j ≠ dv.ownBlock → j ≠ T → (w9.setCell ⟨T, 1, none⟩ (.slice (some ⟨g, 0, none⟩) (k + 1) c)).heap[j]? = X.heap[j]? := fun j h1 h2 h3 =>
    (Below.heap_setCell _ _ _ j h3).trans ((hgrow.block j (by simp; omega) h2).trans (Below.heap_alloc _ _ _ h1))
  have isrow : ∀ (j : Nat) (o : Obj), X.heap[j]? = some o → some j = dv.ownBlock → ∃ cur, o = .cells cur 2 (0, 0) := by
    intro j o ho e
    rcases hu.2 with ⟨rfl, _⟩ | ⟨g', cap, cur, rfl, _, hh, _⟩
    · simp [Value.ownBlock] at e
    · simp only [Value.ownBlock, Option.some.injEq] at e
      subst e
      exact ⟨cur, Option.some.inj (ho.symm.trans hh)⟩
  refine ⟨⟨by simpa using hsz, fun j o hj ho hc => ?_⟩, ⟨fun j hj => ?_, fun j cs t fz ho ht => ?_⟩, .slice (some ⟨g, 0, none⟩) (k + 1) c, hb9.set_ 1 _, ?_, hB9.setCell (Nat.le_refl _) _, by simp; omega⟩
  · refine (same j (Array.getElem?_eq_some_iff.1 ho).1 (fun e => ?_) (by omega)).trans ho
    obtain ⟨cur, rfl⟩ := isrow j o ho e
    cases hc
  · refine same j (by omega) (fun e => ?_) hj.2
    have := (hu.lt j e.symm).1
    omega
  · refine same j (Array.getElem?_eq_some_iff.1 ho).1 (fun e => ?_) (fun e => ?_)
    · obtain ⟨cur, h2⟩ := isrow j _ ho e
      simp only [Obj.cells.injEq] at h2
      rcases ht with rfl | rfl | rfl <;> simp at h2
    · subst e
      have h2 := ho.symm.trans hb
      simp only [Option.some.injEq, Obj.cells.injEq] at h2
      rcases ht with rfl | rfl | rfl <;> simp at h2
  · rw [hE, ints_snoc]
    exact hown.kept (grown_set w9 ⟨T, 1, none⟩ _) (.inr (tens_not_row hown hb9 (by decide)))

theorem cp_end {X : World} {b D base n : Nat} {e : TypeId} {v : Value} {xs : List Value} {cs : Array Value} {o : Obj} (hO : X.ownsRow base e 1 v n xs) (hb : Blk X b 26 cs) (hD : X.heap[D]? = some o) (hc : o.isCells = false) (hne : e ≠ 26) (u1 u2 : Value) (o' : Obj) :
    (((X.setCell ⟨b, 0, none⟩ u1).setCell ⟨b, 1, none⟩ u2).putObj D o').ownsRow base e 1 v n xs := by
  have h1 := hO.kept (grown_set X ⟨b, 0, none⟩ u1) (.inr (tens_not_row hO hb hne))
  have hb1 := hb.set_ 0 u1
  have h2 := h1.kept (grown_set _ ⟨b, 1, none⟩ u2) (.inr (tens_not_row h1 hb1 hne))
  have hne : D ≠ b := by rintro rfl; rw [show X.heap[D]? = _ from hb] at hD; cases hD; cases hc
  exact own_kept h2 (grownBy_putObj' _ D o') (fun r er => by cases er; exact ⟨o, ((Below.heap_setCell _ _ _ _ hne).trans (Below.heap_setCell _ _ _ _ hne)).trans hD, hc⟩)


/-- Copy's error. -/
def cpe (sh st ls : List Int) (off : Int) : Int := if vwb sh st off ls.length && wds ls then 0 else 1
end Go.Proofs.Ytchakmkoimgakaa
namespace Go.Proofs.Ytchakmkoimgakaa

def hi (a : Int) : Int := a / 18446744073709551616
def lo (a : Int) : Int := a % 18446744073709551616
/-- a is a wide number. -/
def R (a : Int) : Prop := -9223372036854775808 ≤ hi a ∧ hi a ≤ 9223372036854775807
instance (a : Int) : Decidable (R a) := inferInstanceAs (Decidable (_ ∧ _))
/-- a is below 0. -/
def ng (a : Int) : Bool := decide (a < 0)

theorem lo_bd (a : Int) : 0 ≤ lo a ∧ lo a ≤ 18446744073709551615 := by unfold lo; omega
theorem hi_lo (a : Int) : a = hi a * 18446744073709551616 + lo a := by unfold hi lo; omega
theorem hi_mk (h l : Int) (l0 : 0 ≤ l) (l1 : l ≤ 18446744073709551615) : hi (h * 18446744073709551616 + l) = h := by unfold hi; omega
theorem lo_mk (h l : Int) (l0 : 0 ≤ l) (l1 : l ≤ 18446744073709551615) : lo (h * 18446744073709551616 + l) = l := by unfold lo; omega
theorem hi_neg (a : Int) : decide (hi a < 0) = ng a := by unfold hi ng; rw [Bool.eq_iff_iff]; simp only [decide_eq_true_eq]; omega
theorem hl_inj {a b : Int} (h : hi a = hi b) (l : lo a = lo b) : a = b := by rw [hi_lo a, hi_lo b, h, l]

end Go.Proofs.Ytchakmkoimgakaa
namespace Go.Proofs.Ytchakmkoimgakaa
open Go.RowKit

abbrev Wv (a : Int) : Value := .agg #[.int .i64 (hi a), .int .u64 (lo a)]

theorem below_any (a : Int) (w : World) :
    Calls Try.prog 75 #[Wv a] w fun e w' => e = .returned (.bool (ng a)) ∧ w.alloc (.cells #[.int .i64 (hi a), .int .u64 (lo a)] 86) = w' := by
  have H := Lib.hid (hi_neg a)
  go_enter Try.func75, Try.ntmps75
  go_wp2
  go_ret
  exact ⟨by rw [H.out]; rfl, rfl⟩

theorem isNaN_i64 (a : Int) (w : World) : Calls Try.prog 97 #[.int .i64 a] w fun e w' => e = .returned (.bool false) ∧ w = w' := by
  go_enter Try.func97, Try.ntmps97
  go_wp2
  go_ret
  exact ⟨by simp, rfl⟩
theorem isNaN_u64 (a : Int) (w : World) : Calls Try.prog 96 #[.int .u64 a] w fun e w' => e = .returned (.bool false) ∧ w = w' := by
  go_enter Try.func96, Try.ntmps96
  go_wp2
  go_ret
  exact ⟨by simp, rfl⟩

/-- -1, 0, 1: as cmp.Compare tells it. -/
def sg (a b : Int) : Int := if a < b then -1 else if a > b then 1 else 0
theorem sg_lt {a b : Int} (h : a < b) : sg a b = -1 := by unfold sg; rw [if_pos h]
theorem sg_gt {a b : Int} (h : b < a) : sg a b = 1 := by unfold sg; rw [if_neg (by omega), if_pos h]
theorem sg_eq (a : Int) : sg a a = 0 := by unfold sg; rw [if_neg (by omega), if_neg (by omega)]

theorem compare_i64 (a b : Int) (w : World) : Calls Try.prog 93 #[.int .i64 a, .int .i64 b] w fun e w' => e = .returned (.int .i64 (sg a b)) ∧ w = w' := by
  rcases Int.lt_trichotomy a b with h | rfl | h
  · have H := Lib.hid (sg_lt h)
    go_enter Try.func93, Try.ntmps93
    go_wp2_with (go_at_call 97; refine (isNaN_i64 _ _).mono ?_; rintro e w' ⟨rfl, rfl⟩)
    go_ret
    exact ⟨by rw [H.out]; rfl, rfl⟩
  · have H := Lib.hid (sg_eq a)
    go_enter Try.func93, Try.ntmps93
    go_wp2_with (go_at_call 97; refine (isNaN_i64 _ _).mono ?_; rintro e w' ⟨rfl, rfl⟩)
    go_ret
    exact ⟨by rw [H.out]; rfl, rfl⟩
  · have H := Lib.hid (sg_gt h)
    go_enter Try.func93, Try.ntmps93
    go_wp2_with (go_at_call 97; refine (isNaN_i64 _ _).mono ?_; rintro e w' ⟨rfl, rfl⟩)
    go_ret
    exact ⟨by rw [H.out]; rfl, rfl⟩

theorem compare_u64 (a b : Int) (w : World) : Calls Try.prog 89 #[.int .u64 a, .int .u64 b] w fun e w' => e = .returned (.int .i64 (sg a b)) ∧ w = w' := by
  rcases Int.lt_trichotomy a b with h | rfl | h
  · have H := Lib.hid (sg_lt h)
    go_enter Try.func89, Try.ntmps89
    go_wp2_with (go_at_call 96; refine (isNaN_u64 _ _).mono ?_; rintro e w' ⟨rfl, rfl⟩)
    go_ret
    exact ⟨by rw [H.out]; rfl, rfl⟩
  · have H := Lib.hid (sg_eq a)
    go_enter Try.func89, Try.ntmps89
    go_wp2_with (go_at_call 96; refine (isNaN_u64 _ _).mono ?_; rintro e w' ⟨rfl, rfl⟩)
    go_ret
    exact ⟨by rw [H.out]; rfl, rfl⟩
  · have H := Lib.hid (sg_gt h)
    go_enter Try.func89, Try.ntmps89
    go_wp2_with (go_at_call 96; refine (isNaN_u64 _ _).mono ?_; rintro e w' ⟨rfl, rfl⟩)
    go_ret
    exact ⟨by rw [H.out]; rfl, rfl⟩

theorem sg_hi {a b : Int} (h : hi a ≠ hi b) : sg (hi a) (hi b) = sg a b := by
  unfold sg hi at *
  repeat' split <;> try omega
theorem sg_lo {a b : Int} (h : hi a = hi b) : sg (lo a) (lo b) = sg a b := by
  unfold sg lo hi at *
  repeat' split <;> try omega

/-- wide.Cmp -/
theorem cmp_any (a b : Int) (w : World) : Calls Try.prog 85 #[Wv a, Wv b] w fun e w' => e = .returned (.int .i64 (sg a b)) ∧ Below w.heap.size w w' := by
  by_cases h : hi a = hi b
  · have H := Lib.hid (sg_lo h)
    have g : (hi a != hi b) = false := by simp [h]
    have K := Lib.hid h
    clear h
    go_enter Try.func85, Try.ntmps85
    go_wp2_with (go_at_call 89; refine (compare_u64 _ _ _).mono ?_; rintro e w' ⟨rfl, rfl⟩)
    go_ret
    exact ⟨by rw [H.out]; rfl, ((Below.refl _ _).alloc (Nat.le_refl _) _).alloc (by simp) _⟩
  · have H := Lib.hid (sg_hi h)
    have g : (hi a != hi b) = true := by simp [h]
    clear h
    go_enter Try.func85, Try.ntmps85
    go_wp2_with (go_at_call 93; refine (compare_i64 _ _ _).mono ?_; rintro e w' ⟨rfl, rfl⟩)
    go_ret
    exact ⟨by rw [H.out]; rfl, ((Below.refl _ _).alloc (Nat.le_refl _) _).alloc (by simp) _⟩

theorem wv0 : Wv 0 = .agg #[.int .i64 0, .int .u64 0] := rfl
/-- wide.Sign -/
theorem sign_any (a : Int) (w : World) : Calls Try.prog 67 #[Wv a] w fun e w' => e = .returned (.int .i64 (sg a 0)) ∧ Below w.heap.size w w' := by
  have C := Lib.hid (fun W => cmp_any a 0 W)
  rw [wv0] at C
  go_enter Try.func67, Try.ntmps67
  go_wp2_with (go_at_call 85; refine (C.out _).mono ?_; rintro e w' ⟨rfl, hb⟩)
  go_ret
  exact ⟨rfl, ((Below.refl _ _).alloc (Nat.le_refl _) _).trans (hb.mono (by simp))⟩
end Go.Proofs.Ytchakmkoimgakaa
namespace Go.Proofs.Ytchakmkoimgakaa
open Go.RowKit

/-- Is v a word? -/
def wd (v : Int) : Bool := decide (-140737488355328 < v ∧ v < 140737488355328)
/-- Are these counts of fraction bits? -/
def fb (f : Int) : Bool := decide (8 ≤ f ∧ f ≤ 32)
/-- A number told as a word; and the error beside it. -/
def tw (v : Int) : Int := if wd v = true then v else 0
def te (v : Int) : Int := if wd v = true then 0 else 3
theorem wd_bd {v : Int} (h : wd v = true) : -140737488355328 < v ∧ v < 140737488355328 := of_decide_eq_true h
theorem wd_mk {v : Int} (h : -140737488355328 < v ∧ v < 140737488355328) : wd v = true := decide_eq_true h
theorem wd_no {v : Int} (h : wd v = false) : v ≤ -140737488355328 ∨ 140737488355328 ≤ v := by have := of_decide_eq_false h; omega
theorem fb_bd {f : Int} (h : fb f = true) : 8 ≤ f ∧ f ≤ 32 := of_decide_eq_true h
theorem fb_mk {f : Int} (h : 8 ≤ f ∧ f ≤ 32) : fb f = true := decide_eq_true h
theorem fb_no {f : Int} (h : fb f = false) : f < 8 ∨ 32 < f := by have := of_decide_eq_false h; omega
theorem tw_in {v : Int} (h : wd v = true) : tw v = v := if_pos h
theorem te_in {v : Int} (h : wd v = true) : te v = 0 := if_pos h
theorem tw_out {v : Int} (h : wd v = false) : tw v = 0 := if_neg (by simp [h])
theorem te_out {v : Int} (h : wd v = false) : te v = 3 := if_neg (by simp [h])
theorem wd_tw (v : Int) : wd (tw v) = true := by unfold tw; split; assumption; rfl

/-- fx.Check -/
theorem check_any (v : Int) (w : World) : Calls Try.prog 60 #[.int .i64 v] w fun e w' => e = .returned (.int .i64 (if wd v = true then 0 else 1)) ∧ w = w' := by
  cases g : wd v with
  | true =>
    obtain ⟨g1, g2⟩ := wd_bd g
    clear g
    go_enter Try.func60, Try.ntmps60
    go_wp2
    go_ret
    exact ⟨rfl, rfl⟩
  | false =>
    have h := wd_no g
    clear g
    by_cases g1 : v ≤ -140737488355328
    · clear h
      go_enter Try.func60, Try.ntmps60
      go_wp2
      go_ret
      exact ⟨rfl, rfl⟩
    · have g2 : 140737488355328 ≤ v := by omega
      clear h
      go_enter Try.func60, Try.ntmps60
      go_wp2
      go_ret
      exact ⟨rfl, rfl⟩
/-- fx.told -/
theorem told_any (v : Int) (w : World) : Calls Try.prog 92 #[.int .i64 v] w fun e w' => e = .returned (.tuple #[.int .i64 (tw v), .int .i64 (te v)]) ∧ w = w' := by
  have C := Lib.hid (fun W : World => check_any v W)
  cases g : wd v with
  | true =>
    rw [g] at C
    have H := Lib.hid (And.intro (tw_in g) (te_in g))
    clear g
    go_enter Try.func92, Try.ntmps92
    go_wp2_with (go_at_call 60; (with_reducible refine (C.out _).mono ?_); rintro e w' ⟨rfl, rfl⟩)
    go_ret2
    exact ⟨by rw [H.out.1, H.out.2] <;> rfl, rfl⟩
  | false =>
    rw [g] at C
    have H := Lib.hid (And.intro (tw_out g) (te_out g))
    clear g
    go_enter Try.func92, Try.ntmps92
    go_wp2_with (go_at_call 60; (with_reducible refine (C.out _).mono ?_); rintro e w' ⟨rfl, rfl⟩)
    go_ret2
    exact ⟨by rw [H.out.1, H.out.2] <;> rfl, rfl⟩
end Go.Proofs.Ytchakmkoimgakaa
namespace Go.Proofs.Ytchakmkoimgakaa
open Go Go.RowKit Go.Shelf

theorem tnb_parts {sh ds : List Int} (h : tnb sh ds = true) : may sh = true ∧ (ds.length : Int) = prod sh ∧ wds ds = true := by
  unfold tnb at h
  simp only [Bool.and_eq_true, decide_eq_true_eq] at h
  exact ⟨h.1.1, h.1.2, h.2⟩
theorem wds_wd {l : List Int} {k : Nat} (h : wds l = true) (hk : k < l.length) : wd (l.getD k 0) = true := wd_mk (wds_at h hk)

set_option maxRecDepth 100000 in
set_option maxHeartbeats 4000000 in
theorem echeck_any (vs vd : Value) (sh ds : List Int) (w : World) (hs : Ld w vs sh) (hd : Ld w vd ds) (_ls : sh.length ≤ 17592186044416) (ld : ds.length ≤ 17592186044416) :
    Calls Try.prog 41 #[.agg #[vs, vd]] w fun e w' => e = .returned (.int .i64 (if tnb sh ds = true then 0 else 1)) ∧ Below w.heap.size w w' := by
  obtain ⟨RR, hRR⟩ : ∃ RR : Int, RR = if tnb sh ds = true then 0 else 1 := ⟨_, rfl⟩
  rw [← hRR]
  have HRR := Lib.hid hRR
  clear hRR
  have B0 := Lib.hid ((Below.refl w.heap.size w).alloc (Nat.le_refl _) (.cells #[vs, vd] 26))
  obtain ⟨op, cp, rfl, _, _⟩ := id hs
  obtain ⟨od, cd, rfl, _, hx⟩ := id hd
  have HX := Lib.hid hx
  have WC := Lib.hid (fun (v : Int) (W : World) => check_any v W)
  cases hm : may sh with
  | false =>
    have C := Lib.hid (count_no _ sh _ (hs.below B0.out) hm)
    have E : Hid (tnb sh ds = false) := by unfold tnb; rw [hm]; exact Lib.hid (by simp)
    clear hs hd hm hx
    go_enter Try.func41, Try.ntmps41
    go_wp2_with (go_at_call 45; (with_reducible refine C.out.mono ?_); rintro e w' ⟨rfl, rfl⟩)
    go_ret
    exact ⟨by rw [HRR.out, E.out]; rfl, B0.out⟩
  | true =>
    have C := Lib.hid (count_ok _ sh _ (hs.below B0.out) hm)
    have E : Hid (tnb sh ds = (decide ((ds.length : Int) = prod sh) && wds ds)) := by unfold tnb; rw [hm]; exact Lib.hid (by simp)
    clear hs hd hm hx
    generalize prod sh = n at *
    by_cases q : (ds.length : Int) = n
    · have b1 : ((ds.length : Int) != n) = false := by simpa using q
      have E2 : Hid (tnb sh ds = wds ds) := by rw [Hid, E.out, decide_eq_true q, Bool.true_and]
      clear q E
      go_enter Try.func41, Try.ntmps41
      go_wp2_with (go_at_call 45; (with_reducible refine C.out.mono ?_); rintro e w' ⟨rfl, rfl⟩)
      go_loopw [25] (fun s25 wr => ∃ k : Nat, k ≤ ds.length ∧ s25 = .int .i64 k ∧ Hid (∀ j, j < k → wd (ds.getD j 0) = true) ∧ Hid (Below w.heap.size w wr)) (fun s25 _ => ds.length - (intOf s25).toNat)
      case atStart => exact ⟨0, Nat.zero_le _, rfl, fun j hj => absurd hj (Nat.not_lt_zero _), B0⟩
      case round =>
        obtain ⟨k, hk, rfl, HK, HB⟩ := hrel
        by_cases hlt : k < ds.length
        · obtain ⟨b, f, rfl, h1, c1⟩ := HX.out k hlt
          have c2 : wr.cell? ⟨b, f + k, none⟩ = some (.int .i64 (ds.getD k 0)) := (HB.out.cell (p := ⟨b, f + k, none⟩) h1).trans c1
          clear c1
          cases g : wd (ds.getD k 0) with
          | true =>
            have HG : Hid (∀ j, j < k + 1 → wd (ds.getD j 0) = true) := fun j hj => by
              by_cases e : j = k
              · rw [e]; exact g
              · exact HK.out j (by omega)
            have W1 := WC.out (ds.getD k 0)
            rw [g, if_pos rfl] at W1
            replace W1 := Lib.hid W1
            clear g
            generalize ds.getD k 0 = x at *
            go_wp2_with (go_at_call 60; (with_reducible refine (W1.out _).mono ?_); rintro e w' ⟨rfl, rfl⟩)
            exact ⟨⟨k + 1, by omega, by go_num, HG, HB⟩, by simp [intOf]; omega⟩
          | false =>
            have HG : Hid (wds ds = false) := wds_no hlt (fun h => by rw [wd_mk h] at g; cases g)
            have W1 := WC.out (ds.getD k 0)
            rw [g, if_neg (by decide)] at W1
            replace W1 := Lib.hid W1
            clear g
            generalize ds.getD k 0 = x at *
            go_wp2_with (go_at_call 60; (with_reducible refine (W1.out _).mono ?_); rintro e w' ⟨rfl, rfl⟩)
            go_ret
            exact ⟨by rw [HRR.out, E2.out, HG.out]; rfl, HB.out⟩
        · have HG : Hid (wds ds = true) := wds_yes (fun j hj => wd_bd (HK.out j (by omega)))
          go_wp2
          go_ret
          exact ⟨by rw [HRR.out, E2.out, HG.out]; rfl, HB.out⟩
    · have b1 : ((ds.length : Int) != n) = true := by simpa using q
      have E2 : Hid (tnb sh ds = false) := by rw [Hid, E.out, decide_eq_false q, Bool.false_and]
      clear q E
      go_enter Try.func41, Try.ntmps41
      go_wp2_with (go_at_call 45; (with_reducible refine C.out.mono ?_); rintro e w' ⟨rfl, rfl⟩)
      go_ret
      exact ⟨by rw [HRR.out, E2.out]; rfl, B0.out⟩
end Go.Proofs.Ytchakmkoimgakaa
namespace Go.Proofs.Ytchakmkoimgakaa
open Go Go.RowKit Go.Shelf

set_option maxRecDepth 100000 in
set_option maxHeartbeats 4000000 in
theorem areaxes_any (v : Value) (ax : List Int) (n : Nat) (w : World) (h : Ld w v ax) (hl : ax.length ≤ 17592186044416) :
    Calls Try.prog 42 #[v, .int .i64 (n : Nat)] w fun e w' => e = .returned (.bool (axb (n : Int) ax (-1))) ∧ w = w' := by
  obtain ⟨o, c, rfl, _, hx⟩ := h
  have HX := Lib.hid hx
  clear hx
  obtain ⟨Q, hQ⟩ : ∃ Q, Q = axb (n : Int) ax (-1) := ⟨_, rfl⟩
  rw [← hQ]
  have HQ := Lib.hid hQ
  clear hQ
  go_enter Try.func42, Try.ntmps42
  go_wp2
  go_step3
  go_wp2
  go_step3
  go_wp2
  go_loopw [5, 6, 11] (fun s5 s6 s11 wr => ∃ (k : Nat) (l : Int), k ≤ ax.length ∧ s5 = .int .i64 l ∧ s6 = .bool true ∧ s11 = .int .i64 k ∧ Hid (Q = axb (n : Int) (ax.drop k) l) ∧ Hid (w = wr)) (fun _ _ s11 _ => ax.length - (intOf s11).toNat)
  case atStart => exact ⟨0, -1, Nat.zero_le _, rfl, rfl, rfl, HQ, Lib.hid rfl⟩
  case round =>
    obtain ⟨k, l, hk, rfl, rfl, rfl, HK, HW⟩ := hrel
    by_cases hlt : k < ax.length
    · obtain ⟨b, f, rfl, h1, c0⟩ := HX.out k hlt
      have hw := HW.out
      subst hw
      have HP := Lib.hid (fun h1 h2 => HK.out.trans (axb_step (n := (n : Int)) (l := l) hlt h1 h2))
      have HS := Lib.hid (fun h1 => HK.out.trans (axb_stop (n := (n : Int)) (l := l) hlt h1))
      generalize ax.getD k 0 = x at *
      have HLT := Lib.hid hlt
      by_cases g1 : x ≤ l
      · have R := Lib.hid (HS.out (by omega))
        clear HP HS HK
        go_wp2
        go_ret
        exact ⟨by rw [R.out]; rfl, rfl⟩
      · by_cases g2 : (n : Int) ≤ x
        · have R := Lib.hid (HS.out (by omega))
          clear HP HS HK
          go_wp2
          go_ret
          exact ⟨by rw [R.out]; rfl, rfl⟩
        · have R := Lib.hid (HP.out (by omega) (by omega))
          clear HP HS HK
          go_wp2
          exact ⟨⟨k + 1, x, by have := HLT.out; omega, rfl, rfl, by go_num, R, by first | exact Lib.hid rfl | exact Lib.hid trivial⟩, by have := HLT.out; simp [intOf]; omega⟩
    · have R : Hid (Q = true) := Lib.hid (by rw [HK.out, List.drop_of_length_le (by omega)]; rfl)
      have hw := HW.out
      subst hw
      clear HK
      go_wp2
      go_ret
      exact ⟨by rw [R.out]; rfl, rfl⟩
end Go.Proofs.Ytchakmkoimgakaa
