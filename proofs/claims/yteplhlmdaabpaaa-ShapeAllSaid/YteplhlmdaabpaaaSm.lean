/-
  The reference's shapes: places and indexes, spread shapes.
-/
import Derived.Test.YteplhlmdaabpaaaSf
import Derived.Test.YteplhlmdaabpaaaSg
import Derived.Test.YteplhlmdaabpaaaSk
import Derived.IntWalk
namespace Go.Proofs.Yteplhlmdaabpaaa
open Go.RowKit

set_option maxRecDepth 100000 in
set_option maxHeartbeats 4000000 in
theorem rmayix_any (vs vi : Value) (s i : List Int) (w : World) (hs : Ld w vs s) (hi : Ld w vi i) (l1 : s.length ≤ 1073741824) (_l2 : i.length ≤ 1073741824) :
    Calls Try.prog 22 #[vs, vi] w fun e w' => e = .returned (.bool (inx s i)) ∧ Below w.heap.size w w' := by
  obtain ⟨oi, ci, rfl, _, hxi⟩ := hi
  obtain ⟨os, cs, rfl, _, hxs⟩ := hs
  have HI := Lib.hid hxi
  have HS := Lib.hid hxs
  clear hxi hxs
  by_cases hl : s.length = i.length
  · have HN : Hid (inx s i = true ↔ s.length = i.length ∧ ∀ k, k < s.length → 0 ≤ i.getD k 0 ∧ i.getD k 0 < s.getD k 0) := inx_iff
    have HL := Lib.hid hl
    rw [← hl]
    clear hl _l2
    go_enter Try.func22, Try.ntmps22
    go_wp2
    go_loopw [5] (fun s5 wr => ∃ k : Nat, k ≤ s.length ∧ s5 = .int .i64 k ∧ Hid (∀ j, j < k → 0 ≤ i.getD j 0 ∧ i.getD j 0 < s.getD j 0) ∧ Below w.heap.size w wr) (fun s5 _ => s.length - (intOf s5).toNat)
    case atStart => exact ⟨0, Nat.zero_le _, rfl, fun j hj => absurd hj (Nat.not_lt_zero _), Below.refl _ _⟩
    case round =>
      obtain ⟨k, hk, rfl, HK, hW⟩ := hrel
      by_cases hlt : k < s.length
      · obtain ⟨b1, f1, rfl, h1, c1⟩ := HI.out k (by have := HL.out; omega)
        obtain ⟨b2, f2, rfl, h2, c2⟩ := HS.out k hlt
        have c1' : wr.cell? ⟨b1, f1 + k, none⟩ = some (.int .i64 (i.getD k 0)) := (hW.cell (p := ⟨b1, f1 + k, none⟩) h1).trans c1
        have c2' : wr.cell? ⟨b2, f2 + k, none⟩ = some (.int .i64 (s.getD k 0)) := (hW.cell (p := ⟨b2, f2 + k, none⟩) h2).trans c2
        clear c1 c2
        by_cases g : 0 ≤ i.getD k 0 ∧ i.getD k 0 < s.getD k 0
        · have HG : Hid (∀ j, j < k + 1 → 0 ≤ i.getD j 0 ∧ i.getD j 0 < s.getD j 0) := fun j hj => by
            by_cases e : j = k
            · subst e; exact g
            · exact HK.out j (by omega)
          generalize i.getD k 0 = x at *
          generalize s.getD k 0 = d at *
          have g1 : decide (x < 0) = false := decide_eq_false (by omega)
          have g2 : decide (d ≤ x) = false := decide_eq_false (by omega)
          clear g
          go_wp2
          go_quiet (fail)
          go_wp2
          refine ⟨⟨k + 1, by omega, by go_num, HG, by first | exact below_drw hW _ | exact hW⟩, by simp [intOf]; omega⟩
        · have e : inx s i = false := by
            cases h : inx s i with
            | false => rfl
            | true => exact absurd ((HN.out.1 h).2 k hlt) g
          have E := Lib.hid e
          clear e
          generalize i.getD k 0 = x at *
          generalize s.getD k 0 = d at *
          by_cases g1 : x < 0
          · have g1' : decide (x < 0) = true := decide_eq_true g1
            clear g
            go_wp2
            go_quiet (fail)
            go_wp2
            go_ret
            exact ⟨by rw [E.out]; rfl, by first | exact below_drw hW _ | exact hW⟩
          · have g1' : decide (x < 0) = false := decide_eq_false g1
            have g2' : decide (d ≤ x) = true := decide_eq_true (by omega)
            clear g
            go_wp2
            go_quiet (fail)
            go_wp2
            go_ret
            exact ⟨by rw [E.out]; rfl, by first | exact below_drw hW _ | exact hW⟩
      · have e : inx s i = true := HN.out.2 ⟨HL.out, fun j hj => HK.out j (by omega)⟩
        have E := Lib.hid e
        clear e
        go_wp2
        go_ret
        exact ⟨by rw [E.out]; rfl, hW⟩
  · have e : inx s i = false := by
      cases h : inx s i with
      | false => rfl
      | true => exact absurd (inx_len h) hl
    have E := Lib.hid e
    have hl2 : ((s.length : Int) != (i.length : Int)) = true := by rw [bne_iff_ne]; omega
    clear e hl
    go_enter Try.func22, Try.ntmps22
    go_wp2
    go_ret
    exact ⟨by rw [E.out]; rfl, Below.refl _ _⟩

set_option maxRecDepth 100000 in
set_option maxHeartbeats 4000000 in
theorem rindex_any (vs vi : Value) (s i : List Int) (w : World) (hs : Ld w vs s) (hi : Ld w vi i) (hm : may s = true) (hx : inx s i = true) :
    Calls Try.prog 23 #[vs, vi] w fun e w' => e = .returned (.int .i64 (ix s i)) ∧ Below w.heap.size w w' := by
  have hl := inx_len hx
  have l4 := may_len hm
  have SC := Lib.hid (rstrides_any vs s w hs hm)
  obtain ⟨oi, ci, rfl, _, hxi⟩ := hi
  obtain ⟨os, cs, rfl, _, hxs⟩ := hs
  have HI := Lib.hid hxi
  have HL := Lib.hid hl
  have HP := Lib.hid (And.intro (may_pos hm) hx)
  have HD := Lib.hid (may_drop hm)
  have HV := Lib.hid (And.intro (ix_bd hx) (may_prod hm))
  rw [← hl]
  clear hxi hxs hm hx hl
  go_enter Try.func23, Try.ntmps23
  go_wp2_with (go_at_call 20; (with_reducible refine SC.out.mono ?_); rintro e w1 ⟨rfl, hblk, hB1⟩)
  have hB1s := hB1.size
  have hgl := hblk.lt
  go_loopw [6, 7] (fun s6 s7 wr => ∃ (k : Nat) (p : Int), k ≤ s.length ∧ 0 ≤ p ∧ p ≤ 65536 ∧ s7 = .int .i64 k ∧ s6 = .int .i64 p ∧ Hid (Sum s i (ix s i) p k) ∧ Below w1.heap.size w1 wr) (fun _ s7 _ => s.length - (intOf s7).toNat)
  case atStart => exact ⟨0, 0, Nat.zero_le _, by decide, by decide, rfl, rfl, sum_start, Below.refl _ _⟩
  case round =>
    obtain ⟨k, p, hk, p0, p1, rfl, rfl, HK, hW⟩ := hrel
    by_cases hlt : k < s.length
    · obtain ⟨b1, f1, rfl, h1, c1⟩ := HI.out k (by have := HL.out; omega)
      have c1' : wr.cell? ⟨b1, f1 + k, none⟩ = some (.int .i64 (i.getD k 0)) := (hW.cell (p := ⟨b1, f1 + k, none⟩) (by show b1 < _; omega)).trans ((hB1.cell (p := ⟨b1, f1 + k, none⟩) h1).trans c1)
      have c2' : wr.cell? ⟨w.heap.size, k, none⟩ = some (.int .i64 (prod (s.drop (k + 1)))) := by
        rw [hW.cell (p := ⟨w.heap.size, k, none⟩) hgl, hblk.cell, ints_at (by rw [stl_len]; exact hlt), stl_getD s k hlt]
      obtain ⟨st, n0, n1, n2⟩ := sum_step HK.out HP.out.2 HP.out.1 hlt
      have hv := HV.out
      have st1 := st.2.1
      have ST := Lib.hid st
      clear c1 st
      generalize i.getD k 0 = x at *
      generalize prod (s.drop (k + 1)) = P at *
      have q1 : x * P ≤ 65536 := by omega
      have q2 : p + x * P ≤ 65536 := by omega
      have HV2 := Lib.hid hv
      clear hv n1 n2
      have e1 : IntKind.i64.wrap (x * P) = x * P := IntWalk.i64_in _ ⟨by omega, by omega⟩
      have e2 : IntKind.i64.wrap (p + x * P) = p + x * P := IntWalk.i64_in _ ⟨by omega, by omega⟩
      go_wp2
      go_quiet (fail)
      clear e1 e2
      go_wp2
      refine ⟨⟨k + 1, p + x * P, by omega, st1, q2, by go_num, rfl, ST, by first | exact below_drw hW _ | exact hW⟩, by simp [intOf]; omega⟩
    · obtain rfl : k = s.length := by omega
      obtain rfl := sum_end HK.out
      go_wp2
      go_ret
      exact ⟨rfl, hB1.trans (hW.mono hB1s)⟩

/-- Where a place's index is being told. -/
def Ati (s : List Int) (n N : Int) (k : Nat) : Prop := k ≤ s.length ∧ 0 ≤ N ∧ N < prod (s.drop k) ∧ atl (s.drop k) N = (atl s n).drop k
theorem ati_start {s : List Int} {n : Int} (h0 : 0 ≤ n) (h1 : n < prod s) : Ati s n n 0 := ⟨Nat.zero_le _, h0, by simpa using h1, by simp⟩
theorem ati_step {s : List Int} {n N : Int} {k : Nat} (h : Ati s n N k) (hp : pos s) (hk : k < s.length) : Ati s n (N % prod (s.drop (k + 1))) (k + 1) ∧ (atl s n).getD k 0 = N / prod (s.drop (k + 1)) := by
  obtain ⟨a, b, c, d⟩ := h
  have q := prod_pos (pos_drop hp (k + 1))
  rw [drop_getD hk, atl, drop_getD (show k < (atl s n).length by rw [atl_len]; exact hk)] at d
  simp only [List.cons.injEq] at d
  exact ⟨⟨by omega, Int.emod_nonneg _ (by omega), Int.emod_lt_of_pos _ (by omega), d.2⟩, d.1.symm⟩
theorem ati_bd {s : List Int} {n N : Int} {k : Nat} (h : Ati s n N k) (hm : may s = true) : 0 ≤ N ∧ N ≤ 65536 := by
  have := may_drop hm k
  exact ⟨h.2.1, by have := h.2.2.1; omega⟩

set_option maxRecDepth 100000 in
set_option maxHeartbeats 4000000 in
theorem rat_any (v : Value) (ls : List Int) (n : Int) (w : World) (h : Ld w v ls) (hm : may ls = true) (h0 : 0 ≤ n) (h1 : n < prod ls) :
    Calls Try.prog 24 #[v, .int .i64 n] w fun e w' => ∃ v, e = .returned v ∧ Ld w' v (atl ls n) ∧ Below w.heap.size w w' := by
  obtain ⟨i0, hi0, hz0, hz1, hz2⟩ := info_parts infoI
  have l4 := may_len hm
  have SC := Lib.hid (rstrides_any v ls w h hm)
  obtain ⟨o, c, rfl, _, hx⟩ := h
  have HP := Lib.hid (may_pos hm)
  have HD := Lib.hid (may_drop hm)
  have HM := Lib.hid hm
  have HS : Hid (Ati ls n n 0) := ati_start h0 h1
  clear hx hm
  go_enter Try.func24, Try.ntmps24
  have mk : ∀ W : World, Hid ((Instr.makeSlice 23 (.int .i64 (ls.length : Int)) (.int .i64 (ls.length : Int))).run Try.prog W = .ok (.slice (some ⟨W.heap.size, 0, none⟩) ls.length ls.length) (W.alloc (.cells (ints (List.replicate ls.length 0)).toArray 3))) := by
    intro W
    have := run_make (w := W) 23 3 i0 (.int .i64 0) Try.underlying23 hi0 hz0 .i64 .i64 ls.length ls.length (by omega) (by omega) (by rw [hz2]; omega) (by omega)
    rw [Hid, this, hz1, ← made_ints]; simp [Value.cells]
  have MK := Lib.hid mk
  clear mk
  go_wp2_with (go_at_call 20; (with_reducible refine SC.out.mono ?_); rintro e w1 ⟨rfl, hblk, hB1⟩; have mk := (MK.out w1).out)
  clear mk
  have hB1s := hB1.size
  have hgl := hblk.lt
  go_loopw [1, 7] (fun s1 s7 wr => ∃ (k : Nat) (N : Int) (L : List Int), k ≤ ls.length ∧ 0 ≤ N ∧ N ≤ 65536 ∧ s7 = .int .i64 k ∧ s1 = .int .i64 N ∧ Blk wr w.heap.size 3 (ints (stl ls)).toArray ∧ Blk wr w1.heap.size 3 (ints L).toArray ∧ Hid (Ati ls n N k) ∧ Hid (L.length = ls.length ∧ ∀ j, j < k → L.getD j 0 = (atl ls n).getD j 0) ∧ Below w.heap.size w wr) (fun _ s7 _ => ls.length - (intOf s7).toNat)
  case atStart => exact ⟨0, n, List.replicate ls.length 0, Nat.zero_le _, (ati_bd HS.out HM.out).1, (ati_bd HS.out HM.out).2, rfl, rfl, hblk.alloc _, Blk.new _ _ _, HS, ⟨by simp, fun j hj => absurd hj (Nat.not_lt_zero _)⟩, hB1.alloc hB1s _⟩
  case round =>
    obtain ⟨k, N, L, hk, n0, n1, rfl, rfl, hs, hb, HA, HL, hB⟩ := hrel
    by_cases hlt : k < ls.length
    · have sc := hs.cell k
      rw [ints_at (by rw [stl_len]; exact hlt), stl_getD ls k hlt] at sc
      have kc := hb.cell k
      have hL := HL.out.1
      rw [ints_at (by omega)] at kc
      have kf := hb.frozen k
      generalize L.getD k 0 = l0 at kc
      obtain ⟨st, ge⟩ := ati_step HA.out HP.out hlt
      have bd := ati_bd st HM.out
      have pp := HD.out (k + 1)
      have R : Hid ((L.set k (N / prod (ls.drop (k + 1)))).length = ls.length ∧ ∀ j, j < k + 1 → (L.set k (N / prod (ls.drop (k + 1)))).getD j 0 = (atl ls n).getD j 0) := by
        refine ⟨by simpa using hL, fun j hj => ?_⟩
        by_cases e : k = j
        · subst e; rw [set_getD_self (by omega), ge]
        · rw [set_getD_ne e]; exact HL.out.2 j (by omega)
      have ST := Lib.hid st
      have HL2 := Lib.hid hL
      clear st ge hL HL
      generalize prod (ls.drop (k + 1)) = P at *
      have pz : ¬ P = 0 := by omega
      obtain ⟨b1, b2⟩ := bd
      obtain ⟨pp1, pp2⟩ := pp
      have s1 := hs.far (p := ⟨w1.heap.size, k, none⟩) (by show w.heap.size ≠ w1.heap.size; omega) (.int .i64 (N / P))
      have sc2 := s1.cell k
      rw [hs.far (p := ⟨w1.heap.size, k, none⟩) (by show w.heap.size ≠ w1.heap.size; omega) (.int .i64 (N / P)) |>.cell k] at sc2
      have sc3 : (wr.setCell ⟨w1.heap.size, k, none⟩ (.int .i64 (N / P))).cell? ⟨w.heap.size, k, none⟩ = some (.int .i64 P) := by rw [s1.cell k, ← hs.cell k]; exact sc
      clear sc2
      go_wp2
      refine ⟨⟨k + 1, N % P, L.set k (N / P), by omega, b1, b2, by go_num, rfl, s1, hb.put k _, ST, R, hB.setCell hB1s _⟩, by simp [intOf]; omega⟩
    · obtain rfl : k = ls.length := by omega
      obtain rfl : L = atl ls n := ext_getD (by rw [atl_len]; exact HL.out.1) fun i hi => HL.out.2 i (by have := HL.out.1; omega)
      have hld := Ld.of_blk hb (c := ls.length) (by rw [atl_len]; exact Nat.le_refl _)
      rw [atl_len] at hld
      have HLD := Lib.hid hld
      clear hld
      go_wp2
      go_ret
      exact ⟨_, rfl, HLD.out, hB⟩

set_option maxRecDepth 100000 in
set_option maxHeartbeats 2000000 in
theorem rdim_any (vs : Value) (s : List Int) (w : World) (hs : Ld w vs s) (l4 : s.length ≤ 1073741824) (k : Nat) (k2 : k ≤ 1073741824) :
    Calls Try.prog 36 #[vs, .int .i64 k] w fun e w' => e = .returned (.int .i64 (ov s (k + 1))) ∧ w = w' := by
  obtain ⟨os, cs, rfl, _, hxs⟩ := hs
  have HS := Lib.hid hxs
  clear hxs
  by_cases h : k < s.length
  · obtain ⟨q, hq⟩ : ∃ q, s.length = q + k + 1 := ⟨s.length - k - 1, by omega⟩
    obtain ⟨b, f, rfl, hb, hc⟩ := HS.out q (by omega)
    have E : Hid (ov s (k + 1) = s.getD q 0) := by unfold ov; rw [if_neg (by omega), show s.length - (k + 1) = q by omega]; exact Lib.hid rfl
    have e1 : ((q + k + 1 : Nat) : Int) - 1 = ((q + k : Nat) : Int) := by omega
    have e2 : ((q + k : Nat) : Int) - (k : Int) = (q : Int) := by omega
    have h2 : k < q + k + 1 := by omega
    rw [hq]
    rw [hq] at l4
    clear HS hq h
    generalize s.getD q 0 = x at *
    go_enter Try.func36, Try.ntmps36
    go_wp2
    go_ret
    exact ⟨by rw [E.out]; rfl, rfl⟩
  · have E : Hid (ov s (k + 1) = 1) := by unfold ov; rw [if_pos (by omega)]; exact Lib.hid rfl
    go_enter Try.func36, Try.ntmps36
    go_wp2
    go_ret
    exact ⟨by rw [E.out]; rfl, rfl⟩
end Go.Proofs.Yteplhlmdaabpaaa
