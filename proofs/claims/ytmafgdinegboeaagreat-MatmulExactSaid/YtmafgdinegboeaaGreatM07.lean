/-
  
  
  
  
  
  
-/
import Derived.IntWalk
import Derived.Deep.QuietTactic
import Derived.BigQuiet
import Derived.Deep.AppendLies
import Derived.Test.YtmafgdinegboeaaGreatRows
import Derived.WalkKit
import Derived.WalkSpells
import Derived.StillTactics
import Derived.Laws.Pointers
import Derived.Laws.Externs
import Derived.Deep.RegionHeld3
import Derived.Shelf.Spec.BitsCarry
import Derived.RowKit3
import Derived.Lib.Hide
import Derived.Test.YtmafgdinegboeaaGreatM01
import Derived.Test.YtmafgdinegboeaaGreatM02
import Derived.Test.YtmafgdinegboeaaGreatM05
import Derived.Test.YtmafgdinegboeaaGreatM06
namespace Go.Proofs.YtmafgdinegboeaaGreat
open Go.RowKit


set_option maxRecDepth 100000 in
set_option maxHeartbeats 4000000 in
theorem rindex_any (vs vi : Value) (s i : List Int) (w : World) (hs : Ld w vs s) (hi : Ld w vi i) (hm : may s = true) (hx : inx s i = true) :
    Calls Tryz.prog 52 #[vs, vi] w fun e w' => e = .returned (.int .i64 (ix s i)) ∧ Below w.heap.size w w' := by
  have hl := inx_len hx
  have l4 := may_len hm
  have SC := Lib.hid (rstrides_any vs s w hs hm)
  obtain ⟨oi, ci, rfl, _, hxi⟩ := hi
  obtain ⟨os, cs, rfl, _, hxs⟩ := hs
  have HI := Lib.hid hxi
  have HL := Lib.hid hl
  have HP := Lib.hid (And.intro (may_pos hm) hx)
  have HD := Lib.hid (may_drop hm)
  have HV := Lib.hid (And.intro (ix_bd hx) (may_prod hm))
  rw [← hl]
  clear hxi hxs hm hx hl
  go_enter Tryz.func52, Tryz.ntmps52
  go_wp2_with (go_at_call 111; (with_reducible refine SC.out.mono ?_); rintro e w1 ⟨rfl, hblk, hB1⟩)
  have hB1s := hB1.size
  have hgl := hblk.lt
  go_loopw [6, 7] (fun s6 s7 wr => ∃ (k : Nat) (p : Int), k ≤ s.length ∧ 0 ≤ p ∧ p ≤ 65536 ∧ s7 = .int .i64 k ∧ s6 = .int .i64 p ∧ Hid (Sum s i (ix s i) p k) ∧ Below w1.heap.size w1 wr) (fun _ s7 _ => s.length - (intOf s7).toNat)
  case atStart => exact ⟨0, 0, Nat.zero_le _, by decide, by decide, rfl, rfl, sum_start, Below.refl _ _⟩
  case round =>
    obtain ⟨k, p, hk, p0, p1, rfl, rfl, HK, hW⟩ := hrel
    by_cases hlt : k < s.length
    · obtain ⟨b1, f1, rfl, h1, c1⟩ := HI.out k (by have := HL.out; omega)
      have c1' : wr.cell? ⟨b1, f1 + k, none⟩ = some (.int .i64 (i.getD k 0)) := (hW.cell (p := ⟨b1, f1 + k, none⟩) (by show b1 < _; omega)).trans ((hB1.cell (p := ⟨b1, f1 + k, none⟩) h1).trans c1)
      have c2' : wr.cell? ⟨w.heap.size, k, none⟩ = some (.int .i64 (prod (s.drop (k + 1)))) := by
        rw [hW.cell (p := ⟨w.heap.size, k, none⟩) hgl, hblk.cell, ints_at (by rw [stl_len]; exact hlt), stl_getD s k hlt]
      obtain ⟨st, n0, n1, n2⟩ := sum_step HK.out HP.out.2 HP.out.1 hlt
      have hv := HV.out
      have st1 := st.2.1
      have ST := Lib.hid st
      clear c1 st
      generalize i.getD k 0 = x at *
      generalize prod (s.drop (k + 1)) = P at *
      have q1 : x * P ≤ 65536 := by omega
      have q2 : p + x * P ≤ 65536 := by omega
      have HV2 := Lib.hid hv
      clear hv n1 n2
      have e1 : IntKind.i64.wrap (x * P) = x * P := IntWalk.i64_in _ ⟨by omega, by omega⟩
      have e2 : IntKind.i64.wrap (p + x * P) = p + x * P := IntWalk.i64_in _ ⟨by omega, by omega⟩
      go_wp2
      go_quiet (fail)
      clear e1 e2
      go_wp2
      refine ⟨⟨k + 1, p + x * P, by omega, st1, q2, by go_num, rfl, ST, by first | exact below_drw hW _ | exact hW⟩, by simp [intOf]; omega⟩
    · obtain rfl : k = s.length := by omega
      obtain rfl := sum_end HK.out
      go_wp2
      go_ret
      exact ⟨rfl, hB1.trans (hW.mono hB1s)⟩

def Ati (s : List Int) (n N : Int) (k : Nat) : Prop := k ≤ s.length ∧ 0 ≤ N ∧ N < prod (s.drop k) ∧ atl (s.drop k) N = (atl s n).drop k
theorem ati_start {s : List Int} {n : Int} (h0 : 0 ≤ n) (h1 : n < prod s) : Ati s n n 0 := ⟨Nat.zero_le _, h0, by simpa using h1, by simp⟩
theorem ati_step {s : List Int} {n N : Int} {k : Nat} (h : Ati s n N k) (hp : pos s) (hk : k < s.length) : Ati s n (N % prod (s.drop (k + 1))) (k + 1) ∧ (atl s n).getD k 0 = N / prod (s.drop (k + 1)) := by
  obtain ⟨a, b, c, d⟩ := h
  have q := prod_pos (pos_drop hp (k + 1))
  rw [drop_getD hk, atl, drop_getD (show k < (atl s n).length by rw [atl_len]; exact hk)] at d
  simp only [List.cons.injEq] at d
  exact ⟨⟨by omega, Int.emod_nonneg _ (by omega), Int.emod_lt_of_pos _ (by omega), d.2⟩, d.1.symm⟩
theorem ati_bd {s : List Int} {n N : Int} {k : Nat} (h : Ati s n N k) (hm : may s = true) : 0 ≤ N ∧ N ≤ 65536 := by
  have := may_drop hm k
  exact ⟨h.2.1, by have := h.2.2.1; omega⟩

set_option maxRecDepth 100000 in
set_option maxHeartbeats 4000000 in
theorem rat_any (v : Value) (ls : List Int) (n : Int) (w : World) (h : Ld w v ls) (hm : may ls = true) (h0 : 0 ≤ n) (h1 : n < prod ls) :
    Calls Tryz.prog 50 #[v, .int .i64 n] w fun e w' => ∃ v, e = .returned v ∧ Ld w' v (atl ls n) ∧ Below w.heap.size w w' := by
  obtain ⟨i0, hi0, hz0, hz1, hz2⟩ := info_parts infoI
  have l4 := may_len hm
  have SC := Lib.hid (rstrides_any v ls w h hm)
  obtain ⟨o, c, rfl, _, hx⟩ := h
  have HP := Lib.hid (may_pos hm)
  have HD := Lib.hid (may_drop hm)
  have HM := Lib.hid hm
  have HS : Hid (Ati ls n n 0) := ati_start h0 h1
  clear hx hm
  go_enter Tryz.func50, Tryz.ntmps50
  have mk : ∀ W : World, Hid ((Instr.makeSlice 23 (.int .i64 (ls.length : Int)) (.int .i64 (ls.length : Int))).run Tryz.prog W = .ok (.slice (some ⟨W.heap.size, 0, none⟩) ls.length ls.length) (W.alloc (.cells (ints (List.replicate ls.length 0)).toArray 3))) := by
    intro W
    have := run_make (w := W) 23 3 i0 (.int .i64 0) Tryz.underlying23 hi0 hz0 .i64 .i64 ls.length ls.length (by omega) (by omega) (by rw [hz2]; omega) (by omega)
    rw [Hid, this, hz1, ← made_ints]; simp [Value.cells]
  have MK := Lib.hid mk
  clear mk
  go_wp2_with (go_at_call 111; (with_reducible refine SC.out.mono ?_); rintro e w1 ⟨rfl, hblk, hB1⟩; have mk := (MK.out w1).out)
  clear mk
  have hB1s := hB1.size
  have hgl := hblk.lt
  go_loopw [1, 7] (fun s1 s7 wr => ∃ (k : Nat) (N : Int) (L : List Int), k ≤ ls.length ∧ 0 ≤ N ∧ N ≤ 65536 ∧ s7 = .int .i64 k ∧ s1 = .int .i64 N ∧ Blk wr w.heap.size 3 (ints (stl ls)).toArray ∧ Blk wr w1.heap.size 3 (ints L).toArray ∧ Hid (Ati ls n N k) ∧ Hid (L.length = ls.length ∧ ∀ j, j < k → L.getD j 0 = (atl ls n).getD j 0) ∧ Below w.heap.size w wr) (fun _ s7 _ => ls.length - (intOf s7).toNat)
  case atStart => exact ⟨0, n, List.replicate ls.length 0, Nat.zero_le _, (ati_bd HS.out HM.out).1, (ati_bd HS.out HM.out).2, rfl, rfl, hblk.alloc _, Blk.new _ _ _, HS, ⟨by simp, fun j hj => absurd hj (Nat.not_lt_zero _)⟩, hB1.alloc hB1s _⟩
  case round =>
    obtain ⟨k, N, L, hk, n0, n1, rfl, rfl, hs, hb, HA, HL, hB⟩ := hrel
    by_cases hlt : k < ls.length
    · have sc := hs.cell k
      rw [ints_at (by rw [stl_len]; exact hlt), stl_getD ls k hlt] at sc
      have kc := hb.cell k
      have hL := HL.out.1
      rw [ints_at (by omega)] at kc
      have kf := hb.frozen k
      generalize L.getD k 0 = l0 at kc
      obtain ⟨st, ge⟩ := ati_step HA.out HP.out hlt
      have bd := ati_bd st HM.out
      have pp := HD.out (k + 1)
      have R : Hid ((L.set k (N / prod (ls.drop (k + 1)))).length = ls.length ∧ ∀ j, j < k + 1 → (L.set k (N / prod (ls.drop (k + 1)))).getD j 0 = (atl ls n).getD j 0) := by
        refine ⟨by simpa using hL, fun j hj => ?_⟩
        by_cases e : k = j
        · subst e; rw [set_getD_self (by omega), ge]
        · rw [set_getD_ne e]; exact HL.out.2 j (by omega)
      have ST := Lib.hid st
      have HL2 := Lib.hid hL
      clear st ge hL HL
      generalize prod (ls.drop (k + 1)) = P at *
      have pz : ¬ P = 0 := by omega
      obtain ⟨b1, b2⟩ := bd
      obtain ⟨pp1, pp2⟩ := pp
      have s1 := hs.far (p := ⟨w1.heap.size, k, none⟩) (by show w.heap.size ≠ w1.heap.size; omega) (.int .i64 (N / P))
      have sc2 := s1.cell k
      rw [hs.far (p := ⟨w1.heap.size, k, none⟩) (by show w.heap.size ≠ w1.heap.size; omega) (.int .i64 (N / P)) |>.cell k] at sc2
      have sc3 : (wr.setCell ⟨w1.heap.size, k, none⟩ (.int .i64 (N / P))).cell? ⟨w.heap.size, k, none⟩ = some (.int .i64 P) := by rw [s1.cell k, ← hs.cell k]; exact sc
      clear sc2
      go_wp2
      refine ⟨⟨k + 1, N % P, L.set k (N / P), by omega, b1, b2, by go_num, rfl, s1, hb.put k _, ST, R, hB.setCell hB1s _⟩, by simp [intOf]; omega⟩
    · obtain rfl : k = ls.length := by omega
      obtain rfl : L = atl ls n := ext_getD (by rw [atl_len]; exact HL.out.1) fun i hi => HL.out.2 i (by have := HL.out.1; omega)
      have hld := Ld.of_blk hb (c := ls.length) (by rw [atl_len]; exact Nat.le_refl _)
      rw [atl_len] at hld
      have HLD := Lib.hid hld
      clear hld
      go_wp2
      go_ret
      exact ⟨_, rfl, HLD.out, hB⟩

end Go.Proofs.YtmafgdinegboeaaGreat
namespace Go.Proofs.YtmafgdinegboeaaGreat
open Go.RowKit

end Go.Proofs.YtmafgdinegboeaaGreat
namespace Go.Proofs.YtmafgdinegboeaaGreat
open Go.RowKit
attribute [local go_sem ↓] Go.wp_at_zero Go.wp_at_succ

theorem grown_put {w W : World} {g k : Nat} (h : w.grownBy W (some g)) (v : Value) : w.grownBy (W.setCell ⟨g, k, none⟩ v) (some g) :=
  ⟨h.os, h.tape, h.output, by simpa using h.size, fun j hj hne => (Below.heap_setCell _ _ _ j (fun e => hne (by rw [e]))).trans (h.block j hj hne)⟩
theorem blk_new1 (w : World) (o : Obj) (t : TypeId) (cs : Array Value) : Blk ((w.alloc o).alloc (.cells cs t)) (w.heap.size + 1) t cs := by
  have := Blk.new (w.alloc o) t cs
  rwa [World.size_alloc] at this
end Go.Proofs.YtmafgdinegboeaaGreat
namespace Go.Proofs.YtmafgdinegboeaaGreat
open Go.RowKit Go.Shelf
attribute [local go_sem] Oper.semAt_some

def cps (sh st : List Int) (off : Int) (ls : List Int) (N : Nat) : List Int := (List.range N).map fun k => ls.getD (off + dot st (atl sh (k : Nat))).toNat 0
theorem cps_len (sh st : List Int) (off : Int) (ls : List Int) (N : Nat) : (cps sh st off ls N).length = N := by simp [cps]
theorem cps_getD {sh st : List Int} {off : Int} {ls : List Int} {N k : Nat} (h : k < N) : (cps sh st off ls N).getD k 0 = ls.getD (off + dot st (atl sh (k : Nat))).toNat 0 := by simp [cps, List.getD, h]
theorem cps_snoc {sh st : List Int} {off : Int} {ls : List Int} {N k P : Nat} (h : k < N) (e : off + dot st (atl sh (k : Nat)) = (P : Int)) : (cps sh st off ls N).take (k + 1) = (cps sh st off ls N).take k ++ [ls.getD P 0] := by
  have hk : k < (cps sh st off ls N).length := by rw [cps_len]; exact h
  have h1 := cps_getD (sh := sh) (st := st) (off := off) (ls := ls) h
  rw [e, Int.toNat_natCast] at h1
  rw [List.take_succ_eq_append_getElem hk]
  rw [List.getD_eq_getElem?_getD, List.getElem?_eq_getElem hk] at h1
  rw [← h1]; rfl
theorem blk2 {W : World} {b : Nat} {t : TypeId} {x y : Value} (h : Blk W b t #[x, y]) : W.cell? ⟨b, 0, none⟩ = some x ∧ W.cell? ⟨b, 1, none⟩ = some y ∧ W.frozen? ⟨b, 0, none⟩ = false ∧ W.frozen? ⟨b, 1, none⟩ = false :=
  ⟨h.cell 0, h.cell 1, h.frozen 0, h.frozen 1⟩
def SomeT (w : World) (er : Int) (sh ds : List Int) (e : Ending) (w' : World) : Prop := ∃ os cs od cd, e = .returned (.tuple #[.agg #[.slice os sh.length cs, .slice od ds.length cd], .int .i64 er]) ∧ w'.ownsRow w.heap.size 3 1 (.slice os sh.length cs) sh.length (ints sh) ∧ w'.ownsRow w.heap.size 2 1 (.slice od ds.length cd) ds.length (ints ds) ∧ Below w.heap.size w w'
theorem infoW : (Tryz.prog.info? 2).map (fun i => (i.zero, i.size, i.bytes)) = some (some (.int .i64 0), 1, 8) := by kernel_rfl

set_option maxRecDepth 100000 in
theorem placesf_any (vs vt : Value) (off : Int) (w : World) : Calls Tryz.prog 168 #[.agg #[vs, vt, .int .i64 off]] w fun e w' => e = .returned (.func (.func 208) #[] #[.pointer (some ⟨w.heap.size, 0, none⟩)]) ∧
    w.alloc (.cells #[vs, vt, .int .i64 off] 168) = w' := by
  go_enter Tryz.func168, Tryz.ntmps168
  go_wp2
  refine bodyPost_ret (results_tmp rfl _ _ _) rfl ?_
  exact ⟨rfl, rfl⟩

theorem tens_not_row {w : World} {base n b : Nat} {v : Value} {xs : List Value} {cs : Array Value} {t u : TypeId} (h : w.ownsRow base t 1 v n xs) (hb : Blk w b u cs) (hne : t ≠ u) : ¬ v.ownBlock = some b := by
  intro e
  rcases h.2 with ⟨rfl, _⟩ | ⟨g, cap, cur, rfl, _, hh, _⟩
  · simp [Value.ownBlock] at e
  · simp only [Value.ownBlock, Option.some.injEq] at e
    subst e
    have := hh.symm.trans hb
    simp only [Option.some.injEq, Obj.cells.injEq] at this
    exact hne this.2.1
theorem cp_step {X w9 w5 : World} {T B g k : Nat} {y : Int} {dv : Value} {xs : List Value} {cs : Array Value} (hb : Blk X T 26 cs) (hu : X.ownsRow B 2 1 dv k xs) (hB : Below T w5 X)
    (hgrow : (X.alloc (.cells #[.int .i64 y] 2)).drew.grownBy w9 dv.ownBlock) (_hat : dv.ownBlock = some g ∨ g = X.heap.size + 1) (hTl : T < B) (hXs : B ≤ X.heap.size) :
    Blk w9 T 26 cs ∧ Below T w5 w9 := by
  refine ⟨((hb.alloc _).drew).kept hgrow (fun e => by have := (hu.lt T e.symm).1; omega), ?_⟩
  have h1 := below_drw (hB.alloc (by omega) (.cells #[.int .i64 y] 2)) 1
  exact h1.grown hgrow (by simp; omega) (fun j e => by have := (hu.lt j e).1; omega)
def CpI (T B : Nat) (w5 : World) (sv : Value) (ds : List Int) (k : Nat) (W : World) : Prop := ∃ dv, Blk W T 26 #[sv, dv] ∧ W.ownsRow B 2 1 dv k (ints (ds.take k)) ∧ Below T w5 W ∧ B ≤ W.heap.size
theorem cpi_own (T B : Nat) (w5 : World) (sv : Value) (ds : List Int) (hT : T < B) (_hs : w5.heap.size ≤ B) : OwnFrom B (fun (pre : List Nat) W => CpI T B w5 sv ds pre.length W) := by
  rintro s X Y row ⟨dv, h1, h2, h3, h4⟩ hg hr
  have hc : ∀ r, row = some r → ∃ o : Obj, X.heap[r]? = some o ∧ o.isCells = false := fun r e => (hr r e).2
  exact ⟨dv, blk_own (β := Unit) T _ (fun _ => _) () X Y row h1 hg hc, own_kept h2 hg hc, h3.grown hg (by omega) (fun k e => by have := (hr k e).1; omega), Nat.le_trans h4 hg.size⟩
theorem cp_done {X w9 w5 : World} {T B g k c : Nat} {y : Int} {dv sv : Value} {ds : List Int} (hown : w9.ownsRow B 2 1 (.slice (some ⟨g, 0, none⟩) (k + 1) c) (k + 1) (ints (ds.take k) ++ [.int .i64 y])) (hb9 : Blk w9 T 26 #[sv, dv]) (hB9 : Below T w5 w9) (hb : Blk X T 26 #[sv, dv]) (hu : X.ownsRow B 2 1 dv k (ints (ds.take k)))
    (hgrow : (X.alloc (.cells #[.int .i64 y] 2)).drew.grownBy w9 dv.ownBlock) (hE : ds.take (k + 1) = ds.take k ++ [y]) (hTl : T < B) (hXs : B ≤ X.heap.size) :
    KeepsFrom B X (w9.setCell ⟨T, 1, none⟩ (.slice (some ⟨g, 0, none⟩) (k + 1) c)) ∧ KV (fun j => j < B ∧ j ≠ T) X (w9.setCell ⟨T, 1, none⟩ (.slice (some ⟨g, 0, none⟩) (k + 1) c)) ∧ CpI T B w5 sv ds (k + 1) (w9.setCell ⟨T, 1, none⟩ (.slice (some ⟨g, 0, none⟩) (k + 1) c)) := by
  have hsz : X.heap.size ≤ w9.heap.size := Nat.le_trans (by simp) hgrow.size
  have same : ∀ j, j < X.heap.size → some j ≠ dv.ownBlock → j ≠ T → (w9.setCell ⟨T, 1, none⟩ (.slice (some ⟨g, 0, none⟩) (k + 1) c)).heap[j]? = X.heap[j]? := fun j h1 h2 h3 =>
    (Below.heap_setCell _ _ _ j h3).trans ((hgrow.block j (by simp; omega) h2).trans (Below.heap_alloc _ _ _ h1))
  have isrow : ∀ (j : Nat) (o : Obj), X.heap[j]? = some o → some j = dv.ownBlock → ∃ cur, o = .cells cur 2 (0, 0) := by
    intro j o ho e
    rcases hu.2 with ⟨rfl, _⟩ | ⟨g', cap, cur, rfl, _, hh, _⟩
    · simp [Value.ownBlock] at e
    · simp only [Value.ownBlock, Option.some.injEq] at e
      subst e
      exact ⟨cur, Option.some.inj (ho.symm.trans hh)⟩
  refine ⟨⟨by simpa using hsz, fun j o hj ho hc => ?_⟩, ⟨fun j hj => ?_, fun j cs t fz ho ht => ?_⟩, .slice (some ⟨g, 0, none⟩) (k + 1) c, hb9.set_ 1 _, ?_, hB9.setCell (Nat.le_refl _) _, by simp; omega⟩
  · refine (same j (Array.getElem?_eq_some_iff.1 ho).1 (fun e => ?_) (by omega)).trans ho
    obtain ⟨cur, rfl⟩ := isrow j o ho e
    cases hc
  · refine same j (by omega) (fun e => ?_) hj.2
    have := (hu.lt j e.symm).1
    omega
  · refine same j (Array.getElem?_eq_some_iff.1 ho).1 (fun e => ?_) (fun e => ?_)
    · obtain ⟨cur, h2⟩ := isrow j _ ho e
      simp only [Obj.cells.injEq] at h2
      rcases ht with rfl | rfl | rfl <;> simp at h2
    · subst e
      have h2 := ho.symm.trans hb
      simp only [Option.some.injEq, Obj.cells.injEq] at h2
      rcases ht with rfl | rfl | rfl <;> simp at h2
  · rw [hE, ints_snoc]
    exact hown.kept (grown_set w9 ⟨T, 1, none⟩ _) (.inr (tens_not_row hown hb9 (by decide)))

theorem cp_end {X : World} {b D base n : Nat} {e : TypeId} {v : Value} {xs : List Value} {cs : Array Value} {o : Obj} (hO : X.ownsRow base e 1 v n xs) (hb : Blk X b 26 cs) (hD : X.heap[D]? = some o) (hc : o.isCells = false) (hne : e ≠ 26) (u1 u2 : Value) (o' : Obj) :
    (((X.setCell ⟨b, 0, none⟩ u1).setCell ⟨b, 1, none⟩ u2).putObj D o').ownsRow base e 1 v n xs := by
  have h1 := hO.kept (grown_set X ⟨b, 0, none⟩ u1) (.inr (tens_not_row hO hb hne))
  have hb1 := hb.set_ 0 u1
  have h2 := h1.kept (grown_set _ ⟨b, 1, none⟩ u2) (.inr (tens_not_row h1 hb1 hne))
  have hne : D ≠ b := by rintro rfl; rw [show X.heap[D]? = _ from hb] at hD; cases hD; cases hc
  exact own_kept h2 (grownBy_putObj' _ D o') (fun r er => by cases er; exact ⟨o, ((Below.heap_setCell _ _ _ _ hne).trans (Below.heap_setCell _ _ _ _ hne)).trans hD, hc⟩)

set_option maxRecDepth 100000 in
set_option maxHeartbeats 8000000 in
theorem copy_ok (vs vt vd : Value) (sh st ls : List Int) (off : Int) (N : Nat) (w : World) (hs : Ld w vs sh) (ht : Ld w vt st) (hd : Ld w vd ls) (hv : vwb sh st off ls.length = true) (hwd : wds ls = true) (hN : (N : Int) = prod sh) :
    Calls Tryz.prog 107 #[.agg #[vs, vt, .int .i64 off], vd] w (SomeT w 0 sh (cps sh st off ls N)) := by
  obtain ⟨i0, hi0, hz0, hz1, hz2⟩ := info_parts infoW
  have hVw := vwb_iff.1 hv
  have l4 := may_len hVw.1
  have hls : ls.length ≤ 65536 := by have := hVw.2.2.2.2.1; omega
  have hN6 : N ≤ 65536 := by have := may_prod hVw.1; omega
  obtain ⟨w3, hw3⟩ : ∃ w3, w3 = ((w.alloc (.cells #[vs, vt, .int .i64 off] 168)).alloc (.cells #[vd] 24)).alloc (.cells #[.slice none 0 0, .slice none 0 0] 26) := ⟨_, rfl⟩
  have hsz : w3.heap.size = w.heap.size + 3 := by rw [hw3]; simp
  have B3 : Below w.heap.size w w3 := by rw [hw3]; exact (((Below.refl _ _).alloc (Nat.le_refl _) _).alloc (by simp) _).alloc (by simp; omega) _
  have K0 : Hid (Blk w3 w.heap.size 168 #[vs, vt, .int .i64 off]) := by rw [hw3]; exact ((Blk.new w _ _).alloc _).alloc _
  have K1 : Hid (Blk w3 (w.heap.size + 1) 24 #[vd]) := by rw [hw3]; exact (blk_new1 w _ _ _).alloc _
  have K2 : Hid (Blk w3 (w.heap.size + 2) 26 #[.slice none 0 0, .slice none 0 0]) := by
    rw [hw3]
    have q := Blk.new ((w.alloc (.cells #[vs, vt, .int .i64 off] 168)).alloc (.cells #[vd] 24)) 26 #[.slice none 0 0, .slice none 0 0]
    rwa [World.size_alloc, World.size_alloc] at q
  have C1 : Hid (∀ n, w3.heap.size = n → Calls Tryz.prog 165 #[.agg #[vs, vt, .int .i64 off], .int .i64 (ls.length : Int)] w3 fun e w' => e = .returned (.int .i64 0) ∧ Below n w3 w') := fun n hn => by
    subst hn
    have := vcheck_any vs vt sh st off ls.length w3 (hs.below B3) (ht.below B3) (by omega) (by have := hVw.2.1; omega)
    rwa [hv, frm_t] at this
  replace C1 := Lib.hid (C1.out (w.heap.size + 3) hsz)
  have C2 := Lib.hid (fun (W : World) (hW : Below w.heap.size w W) => cloned_any vs sh W (hs.below hW) (by omega))
  have C3 : Hid (∀ W, Below w.heap.size w W → Calls Tryz.prog 167 #[vd] W fun e w' => e = .returned (.bool true) ∧ W = w') := Lib.hid (fun W hW => by have := arewords_any vd ls W (hd.below hW) (by omega); rwa [hwd] at this)
  clear hwd
  have HSV := Lib.hid (And.intro hs (And.intro ht hd))
  obtain ⟨o1, n1, rfl, _, _⟩ := id hs
  obtain ⟨o2, n2, rfl, _, _⟩ := id ht
  obtain ⟨o3, n3, rfl, _, hxd⟩ := id hd
  have HXD := Lib.hid hxd
  have HW := Lib.hid hw3
  have HV := Lib.hid (And.intro hVw hN)
  rw [hw3] at C1
  have k0 := blk3 (show Blk w3 w.heap.size 168 _ from K0.out)
  clear hw3 hs ht hd hxd hv hVw hN k0
  refine (callsIn_wide (n := 9)).1 ?_
  refine callsIn_of_wp_marks Tryz.func107 rfl trivial ?_
  simp only [Tryz.ntmps107, List.size_toArray, List.length_cons, List.length_nil, Nat.reduceAdd, Nat.reduceSub, Array.replicate_succ, Array.replicate_zero, List.push_toArray, List.append_toArray, List.nil_append, List.cons_append]
  refine wpIn_wide.2 ?_
  go_wp2_with (first
    | (go_at_call 165; (with_reducible refine C1.out.mono ?_); rintro e w4 ⟨rfl, hb4⟩; rw [← HW.out] at hb4; have b4 := B3.trans (hb4.mono (by omega)); replace K0 := Lib.hid (K0.out.below hb4 (by omega)); replace K1 := Lib.hid (K1.out.below hb4 (by omega)); replace K2 := Lib.hid (K2.out.below hb4 (by omega)); obtain ⟨c0, c1, c2, _⟩ := blk3 K0.out; have c3 := K1.out.cell 0; have s4 := Nat.le_trans (Nat.le_of_eq hsz.symm) hb4.size; clear hb4)
    | (go_at_call 167; (with_reducible refine (C3.out _ b4).mono ?_); rintro e w' ⟨rfl, rfl⟩)
    | (go_at_call 145; (with_reducible refine (C2.out _ b4).mono ?_); rintro e w5 ⟨o5, c5, rfl, ho5, _, hb5⟩; have b5 := b4.trans (hb5.mono (by omega)); replace K0 := Lib.hid (K0.out.below hb5 (by omega)); replace K1 := Lib.hid (K1.out.below hb5 (by omega)); replace K2 := Lib.hid (K2.out.below hb5 (by omega)); obtain ⟨c0, c1, c2, _⟩ := blk3 K0.out; have c3 := K1.out.cell 0; have s5 := hb5.size; have O5 := Lib.hid (own_base (base' := w.heap.size) ho5 (by omega)); have k0l := K0.out.lt; clear ho5 hb5)
    | (go_at_call 168; (with_reducible refine (placesf_any _ _ _ _).mono ?_); rintro e w7 ⟨rfl, hw7⟩))
  have s7 : w7.heap.size = w5.heap.size + 2 := by rw [← hw7]; simp
  have HT7 : Hid (Blk w7 w5.heap.size 26 #[.slice o5 sh.length c5, .slice none 0 0]) := by rw [← hw7]; exact (Blk.new w5 _ _).alloc _
  have HV7 : Hid (Blk w7 (w5.heap.size + 1) 168 #[.slice o1 sh.length n1, .slice o2 st.length n2, .int .i64 off]) := by rw [← hw7]; exact blk_new1 w5 _ _ _
  have HB7 : Hid (Below w5.heap.size w5 w7) := by rw [← hw7]; exact ((Below.refl _ _).alloc (Nat.le_refl _) _).alloc (by simp) _
  have B7 := b5.trans (HB7.out.mono (by omega))
  have hsz5 : w.heap.size + 3 ≤ w5.heap.size := Nat.le_trans s4 s5
  have OLD : Hid (∀ W, Below w5.heap.size w5 W → W.cell? ⟨w.heap.size + 1, 0, none⟩ = some (.slice o3 ls.length n3) ∧ Below w.heap.size w W) := Lib.hid (fun W hW => ⟨(K1.out.below hW (by omega)).cell 0, b5.trans (hW.mono (by omega))⟩)
  refine (wpIn_wide (n := 9)).1 ?_
  refine wpIn_rangeFunc_told2 (F := Fence.wide) (n := 9) rfl (by decide) (gf := 208) (lb := #[.pointer (some ⟨w5.heap.size + 1, 0, none⟩)]) rfl trivial (enters_of Tryz.func208 (by kernel_rfl) rfl)
    (places1_told 8 (by decide) (fun j => j < w7.heap.size ∧ j ≠ w5.heap.size) (w5.heap.size + 1) (.slice o1 sh.length n1) (.slice o2 st.length n2) sh st off N w7 HV7.out (HSV.out.1.below B7) (HSV.out.2.1.below B7) HV.out.1.1 HV.out.1.2.1 HV.out.1.2.2.1 HV.out.1.2.2.2.1 (by have h1 := HV.out.1.2.2.2.2.1; have h2 := HV.out.1.2.2.2.2.2.2; omega) HV.out.2 ⟨by omega, by omega⟩ ?hTS)
    KV.trans ?keepb (fun _ => rfl)
    (fun pre W => CpI w5.heap.size w7.heap.size w5 (.slice o5 sh.length c5) (cps sh st off ls N) pre.length W) (fun _ _ _ => False)
    ?ownI (fun _ _ _ _ _ h _ _ => h) ?ownT ⟨.slice none 0 0, HT7.out, ⟨rfl, .inl ⟨rfl, rfl⟩⟩, HB7.out, Nat.le_refl _⟩ ?a1 ?assign ?body ?done ?stop
  case hTS =>
    intro i hi
    obtain ⟨o, c, e, _, hx⟩ := HSV.out.2.1
    obtain ⟨b, f, rfl, hb, _⟩ := hx i hi
    exact ⟨b, f, c, e, by omega, by omega⟩
  case keepb =>
    intro X k o o' hk ho hc _
    refine ⟨fun j hj => World.putObj_heap_other (by omega), fun j cs t fz e ht => World.putObj_heap_other (fun e2 => ?_)⟩
    subst e2
    rw [ho] at e
    cases e
    cases hc
  case ownI => exact cpi_own w5.heap.size w7.heap.size w5 _ _ (by omega) (by omega)
  case ownT => exact fun pre x _ _ _ _ h _ _ => h
  case assign =>
    intro l2 x X K hK
    unfold plc
    gi_wp2
    exact hK
  case body =>
    rintro l2 pre x X ⟨dv, hTb, hDv, hBX, hXs⟩ hlt hx
    obtain rfl : x = pre.length := hx
    have hp := may_pos HV.out.1.1
    have hN := HV.out.2
    have hat := vw_at HV.out.1 (atl_inx sh (pre.length : Nat) hp (by omega) (by omega))
    obtain ⟨P, hP⟩ := Int.eq_ofNat_of_zero_le hat.1
    rw [hP] at hat
    have hPl : P < ls.length := by omega
    have EA := Lib.hid (cps_snoc (ls := ls) (k := pre.length) (N := N) hlt hP)
    obtain ⟨o3', n3', e3, _, hx3⟩ := HSV.out.2.2
    simp only [Value.slice.injEq] at e3
    obtain ⟨rfl, _, rfl⟩ := e3
    obtain ⟨b3, f3, rfl, hb3, hc3⟩ := hx3 P hPl
    have OLD2 : Hid (∀ W, Below w5.heap.size w5 W → W.cell? ⟨w.heap.size + 1, 0, none⟩ = some (.slice (some ⟨b3, f3, none⟩) ls.length n3) ∧ W.cell? ⟨b3, f3 + P, none⟩ = some (.int .i64 (ls.getD P 0)) ∧ True) := Lib.hid (fun W hW => ⟨(OLD.out W hW).1, ((OLD.out W hW).2.cell hb3).trans hc3, trivial⟩)
    have hk6 : pre.length < 65536 := by omega
    obtain ⟨c0, c1, f0, f1⟩ := blk2 hTb
    obtain ⟨c2, c3, _⟩ := OLD2.out X hBX
    have ca := fun (o : Obj) => Lib.cell?_alloc_some o c1
    have HT := Lib.hid hTb
    have HO := Lib.hid hDv
    have HB := Lib.hid hBX
    have hTl : w5.heap.size < w7.heap.size := by omega
    rw [hP]
    generalize hy : ls.getD P 0 = y at *
    clear hTb hDv hBX hat hp hN hc3 hx3 s7
    replace OLD := OLD2
    gi_wp2
    refine wpIn_mono (region_in (S := fun W => W.cell? ⟨w.heap.size + 1, 0, none⟩ = some (.slice (some ⟨b3, f3, none⟩) ls.length n3) ∧ W.cell? ⟨b3, f3 + P, none⟩ = some (.int .i64 y)) (R := fun W => KeepsFrom w7.heap.size X W ∧ KV (fun j => j < w7.heap.size ∧ j ≠ w5.heap.size) X W ∧ CpI w5.heap.size w7.heap.size w5 (.slice o5 sh.length c5) (cps sh st off ls N) (pre.length + 1) W) (by kernel_rfl) (by kernel_rfl) ?_ (fun hHeld => ?_)) ?_
    · exact ⟨by simpa using c2, by simpa using c3⟩
    · have hHd := hHeld
      simp only [List.size_toArray, List.length_cons, List.length_nil, Nat.reduceAdd, Array.replicate_succ, Array.replicate_zero, List.push_toArray, List.nil_append, List.cons_append]
      (refine tk (i := 0) (oi := ⟨some 28, _, _, _, _, _⟩) (v := ?v0) rfl ?hy0 ?rest0; (case hy0 => intro w hSw; (try dsimp only at hSw); go_simp; first | done | with_reducible rfl))
      (try simp only [Act.put, pq])
      (refine tk (i := 3) (oi := ⟨some 31, _, _, _, _, _⟩) (v := ?v3) rfl ?hy3 ?rest3; (case hy3 => intro w hSw; (try dsimp only at hSw); go_simp; first | done | with_reducible rfl))
      (try simp only [Act.put, pq])
      (refine tk (i := 2) (oi := ⟨some 30, _, _, _, _, _⟩) (v := ?v2) rfl ?hy2 ?rest2; (case hy2 => intro w hSw; (try dsimp only at hSw); go_simp; first | done | with_reducible rfl))
      (try simp only [Act.put, pq])
      (refine tk (i := 4) (oi := ⟨some 32, _, _, _, _, _⟩) (v := ?v4) rfl ?hy4 ?rest4; (case hy4 => intro w hSw; (try dsimp only at hSw); go_simp; first | done | with_reducible rfl))
      (try simp only [Act.put, pq])
      (refine tk (i := 5) (oi := ⟨some 33, _, _, _, _, _⟩) (v := ?v5) rfl ?hy5 ?rest5; (case hy5 => intro w hSw; (try dsimp only at hSw); go_simp; first | done | with_reducible rfl))
      (try simp only [Act.put, pq])
      refine wpAnyH_ready (rs := [1, 6]) (by kernel_rfl) (by simp) ?_
      refine AllReadyH.cons (o := ⟨some 29, _, _, _, _, _⟩) rfl (fun K hK => ?_) (AllReadyH.cons (o := ⟨some 34, _, _, _, _, _⟩) rfl (fun K hK => ?_) AllReadyH.nil)
      · go_simp
        refine hK.out _ _ ?_ (fun hHeld => ?_)
        · (try dsimp only)
          first | assumption | (simp [go_sem, *]; done) | (simp [go_sem, World.cell?_alloc_some, *]; done) | exact ⟨(e9.out _).1, (e9.out _).2.1⟩
        clear hK K
        (try simp only [List.setIfInBounds_toArray, List.set_cons_zero, List.set_cons_succ])
        refine wpAnyH_ready (rs := [6]) (by kernel_rfl) (by simp) ?_
        refine AllReadyH.cons (o := ⟨some 34, _, _, _, _, _⟩) rfl (fun K hK => ?_) AllReadyH.nil
        go_simp
        refine hK.out _ _ ?_ (fun hHeld => ?_)
        · (try dsimp only)
          first | assumption | (simp [go_sem, *]; done) | (simp [go_sem, World.cell?_alloc_some, *]; done) | exact ⟨(e9.out _).1, (e9.out _).2.1⟩
        clear hK K
        (try simp only [List.setIfInBounds_toArray, List.set_cons_zero, List.set_cons_succ])
        refine wpAnyH_ready (rs := [7]) (by kernel_rfl) (by simp) ?_
        refine AllReadyH.cons (o := ⟨some 35, _, _, _, _, _⟩) rfl (fun K hK => ?_) AllReadyH.nil
        refine step_append_lies _ (by rfl) (.tmp 29) (.tmp 34) 24 (by rfl) w7.heap.size 2 i0 (.int .i64 0) 1 8 Tryz.underlying24 hi0 hz0 hz1 hz2 rfl (by decide) dv pre.length (ints ((cps sh st off ls N).take pre.length)) (by rfl) (HO.out.alloc _) ⟨X.heap.size, 0, none⟩ 1 1 [.int .i64 y] (by rfl) rfl (cell_one_new _ _ _) (by simp [Value.oneCell']) (by decide) (by unfold maxLen; omega) (by omega) (by simp; omega) (X.heap.size + 1) (by simp) ?_
        intro g9 cp9 w9 hown hgrow hat _
        have Q9 := Lib.hid (And.intro hown (cp_step HT.out HO.out HB.out hgrow hat hTl hXs))
        obtain ⟨_, p0, h0, h1⟩ := blk2 Q9.out.2.1
        have e9 := Lib.hid (fun (z : Value) => OLD.out _ (Q9.out.2.2.setCell (p := ⟨w5.heap.size, 1, none⟩) (Nat.le_refl _) z))
        obtain ⟨q0, q1, _⟩ := OLD.out w9 Q9.out.2.2
        have R9 := Lib.hid (cp_done Q9.out.1 Q9.out.2.1 Q9.out.2.2 HT.out HO.out hgrow EA.out hTl hXs)
        clear hown hgrow hat
        refine hK.out _ _ ?_ (fun hHeld => ?_)
        · (try dsimp only)
          first | assumption | (simp [go_sem, *]; done) | (simp [go_sem, World.cell?_alloc_some, *]; done) | exact ⟨(e9.out _).1, (e9.out _).2.1⟩
        clear hK K
        (try simp only [Act.put, pq])
        refine wpAnyH_ready (rs := [8]) (by kernel_rfl) (by simp) ?_
        refine AllReadyH.cons (o := ⟨some 36, _, _, _, _, _⟩) rfl (fun K hK => ?_) AllReadyH.nil
        go_simp
        refine hK.out _ _ ?_ (fun hHeld => ?_)
        · (try dsimp only)
          first | assumption | (simp [go_sem, *]; done) | (simp [go_sem, World.cell?_alloc_some, *]; done) | exact ⟨(e9.out _).1, (e9.out _).2.1⟩
        clear hK K
        (try simp only [List.setIfInBounds_toArray, List.set_cons_zero, List.set_cons_succ])
        refine wpAnyH_ready (rs := [9]) (by kernel_rfl) (by simp) ?_
        refine AllReadyH.cons (o := ⟨none, _, _, _, _, _⟩) rfl (fun K hK => ?_) AllReadyH.nil
        go_simp
        refine hK.out _ _ ?_ (fun hHeld => ?_)
        · (try dsimp only)
          first | assumption | (simp [go_sem, *]; done) | (simp [go_sem, World.cell?_alloc_some, *]; done) | exact ⟨(e9.out _).1, (e9.out _).2.1⟩
        clear hK K
        (try simp only [List.setIfInBounds_toArray, List.set_cons_zero, List.set_cons_succ])
        refine wpAnyH_done (by kernel_rfl) ?_ _
        exact ⟨rfl, R9.out⟩
      · go_simp
        refine hK.out _ _ ?_ (fun hHeld => ?_)
        · (try dsimp only)
          first | assumption | (simp [go_sem, *]; done) | (simp [go_sem, World.cell?_alloc_some, *]; done) | exact ⟨(e9.out _).1, (e9.out _).2.1⟩
        clear hK K
        (try simp only [List.setIfInBounds_toArray, List.set_cons_zero, List.set_cons_succ])
        refine wpAnyH_ready (rs := [1]) (by kernel_rfl) (by simp) ?_
        refine AllReadyH.cons (o := ⟨some 29, _, _, _, _, _⟩) rfl (fun K hK => ?_) AllReadyH.nil
        go_simp
        refine hK.out _ _ ?_ (fun hHeld => ?_)
        · (try dsimp only)
          first | assumption | (simp [go_sem, *]; done) | (simp [go_sem, World.cell?_alloc_some, *]; done) | exact ⟨(e9.out _).1, (e9.out _).2.1⟩
        clear hK K
        (try simp only [List.setIfInBounds_toArray, List.set_cons_zero, List.set_cons_succ])
        refine wpAnyH_ready (rs := [7]) (by kernel_rfl) (by simp) ?_
        refine AllReadyH.cons (o := ⟨some 35, _, _, _, _, _⟩) rfl (fun K hK => ?_) AllReadyH.nil
        refine step_append_lies _ (by rfl) (.tmp 29) (.tmp 34) 24 (by rfl) w7.heap.size 2 i0 (.int .i64 0) 1 8 Tryz.underlying24 hi0 hz0 hz1 hz2 rfl (by decide) dv pre.length (ints ((cps sh st off ls N).take pre.length)) (by rfl) (HO.out.alloc _) ⟨X.heap.size, 0, none⟩ 1 1 [.int .i64 y] (by rfl) rfl (cell_one_new _ _ _) (by simp [Value.oneCell']) (by decide) (by unfold maxLen; omega) (by omega) (by simp; omega) (X.heap.size + 1) (by simp) ?_
        intro g9 cp9 w9 hown hgrow hat _
        have Q9 := Lib.hid (And.intro hown (cp_step HT.out HO.out HB.out hgrow hat hTl hXs))
        obtain ⟨_, p0, h0, h1⟩ := blk2 Q9.out.2.1
        have e9 := Lib.hid (fun (z : Value) => OLD.out _ (Q9.out.2.2.setCell (p := ⟨w5.heap.size, 1, none⟩) (Nat.le_refl _) z))
        obtain ⟨q0, q1, _⟩ := OLD.out w9 Q9.out.2.2
        have R9 := Lib.hid (cp_done Q9.out.1 Q9.out.2.1 Q9.out.2.2 HT.out HO.out hgrow EA.out hTl hXs)
        clear hown hgrow hat
        refine hK.out _ _ ?_ (fun hHeld => ?_)
        · (try dsimp only)
          first | assumption | (simp [go_sem, *]; done) | (simp [go_sem, World.cell?_alloc_some, *]; done) | exact ⟨(e9.out _).1, (e9.out _).2.1⟩
        clear hK K
        (try simp only [Act.put, pq])
        refine wpAnyH_ready (rs := [8]) (by kernel_rfl) (by simp) ?_
        refine AllReadyH.cons (o := ⟨some 36, _, _, _, _, _⟩) rfl (fun K hK => ?_) AllReadyH.nil
        go_simp
        refine hK.out _ _ ?_ (fun hHeld => ?_)
        · (try dsimp only)
          first | assumption | (simp [go_sem, *]; done) | (simp [go_sem, World.cell?_alloc_some, *]; done) | exact ⟨(e9.out _).1, (e9.out _).2.1⟩
        clear hK K
        (try simp only [List.setIfInBounds_toArray, List.set_cons_zero, List.set_cons_succ])
        refine wpAnyH_ready (rs := [9]) (by kernel_rfl) (by simp) ?_
        refine AllReadyH.cons (o := ⟨none, _, _, _, _, _⟩) rfl (fun K hK => ?_) AllReadyH.nil
        go_simp
        refine hK.out _ _ ?_ (fun hHeld => ?_)
        · (try dsimp only)
          first | assumption | (simp [go_sem, *]; done) | (simp [go_sem, World.cell?_alloc_some, *]; done) | exact ⟨(e9.out _).1, (e9.out _).2.1⟩
        clear hK K
        (try simp only [List.setIfInBounds_toArray, List.set_cons_zero, List.set_cons_succ])
        refine wpAnyH_done (by kernel_rfl) ?_ _
        exact ⟨rfl, R9.out⟩
    · rintro e a3 W3 ⟨rfl, hR⟩
      have e1 : (pre ++ [pre.length]).length = pre.length + 1 := by simp
      exact ⟨hR.1, hR.2.1, by show CpI _ _ _ _ _ (pre ++ [pre.length]).length _; rw [e1]; exact hR.2.2⟩
  case done =>
    rintro D ys X hD hys ⟨dv, hTb, hDv, hBX, hXs⟩ hK
    obtain ⟨c0, c1, f0, f1⟩ := blk2 hTb
    have R2 := K2.out.below hBX (by omega)
    obtain ⟨d0, d1, g0, g1⟩ := blk2 R2
    have hDv2 : X.ownsRow w7.heap.size 2 1 dv (cps sh st off ls N).length (ints (cps sh st off ls N)) := by
      have h := hDv
      rw [show ys.length = N from hys, List.take_of_length_le (by rw [cps_len]; exact Nat.le_refl _)] at h
      rw [cps_len]
      exact h
    clear hDv hys
    generalize cps sh st off ls N = ds at *
    obtain ⟨od, cd, rfl, _⟩ := Ld.of_owns hDv2
    have hDb : w.heap.size ≤ D := by omega
    have hb2 : w.heap.size + 2 < w5.heap.size := by omega
    have e1 := cp_end (Below.keepOwn O5.out hBX (Nat.le_refl _)) R2 hK rfl (by decide) (.slice o5 sh.length c5) (.slice od ds.length cd) (.deferred none)
    have e2 := cp_end (own_base hDv2 (show w.heap.size ≤ w7.heap.size by omega)) R2 hK rfl (by decide) (.slice o5 sh.length c5) (.slice od ds.length cd) (.deferred none)
    have hK2 : ((X.setCell ⟨w.heap.size + 2, 0, none⟩ (.slice o5 sh.length c5)).setCell ⟨w.heap.size + 2, 1, none⟩ (.slice od ds.length cd)).heap[D]? = some (.deferred (some [])) := ((Below.heap_setCell _ _ _ _ (by show D ≠ w.heap.size + 2; omega)).trans (Below.heap_setCell _ _ _ _ (by show D ≠ w.heap.size + 2; omega))).trans hK
    have e3 : Below w.heap.size w ((((X.setCell ⟨w.heap.size + 2, 0, none⟩ (.slice o5 sh.length c5)).setCell ⟨w.heap.size + 2, 1, none⟩ (.slice od ds.length cd))).putObj D (.deferred none)) := (((b5.trans (hBX.mono (by omega))).setCell (p := ⟨w.heap.size + 2, 0, none⟩) (by show w.heap.size ≤ w.heap.size + 2; omega) _).setCell (p := ⟨w.heap.size + 2, 1, none⟩) (by show w.heap.size ≤ w.heap.size + 2; omega) _).trans (belowK_b (w := w) (Nat.le_refl _) _ D _ (.deferred none) hDb hK2 rfl rfl)
    have R3 : Blk ((((X.setCell ⟨w.heap.size + 2, 0, none⟩ (.slice o5 sh.length c5)).setCell ⟨w.heap.size + 2, 1, none⟩ (.slice od ds.length cd))).putObj D (.deferred none)) (w.heap.size + 2) 26 #[.slice o5 sh.length c5, .slice od ds.length cd] := ((R2.set_ 0 _).set_ 1 _).kept (grownBy_putObj' _ D _) (by intro e; cases e; omega)
    obtain ⟨p0, p1, _⟩ := blk2 R3
    have EN := Lib.hid (And.intro e1 (And.intro e2 e3))
    have HK2 := Lib.hid hK2
    have P0 := Lib.hid (And.intro p0 p1)
    clear e1 e2 e3 hK2 R3 p0 p1 hDv2
    go_wp2
    refine ⟨by simp, .inl ⟨_, _, rfl, run_takeDeferred HK2.out, ?_⟩⟩
    have p0 := P0.out.1
    have p1 := P0.out.2
    refine ⟨.tuple #[.agg #[.slice o5 sh.length c5, .slice od ds.length cd], .int .i64 0], by simp [results, Tryz.results107, go_sem, p0, p1], ?_⟩
    exact ⟨o5, c5, od, cd, rfl, EN.out⟩
  case stop =>
    rintro D cd pre X hD hpre hf hK
    exact hf.elim

end Go.Proofs.YtmafgdinegboeaaGreat
namespace Go.Proofs.YtmafgdinegboeaaGreat

def hi (a : Int) : Int := a / 18446744073709551616
def lo (a : Int) : Int := a % 18446744073709551616
def R (a : Int) : Prop := -9223372036854775808 ≤ hi a ∧ hi a ≤ 9223372036854775807
instance (a : Int) : Decidable (R a) := inferInstanceAs (Decidable (_ ∧ _))
def ng (a : Int) : Bool := decide (a < 0)

theorem lo_bd (a : Int) : 0 ≤ lo a ∧ lo a ≤ 18446744073709551615 := by unfold lo; omega
theorem hi_lo (a : Int) : a = hi a * 18446744073709551616 + lo a := by unfold hi lo; omega
theorem hi_neg (a : Int) : decide (hi a < 0) = ng a := by unfold hi ng; rw [Bool.eq_iff_iff]; simp only [decide_eq_true_eq]; omega
end Go.Proofs.YtmafgdinegboeaaGreat
namespace Go.Proofs.YtmafgdinegboeaaGreat
open Go.RowKit

abbrev Wv (a : Int) : Value := .agg #[.int .i64 (hi a), .int .u64 (lo a)]

theorem below_any (a : Int) (w : World) :
    Calls Tryz.prog 143 #[Wv a] w fun e w' => e = .returned (.bool (ng a)) ∧ w.alloc (.cells #[.int .i64 (hi a), .int .u64 (lo a)] 121) = w' := by
  have H := Lib.hid (hi_neg a)
  go_enter Tryz.func143, Tryz.ntmps143
  go_wp2
  go_ret
  exact ⟨by rw [H.out]; rfl, rfl⟩

theorem isNaN_i64 (a : Int) (w : World) : Calls Tryz.prog 220 #[.int .i64 a] w fun e w' => e = .returned (.bool false) ∧ w = w' := by
  go_enter Tryz.func220, Tryz.ntmps220
  go_wp2
  go_ret
  exact ⟨by simp, rfl⟩
theorem isNaN_u64 (a : Int) (w : World) : Calls Tryz.prog 214 #[.int .u64 a] w fun e w' => e = .returned (.bool false) ∧ w = w' := by
  go_enter Tryz.func214, Tryz.ntmps214
  go_wp2
  go_ret
  exact ⟨by simp, rfl⟩

def sg (a b : Int) : Int := if a < b then -1 else if a > b then 1 else 0
theorem sg_lt {a b : Int} (h : a < b) : sg a b = -1 := by unfold sg; rw [if_pos h]
theorem sg_gt {a b : Int} (h : b < a) : sg a b = 1 := by unfold sg; rw [if_neg (by omega), if_pos h]
theorem sg_eq (a : Int) : sg a a = 0 := by unfold sg; rw [if_neg (by omega), if_neg (by omega)]

theorem compare_i64 (a b : Int) (w : World) : Calls Tryz.prog 211 #[.int .i64 a, .int .i64 b] w fun e w' => e = .returned (.int .i64 (sg a b)) ∧ w = w' := by
  rcases Int.lt_trichotomy a b with h | rfl | h
  · have H := Lib.hid (sg_lt h)
    go_enter Tryz.func211, Tryz.ntmps211
    go_wp2_with (go_at_call 220; refine (isNaN_i64 _ _).mono ?_; rintro e w' ⟨rfl, rfl⟩)
    go_ret
    exact ⟨by rw [H.out]; rfl, rfl⟩
  · have H := Lib.hid (sg_eq a)
    go_enter Tryz.func211, Tryz.ntmps211
    go_wp2_with (go_at_call 220; refine (isNaN_i64 _ _).mono ?_; rintro e w' ⟨rfl, rfl⟩)
    go_ret
    exact ⟨by rw [H.out]; rfl, rfl⟩
  · have H := Lib.hid (sg_gt h)
    go_enter Tryz.func211, Tryz.ntmps211
    go_wp2_with (go_at_call 220; refine (isNaN_i64 _ _).mono ?_; rintro e w' ⟨rfl, rfl⟩)
    go_ret
    exact ⟨by rw [H.out]; rfl, rfl⟩

theorem compare_u64 (a b : Int) (w : World) : Calls Tryz.prog 192 #[.int .u64 a, .int .u64 b] w fun e w' => e = .returned (.int .i64 (sg a b)) ∧ w = w' := by
  rcases Int.lt_trichotomy a b with h | rfl | h
  · have H := Lib.hid (sg_lt h)
    go_enter Tryz.func192, Tryz.ntmps192
    go_wp2_with (go_at_call 214; refine (isNaN_u64 _ _).mono ?_; rintro e w' ⟨rfl, rfl⟩)
    go_ret
    exact ⟨by rw [H.out]; rfl, rfl⟩
  · have H := Lib.hid (sg_eq a)
    go_enter Tryz.func192, Tryz.ntmps192
    go_wp2_with (go_at_call 214; refine (isNaN_u64 _ _).mono ?_; rintro e w' ⟨rfl, rfl⟩)
    go_ret
    exact ⟨by rw [H.out]; rfl, rfl⟩
  · have H := Lib.hid (sg_gt h)
    go_enter Tryz.func192, Tryz.ntmps192
    go_wp2_with (go_at_call 214; refine (isNaN_u64 _ _).mono ?_; rintro e w' ⟨rfl, rfl⟩)
    go_ret
    exact ⟨by rw [H.out]; rfl, rfl⟩

theorem sg_hi {a b : Int} (h : hi a ≠ hi b) : sg (hi a) (hi b) = sg a b := by
  unfold sg hi at *
  repeat' split <;> try omega
theorem sg_lo {a b : Int} (h : hi a = hi b) : sg (lo a) (lo b) = sg a b := by
  unfold sg lo hi at *
  repeat' split <;> try omega

theorem cmp_any (a b : Int) (w : World) : Calls Tryz.prog 188 #[Wv a, Wv b] w fun e w' => e = .returned (.int .i64 (sg a b)) ∧ Below w.heap.size w w' := by
  by_cases h : hi a = hi b
  · have H := Lib.hid (sg_lo h)
    have g : (hi a != hi b) = false := by simp [h]
    have K := Lib.hid h
    clear h
    go_enter Tryz.func188, Tryz.ntmps188
    go_wp2_with (go_at_call 192; refine (compare_u64 _ _ _).mono ?_; rintro e w' ⟨rfl, rfl⟩)
    go_ret
    exact ⟨by rw [H.out]; rfl, ((Below.refl _ _).alloc (Nat.le_refl _) _).alloc (by simp) _⟩
  · have H := Lib.hid (sg_hi h)
    have g : (hi a != hi b) = true := by simp [h]
    clear h
    go_enter Tryz.func188, Tryz.ntmps188
    go_wp2_with (go_at_call 211; refine (compare_i64 _ _ _).mono ?_; rintro e w' ⟨rfl, rfl⟩)
    go_ret
    exact ⟨by rw [H.out]; rfl, ((Below.refl _ _).alloc (Nat.le_refl _) _).alloc (by simp) _⟩

theorem wv0 : Wv 0 = .agg #[.int .i64 0, .int .u64 0] := rfl
theorem sign_any (a : Int) (w : World) : Calls Tryz.prog 135 #[Wv a] w fun e w' => e = .returned (.int .i64 (sg a 0)) ∧ Below w.heap.size w w' := by
  have C := Lib.hid (fun W => cmp_any a 0 W)
  rw [wv0] at C
  go_enter Tryz.func135, Tryz.ntmps135
  go_wp2_with (go_at_call 188; refine (C.out _).mono ?_; rintro e w' ⟨rfl, hb⟩)
  go_ret
  exact ⟨rfl, ((Below.refl _ _).alloc (Nat.le_refl _) _).trans (hb.mono (by simp))⟩
end Go.Proofs.YtmafgdinegboeaaGreat
