/-
  slices.Backward over whole numbers: the iterator's contract, for every loop body that keeps the slice.
  shape.Strides.
  shape.Index: an index within a shape, the place under it.
  The laws' own helpers: lists held against one another, copied, written over; numbers brought within bounds.
  Lists held against one another, looked through, cloned: slices.Index, Contains, Equal, Clone; the reference's In.
  view.stays, Check.
  shape.Strides where it refuses; shape.At.
  view.areAll, sameCount, plain, Of.
-/
import Derived.RangeFuncNested
import Derived.RangeFuncBound
import Derived.RangeFuncCalls
import Derived.RangeFuncLeaves
import Derived.RangeFuncBox
import Derived.Shelf.Abstract
import Derived.Shelf.RegionOpen
import Derived.WalkKit
import Derived.OwnWalkIn
import Derived.TacticsInMore
import Derived.LoopNIn
import Derived.LoopIn
import Derived.Maps.AppendAt
import Derived.Laws.MakeOwn
import Derived.OwnWalk
import Derived.Outline
import Derived.Deep.QuietTactic
import Derived.BigQuiet
import Derived.Laws.AppendOwn
import Derived.Lib.SliceRun
import Derived.WalkMore
import Derived.RegionIn
import Derived.BigRegionIn
import Derived.Test.YtpfcjajmfadcbaaGreatM01
namespace Go.Proofs.YtpfcjajmfadcbaaGreat
open Go.RowKit Go.Shelf
attribute [local go_sem] Oper.semAt_some

/-- Places, from the last one down. -/
def rs {n : Nat} : (j : Nat) → j ≤ n → List (Fin n)
  | 0, _ => []
  | j + 1, h => ⟨j, h⟩ :: rs j (by omega)
theorem rs_len {n : Nat} : ∀ (j : Nat) (h : j ≤ n), (rs j h).length = j
  | 0, _ => rfl
  | j + 1, h => by simp [rs, rs_len j]
/-- All places, from the last one down. -/
def bk (n : Nat) : List (Fin n) := rs n (Nat.le_refl n)
/-- What a round must keep: what lay there ahead, and the box. -/
def KeepB (n0 B : Nat) (W W' : World) : Prop := W'.heap[B]? = W.heap[B]? ∧ ∀ k, k < n0 → W'.heap[k]? = W.heap[k]?
theorem KeepB.refl (n0 B : Nat) (W : World) : KeepB n0 B W W := ⟨rfl, fun _ _ => rfl⟩
theorem KeepB.trans {n0 B : Nat} {a b c : World} (h : KeepB n0 B a b) (k : KeepB n0 B b c) : KeepB n0 B a c := ⟨k.1.trans h.1, fun i hi => (k.2 i hi).trans (h.2 i hi)⟩
theorem KeepB.cell {n0 B : Nat} {W W' : World} (h : KeepB n0 B W W') : W'.cell? ⟨B, 0, none⟩ = W.cell? ⟨B, 0, none⟩ := by simp [World.cell?, h.1]
theorem KeepB.old {n0 B b o : Nat} {W W' : World} (h : KeepB n0 B W W') (hb : b < n0) : W'.cell? ⟨b, o, none⟩ = W.cell? ⟨b, o, none⟩ := by simp [World.cell?, h.2 b hb]
theorem KeepB.put {n0 B : Nat} {w : World} (hn : n0 ≤ w.heap.size) (hB : B < w.heap.size) (W : World) (l : Nat) (o o' : Obj) (hl : w.heap.size ≤ l) (_ : W.heap[l]? = some o) (_ : o.isCells = false) (_ : o.isWalk = false) : KeepB n0 B W (W.putObj l o') :=
  ⟨World.putObj_heap_other (by omega), fun k h2 => World.putObj_heap_other (by omega)⟩
/-- The pair that the body is told. -/
def pr (ls : List Int) (x : Fin ls.length) : Array Value := #[.int .i64 (x.1 : Nat), .int .i64 (ls.getD x.1 0)]

set_option maxRecDepth 100000 in
set_option maxHeartbeats 2000000 in
theorem back1_in (F : Fence) (n : Nat) (hfn : F.fn 166) (hro : F.round = none) (hn : 1 ≤ n) (l B n0 : Nat) (o : Option Addr) (c : Nat) (ls : List Int) (hl : ls.length ≤ 1073741824) (J Jx : List (Fin ls.length) → World → Prop)
    (hY : ∀ pre x W, J pre W → pre.length < ls.length → YieldAt F (n - 1) Tryz.prog l (pr ls x) W fun e W' =>
      (e = .returned (.bool true) ∧ J (pre ++ [x]) W' ∧ KeepB n0 B W W') ∨ (e = .returned (.bool false) ∧ Jx (pre ++ [x]) W'))
    (W : World) (h0s : W.cell? ⟨B, 0, none⟩ = some (.slice o ls.length c)) (hx : ∀ i, i < ls.length → ∃ b f, o = some ⟨b, f, none⟩ ∧ b < n0 ∧ W.cell? ⟨b, f + i, none⟩ = some (.int .i64 (ls.getD i 0))) (h0 : J [] W) :
    CallsIn F n Tryz.prog 166 #[.func (.yield l) #[] #[], .pointer (some ⟨B, 0, none⟩)] W fun e W' => (∃ v, e = .returned v) ∧
      ((∃ ys, ys = bk ls.length ∧ J ys W') ∨ (∃ pre, pre <+: bk ls.length ∧ Jx pre W')) := by
  have HX := Lib.hid hx
  clear hx
  refine callsIn_of_wp Tryz.func166 rfl hfn ?_ hro
  simp only [Tryz.ntmps166, List.size_toArray, List.length_cons, List.length_nil, Nat.reduceAdd, Nat.reduceSub, Array.replicate_succ, Array.replicate_zero, List.push_toArray, List.append_toArray, List.nil_append, List.cons_append]
  gi_wp2
  gi_loopw [3] (fun v wr => ∃ (pre : List (Fin ls.length)) (j : Nat) (hj : j ≤ ls.length), v = .int .i64 ((j : Int) - 1) ∧ Hid (pre ++ rs j hj = bk ls.length) ∧ J pre wr ∧ KeepB n0 B W wr)
    (fun v _ => (intOf v + 1).toNat)
  case atStart =>
    exact ⟨[], ls.length, Nat.le_refl _, rfl, rfl, h0, KeepB.refl _ _ _⟩
  case round =>
    obtain ⟨pre, j, hj, rfl, hp, hJs, hnx⟩ := hrel
    have c0 : wr.cell? ⟨B, 0, none⟩ = some (.slice o ls.length c) := hnx.cell.trans h0s
    cases j with
    | zero =>
      gi_wp2
      go_end0
      have hp := hp.out
      simp only [rs, List.append_nil] at hp
      exact ⟨⟨_, rfl⟩, .inl ⟨pre, hp, hJs⟩⟩
    | succ j =>
      obtain ⟨b, f, rfl, hb, hc⟩ := HX.out j hj
      have hc' : wr.cell? ⟨b, f + j, none⟩ = some (.int .i64 (ls.getD j 0)) := (hnx.old hb).trans hc
      have hpl : pre.length < ls.length := by
        have h1 := congrArg List.length hp.out
        rw [List.length_append, rs_len, bk, rs_len] at h1
        omega
      have hy0 := hY pre ⟨j, hj⟩ wr hJs hpl
      unfold pr at hy0
      obtain ⟨fn, tmps, assign, body, hy, hR⟩ := hy0
      have ej : ((j + 1 : Nat) : Int) - 1 = (j : Int) := by omega
      rw [ej]
      generalize ls.getD j 0 = x at *
      clear hc
      gi_wp2
      refine hR.mono ?_
      rintro e W3 (⟨rfl, hJ3, hk3⟩ | ⟨rfl, hJx3⟩)
      · have c1' : W3.cell? ⟨B, 0, none⟩ = some (.slice (some ⟨b, f, none⟩) ls.length c) := hk3.cell.trans c0
        gi_wp2
        go_roundw
        case rel => exact ⟨pre ++ [⟨j, hj⟩], j, by omega, rfl, by have := hp.out; rw [← this]; simp [rs, Hid], hJ3, hnx.trans hk3⟩
        case measure => simp [intOf]
      · gi_wp2
        refine bodyPost_ret (results_none rfl _ _ _) rfl ?_
        exact ⟨⟨_, rfl⟩, .inr ⟨pre ++ [⟨j, hj⟩], ⟨rs j (by omega), by have := hp.out; rw [← this]; simp [rs]⟩, hJx3⟩⟩

/-- The iterator's contract. -/
theorem back_stops (F : Fence) (n : Nat) (hfn : F.fn 166) (hro : F.round = none) (hn : 1 ≤ n) (B n0 : Nat) (o : Option Addr) (c : Nat) (ls : List Int) (hl : ls.length ≤ 1073741824) (w : World) (hB : B < w.heap.size) (hn0 : n0 ≤ w.heap.size)
    (h0s : w.cell? ⟨B, 0, none⟩ = some (.slice o ls.length c)) (hx : ∀ i, i < ls.length → ∃ b f, o = some ⟨b, f, none⟩ ∧ b < n0 ∧ w.cell? ⟨b, f + i, none⟩ = some (.int .i64 (ls.getD i 0))) :
    SeqStopsK F n Tryz.prog 166 #[.pointer (some ⟨B, 0, none⟩)] (pr ls) (KeepB n0 B) (fun ys => ys = bk ls.length) (fun pre => pre <+: bk ls.length) ls.length w := fun l J Jx W hW _ _ hY h0 =>
  back1_in F n hfn hro hn l B n0 o c ls hl J Jx hY W ((hW.cell (p := ⟨B, 0, none⟩) hB).trans h0s) (fun i hi => by
    obtain ⟨b, f, e, hb, hc⟩ := hx i hi
    exact ⟨b, f, e, hb, (hW.cell (p := ⟨b, f + i, none⟩) (by show b < _; omega)).trans hc⟩) h0

set_option maxRecDepth 100000 in
/-- slices.Backward: a box, and the function value that holds it. -/
theorem backs_any (o : Option Addr) (n c : Nat) (w : World) : Calls Tryz.prog 122 #[.slice o n c] w fun e w' => e = .returned (.func (.func 166) #[] #[.pointer (some ⟨w.heap.size, 0, none⟩)]) ∧
    w.alloc (.cells #[.slice o n c] 23) = w' := by
  go_enter Tryz.func122, Tryz.ntmps122
  go_wp2
  refine bodyPost_ret (results_tmp rfl _ _ _) rfl ?_
  exact ⟨rfl, rfl⟩
end Go.Proofs.YtpfcjajmfadcbaaGreat
namespace Go.Proofs.YtpfcjajmfadcbaaGreat
open Go.RowKit Go.Shelf
attribute [local go_sem] Oper.semAt_some

theorem infoI : (Tryz.prog.info? 3).map (fun i => (i.zero, i.size, i.bytes)) = some (some (.int .i64 0), 1, 8) := by kernel_rfl
theorem Blk.kept {W W' : World} {row : Option Nat} {B : Nat} {t : TypeId} {cs : Array Value} (h : Blk W B t cs) (hg : W.grownBy W' row) (hne : some B ≠ row) : Blk W' B t cs := (hg.block B h.lt hne).trans h
theorem blk_own {β : Type} (B : Nat) (t : TypeId) (f : β → Array Value) : Own (fun s W => Blk W B t (f s)) := fun s X Y row hs hg hrow =>
  hs.kept hg fun e => by
    obtain ⟨o, ho, hc⟩ := hrow B e.symm
    rw [show X.heap[B]? = _ from hs] at ho
    cases ho
    cases hc
theorem Blk.at_ {W : World} {B : Nat} {t : TypeId} {cs : Array Value} (h : Blk W B t cs) {p : Addr} (hp : B ≠ p.block) (u : Value) : Blk (W.setCell p u) B t cs := h.far hp u
theorem boxed_at {W : World} {B : Nat} {t : TypeId} {v : Value} (h : Boxed W B t v) {p : Addr} (hp : B ≠ p.block) (u : Value) : Boxed (W.setCell p u) B t v := (Below.heap_setCell W p u B hp).trans h

theorem Blk.box {W : World} {B B' : Nat} {t : TypeId} {cs : Array Value} (h : Blk W B t cs) (hne : B ≠ B') (u : Value) : Blk (W.setCell ⟨B', 0, none⟩ u) B t cs := h.far (p := ⟨B', 0, none⟩) hne u
theorem KeepB.set {n0 B : Nat} {W : World} {p : Addr} (hp : p.block ≠ B) (hn : n0 ≤ p.block) (u : Value) : KeepB n0 B W (W.setCell p u) :=
  ⟨Below.heap_setCell W p u B (fun e => hp e.symm), fun k hk => Below.heap_setCell W p u k (by omega)⟩

def stf (ls : List Int) (pre : List (Fin ls.length)) : List Int × Int := pre.foldl (fun p x => (p.1.set x.1 p.2, wrap64 (p.2 * ls.getD x.1 0))) (List.replicate ls.length 0, 1)
theorem stf_snoc (ls : List Int) (pre : List (Fin ls.length)) (x : Fin ls.length) : stf ls (pre ++ [x]) = ((stf ls pre).1.set x.1 (stf ls pre).2, wrap64 ((stf ls pre).2 * ls.getD x.1 0)) := by simp [stf]
theorem stf_len (ls : List Int) (pre : List (Fin ls.length)) : (stf ls pre).1.length = ls.length := by
  have : ∀ (pre : List (Fin ls.length)) (p : List Int × Int), p.1.length = ls.length → (pre.foldl (fun p x => (p.1.set x.1 p.2, wrap64 (p.2 * ls.getD x.1 0))) p).1.length = ls.length := by
    intro pre
    induction pre with
    | nil => intro p h; exact h
    | cons x pre ih => intro p h; exact ih _ (by simpa using h)
  exact this pre _ (by simp)
theorem stf_end {ls : List Int} (hm : may ls = true) : (stf ls (bk ls.length)).1 = stl ls := by
  have : ∀ (j : Nat) (hj : j ≤ ls.length) (p : List Int × Int), p.1.length = ls.length → p.2 = prod (ls.drop j) → (∀ i, j ≤ i → i < ls.length → p.1.getD i 0 = prod (ls.drop (i + 1))) →
      ∀ i, i < ls.length → ((rs j hj).foldl (fun p x => (p.1.set x.1 p.2, wrap64 (p.2 * ls.getD x.1 0))) p).1.getD i 0 = prod (ls.drop (i + 1)) := by
    intro j
    induction j with
    | zero => intro hj p h1 h2 h3 i hi; exact h3 i (Nat.zero_le _) hi
    | succ j ih =>
      intro hj p h1 h2 h3 i hi
      simp only [rs, List.foldl_cons]
      refine ih (by omega) _ (by simpa using h1) ?_ ?_ i hi
      · simp only [h2]
        rw [prod_drop (show j < ls.length by omega), Int.mul_comm]
        have := may_drop hm j
        rw [prod_drop (show j < ls.length by omega)] at this
        exact IntWalk.wrap64_in _ ⟨by omega, by omega⟩
      · intro k k1 k2
        simp only
        by_cases e : j = k
        · subst e; rw [set_getD_self (by omega), h2]
        · rw [set_getD_ne e]; exact h3 k (by omega) k2
  refine ext_getD (by rw [stf_len, stl_len]) fun k hk => ?_
  rw [stf_len] at hk
  rw [stl_getD ls k hk]
  exact this ls.length (Nat.le_refl _) (List.replicate ls.length 0, 1) (by simp) (by simp [prod]) (fun i h1 h2 => by omega) k hk

end Go.Proofs.YtpfcjajmfadcbaaGreat
namespace Go.Proofs.YtpfcjajmfadcbaaGreat
open Go.RowKit

set_option maxRecDepth 100000 in
set_option maxHeartbeats 4000000 in
theorem inside_any (vi vs : Value) (i s : List Int) (w : World) (hi : Ld w vi i) (hs : Ld w vs s) (l4 : s.length ≤ 1073741824) :
    Calls Tryz.prog 60 #[vi, vs] w fun e w' => e = .returned (.bool (inx s i)) ∧ w = w' := by
  obtain ⟨oi, ci, rfl, _, hxi⟩ := hi
  obtain ⟨os, cs, rfl, _, hxs⟩ := hs
  have HI := Lib.hid hxi
  have HS := Lib.hid hxs
  clear hxi hxs
  by_cases hl : s.length = i.length
  · have HN : Hid (inx s i = true ↔ s.length = i.length ∧ ∀ k, k < s.length → 0 ≤ i.getD k 0 ∧ i.getD k 0 < s.getD k 0) := inx_iff
    have HL := Lib.hid hl
    rw [← hl]
    clear hl
    go_enter Tryz.func60, Tryz.ntmps60
    go_wp2
    go_loop [14] (fun s14 => ∃ k : Nat, k ≤ s.length ∧ s14 = .int .i64 k ∧ Hid (∀ j, j < k → 0 ≤ i.getD j 0 ∧ i.getD j 0 < s.getD j 0)) (fun s14 => s.length - (intOf s14).toNat)
    case atStart => exact ⟨0, Nat.zero_le _, rfl, fun j hj => absurd hj (Nat.not_lt_zero _)⟩
    case round =>
      obtain ⟨k, hk, rfl, HK⟩ := hrel
      by_cases hlt : k < s.length
      · obtain ⟨b1, f1, rfl, _, c1⟩ := HI.out k (by have := HL.out; omega)
        obtain ⟨b2, f2, rfl, _, c2⟩ := HS.out k hlt
        by_cases g : 0 ≤ i.getD k 0 ∧ i.getD k 0 < s.getD k 0
        · have HG : Hid (∀ j, j < k + 1 → 0 ≤ i.getD j 0 ∧ i.getD j 0 < s.getD j 0) := fun j hj => by
            by_cases e : j = k
            · subst e; exact g
            · exact HK.out j (by omega)
          generalize i.getD k 0 = x at *
          generalize s.getD k 0 = d at *
          have g1 : ¬ x < 0 := by omega
          have g2 : ¬ d ≤ x := by omega
          clear g
          go_wp2
          refine ⟨⟨k + 1, by omega, by go_num, HG⟩, by simp [intOf]; omega⟩
        · have e : inx s i = false := by
            cases h : inx s i with
            | false => rfl
            | true => exact absurd ((HN.out.1 h).2 k hlt) g
          have E := Lib.hid e
          clear e
          generalize i.getD k 0 = x at *
          generalize s.getD k 0 = d at *
          by_cases g1 : x < 0
          · clear g
            go_wp2
            go_ret
            exact ⟨by rw [E.out]; rfl, rfl⟩
          · have g2 : d ≤ x := by omega
            clear g
            go_wp2
            go_ret
            exact ⟨by rw [E.out]; rfl, rfl⟩
      · have e : inx s i = true := HN.out.2 ⟨HL.out, fun j hj => HK.out j (by omega)⟩
        have E := Lib.hid e
        clear e
        go_wp2
        go_ret
        exact ⟨by rw [E.out]; rfl, rfl⟩
  · have e : inx s i = false := by
      cases h : inx s i with
      | false => rfl
      | true => exact absurd (inx_len h) hl
    rw [e]
    have hl2 : ((i.length : Int) != (s.length : Int)) = true := by rw [bne_iff_ne]; omega
    clear e hl
    go_enter Tryz.func60, Tryz.ntmps60
    go_wp2
    go_ret
    exact ⟨rfl, rfl⟩

set_option maxRecDepth 100000 in
set_option maxHeartbeats 4000000 in
/-- The place under an index: the last numbers of it. -/
theorem under_any (vs vi : Value) (s i : List Int) (w : World) (hs : Ld w vs s) (hi : Ld w vi i) (hm : may s = true) (hl : s.length ≤ i.length) (li : i.length ≤ 1073741824) (hx : inx s (msk s (lst s i)) = true) :
    Calls Tryz.prog 61 #[vs, vi] w fun e w' => e = .returned (.int .i64 (und s i)) ∧ w = w' := by
  obtain ⟨os, cs, rfl, _, hxs⟩ := hs
  obtain ⟨oi, ci, rfl, hci, hxi⟩ := hi
  have l4 := may_len hm
  obtain ⟨q, hq⟩ : ∃ q, i.length = q + s.length := ⟨i.length - s.length, by omega⟩
  have HI := Lib.hid (And.intro hxi hq)
  have HS := Lib.hid hxs
  have HP := Lib.hid (And.intro (may_pos hm) hx)
  have HV := Lib.hid (And.intro (ix_bd hx) (may_prod hm))
  have HG : Hid (∀ k, k < s.length → (msk s (lst s i)).getD k 0 = if 1 < s.getD k 0 then i.getD (q + k) 0 else 0) := fun k hk => by
    rw [msk_getD s _ k (lst_len hl) hk, lst_getD hl, show k + i.length - s.length = q + k by omega]
  have HD : Hid (∀ k, k < s.length → 1 ≤ s.getD k 0 ∧ s.getD k 0 ≤ 4096) := fun k hk => may_dim hm hk
  rw [hq] at hci li
  rw [hq]
  clear hxi hxs hm hl hx hq
  have e1 : ((q + s.length : Nat) : Int) - (s.length : Int) = (q : Int) := by omega
  have EU : Hid (und s i = ix s (msk s (lst s i))) := rfl
  generalize msk s (lst s i) = m at *
  by_cases h0 : s.length = 0
  · have EZ : Hid (und s i = 0) := by
      have : s = [] := List.eq_nil_of_length_eq_zero h0
      rw [Hid, EU.out, this]; rfl
    rw [EZ.out]
    obtain rfl : s = [] := List.eq_nil_of_length_eq_zero h0
    clear EZ EU HG HP HV HI HS HD h0
    simp only [List.length_nil, Nat.add_zero] at *
    have e2 : ((q : Nat) : Int) - ((0 : Nat) : Int) = (q : Int) := by omega
    clear e1
    by_cases hc : ci = q
    · subst hc
      cases oi with
      | none =>
        go_enter Tryz.func61, Tryz.ntmps61
        go_wp2
        go_loop [6, 18] (fun s6 s18 => s6 = .int .i64 0 ∧ s18 = .int .i64 0) (fun _ _ => 0)
        case atStart => exact ⟨rfl, rfl⟩
        case round =>
          obtain ⟨rfl, rfl⟩ := hrel
          go_wp2
          go_ret
          exact ⟨rfl, rfl⟩
      | some ad =>
        go_enter Tryz.func61, Tryz.ntmps61
        go_wp2
        go_loop [6, 18] (fun s6 s18 => s6 = .int .i64 0 ∧ s18 = .int .i64 0) (fun _ _ => 0)
        case atStart => exact ⟨rfl, rfl⟩
        case round =>
          obtain ⟨rfl, rfl⟩ := hrel
          go_wp2
          go_ret
          exact ⟨rfl, rfl⟩
    · cases oi with
      | none =>
        go_enter Tryz.func61, Tryz.ntmps61
        go_wp2
        go_loop [6, 18] (fun s6 s18 => s6 = .int .i64 0 ∧ s18 = .int .i64 0) (fun _ _ => 0)
        case atStart => exact ⟨rfl, rfl⟩
        case round =>
          obtain ⟨rfl, rfl⟩ := hrel
          go_wp2
          go_ret
          exact ⟨rfl, rfl⟩
      | some ad =>
        go_enter Tryz.func61, Tryz.ntmps61
        go_wp2
        go_loop [6, 18] (fun s6 s18 => s6 = .int .i64 0 ∧ s18 = .int .i64 0) (fun _ _ => 0)
        case atStart => exact ⟨rfl, rfl⟩
        case round =>
          obtain ⟨rfl, rfl⟩ := hrel
          go_wp2
          go_ret
          exact ⟨rfl, rfl⟩
  · obtain ⟨b, f, rfl, hb, _⟩ := HI.out.1 0 (by have := HI.out.2; omega)
    have hc : ¬ ci = q := by omega
    have EV := EU.out
    rw [EV]
    clear EV EU
    go_enter Tryz.func61, Tryz.ntmps61
    go_wp2
    go_loop [6, 18] (fun s6 s18 => ∃ (k : Nat) (p : Int), k ≤ s.length ∧ 0 ≤ p ∧ p ≤ 65536 ∧ s18 = .int .i64 k ∧ s6 = .int .i64 p ∧ Hid (Hor s m (ix s m) p k)) (fun _ s18 => s.length - (intOf s18).toNat)
    case atStart => exact ⟨0, 0, Nat.zero_le _, by decide, by decide, rfl, rfl, hor_start HP.out.2⟩
    case round =>
      obtain ⟨k, p, hk, p0, p1, rfl, rfl, HK⟩ := hrel
      by_cases hlt : k < s.length
      · obtain ⟨b2, f2, rfl, _, c2⟩ := HS.out k hlt
        obtain ⟨b1, f1, e, _, c1⟩ := HI.out.1 (q + k) (by have := HI.out.2; omega)
        simp only [Option.some.injEq, Addr.mk.injEq, and_true] at e
        obtain ⟨rfl, rfl⟩ := e
        rw [← Nat.add_assoc] at c1
        obtain ⟨st, n0, n1⟩ := hor_step HK.out HP.out.2 HP.out.1 hlt
        have gm := HG.out k hlt
        have dd := HD.out k hlt
        have hv := HV.out
        generalize m.getD k 0 = y at *
        generalize i.getD (q + k) 0 = x at *
        generalize s.getD k 0 = d at *
        by_cases g : 1 < d
        · rw [if_pos g] at gm
          subst gm
          have st1 := st.2.1
          have st2 := st.2.2.1
          have ST := Lib.hid st
          have HV2 := Lib.hid hv
          have n2 : p * d ≤ 65536 := by omega
          have n3 : 0 ≤ p * d + y := st1
          have n4 : p * d + y ≤ 65536 := by omega
          clear st hv n1 st1 st2
          go_wp2
          refine ⟨⟨k + 1, p * d + y, by omega, n3, n4, by go_num, rfl, ST.out⟩, by simp [intOf]; omega⟩
        · rw [if_neg g] at gm
          subst gm
          rw [Int.add_zero] at st
          have ST := Lib.hid st
          have n2 : p * d ≤ 65536 := by omega
          clear st hv n1
          go_wp2
          refine ⟨⟨k + 1, p * d, by omega, n0, n2, by go_num, rfl, ST.out⟩, by simp [intOf]; omega⟩
      · obtain rfl : k = s.length := by omega
        obtain rfl := hor_end HK.out
        go_wp2
        go_ret
        exact ⟨rfl, rfl⟩

end Go.Proofs.YtpfcjajmfadcbaaGreat
namespace Go.Proofs.YtpfcjajmfadcbaaGreat
open Go.RowKit
theorem below_drw {B : Nat} {w W : World} (h : Below B w W) (n : Nat) : Below B w (W.drewN n) := ⟨h.os, h.tape, h.output, h.size, h.block⟩

theorem tm_64 (i n : Int) (h0 : 1 ≤ n) (h1 : n ≤ 9223372036854775807) : wrap64 ((IntKind.u64.wrap i).tmod n) = (i % 18446744073709551616) % n := by
  rw [IntKind.wrap_u64, Int.tmod_eq_emod_of_nonneg (by omega)]
  have := Int.emod_nonneg (i % 18446744073709551616) (show n ≠ 0 by omega)
  have := Int.emod_lt_of_pos (i % 18446744073709551616) (show 0 < n by omega)
  exact IntWalk.wrap64_in _ ⟨by omega, by omega⟩
theorem win_any (i n : Int) (w : World) (h0 : 1 ≤ n) (h1 : n ≤ 9223372036854775807) : Calls Tryz.prog 27 #[.int .i64 i, .int .i64 n] w fun e w' => e = .returned (.int .i64 ((i % 18446744073709551616) % n)) ∧ w = w' := by
  have E := Lib.hid (tm_64 i n h0 h1)
  go_enter Tryz.func27, Tryz.ntmps27
  go_wp2
  go_ret
  exact ⟨by rw [← E.out]; rfl, rfl⟩

set_option maxRecDepth 100000 in
set_option maxHeartbeats 4000000 in
theorem eqn_any (va vb : Value) (a b : List Int) (w : World) (ha : Ld w va a) (hb : Ld w vb b) (la : a.length ≤ 17592186044416) (_lb : b.length ≤ 17592186044416) :
    Calls Tryz.prog 39 #[va, vb] w fun e w' => e = .returned (.bool (decide (a = b))) ∧ Below w.heap.size w w' := by
  obtain ⟨oa, ca, rfl, _, hxa⟩ := ha
  obtain ⟨ob, cb, rfl, _, hxb⟩ := hb
  have HA := Lib.hid hxa
  have HB := Lib.hid hxb
  clear hxa hxb
  by_cases hl : a.length = b.length
  · have HL := Lib.hid hl
    have HX : Hid ((∀ k, k < a.length → a.getD k 0 = b.getD k 0) → a = b) := ext_getD hl
    rw [← hl]
    clear hl _lb
    go_enter Tryz.func39, Tryz.ntmps39
    go_wp2
    go_loopw [5] (fun s5 wr => ∃ k : Nat, k ≤ a.length ∧ s5 = .int .i64 k ∧ Hid (∀ j, j < k → a.getD j 0 = b.getD j 0) ∧ Below w.heap.size w wr) (fun s5 _ => a.length - (intOf s5).toNat)
    case atStart => exact ⟨0, Nat.zero_le _, rfl, fun j hj => absurd hj (Nat.not_lt_zero _), Below.refl _ _⟩
    case round =>
      obtain ⟨k, hk, rfl, HK, hW⟩ := hrel
      by_cases hlt : k < a.length
      · obtain ⟨b1, f1, rfl, h1, c1⟩ := HA.out k hlt
        obtain ⟨b2, f2, rfl, h2, c2⟩ := HB.out k (by have := HL.out; omega)
        have c1' : wr.cell? ⟨b1, f1 + k, none⟩ = some (.int .i64 (a.getD k 0)) := (hW.cell (p := ⟨b1, f1 + k, none⟩) h1).trans c1
        have c2' : wr.cell? ⟨b2, f2 + k, none⟩ = some (.int .i64 (b.getD k 0)) := (hW.cell (p := ⟨b2, f2 + k, none⟩) h2).trans c2
        have HG : Hid (a.getD k 0 = b.getD k 0 → ∀ j, j < k + 1 → a.getD j 0 = b.getD j 0) := fun g j hj => by
          by_cases e : j = k
          · subst e; exact g
          · exact HK.out j (by omega)
        have HN : Hid (¬ a.getD k 0 = b.getD k 0 → decide (a = b) = false) := fun g => decide_eq_false (fun e => g (by rw [e]))
        clear c1 c2
        generalize a.getD k 0 = x at *
        generalize b.getD k 0 = y at *
        by_cases g : x = y
        · subst g
          have R := Lib.hid (HG.out rfl)
          go_wp2
          go_quiet (fail)
          go_wp2
          exact ⟨⟨k + 1, by omega, by go_num, R, by first | exact below_drw hW _ | exact hW⟩, by simp [intOf]; omega⟩
        · have R := Lib.hid (HN.out g)
          have g' : (x != y) = true := by rw [bne_iff_ne]; exact g
          clear g
          go_wp2
          go_quiet (fail)
          go_wp2
          go_ret
          exact ⟨by rw [R.out]; rfl, by first | exact below_drw hW _ | exact hW⟩
      · have e : Hid (decide (a = b) = true) := decide_eq_true (HX.out fun j hj => HK.out j (by omega))
        go_wp2
        go_ret
        exact ⟨by rw [e.out]; rfl, hW⟩
  · have e : Hid (decide (a = b) = false) := decide_eq_false (fun e => hl (by rw [e]))
    have hl2 : ((a.length : Int) != (b.length : Int)) = true := by rw [bne_iff_ne]; omega
    clear hl
    go_enter Tryz.func39, Tryz.ntmps39
    go_wp2
    go_ret
    exact ⟨by rw [e.out]; rfl, Below.refl _ _⟩

/-- A list in a slice of the call's own. -/
def SomeC (w : World) (ls : List Int) (e : Ending) (w' : World) : Prop := ∃ o c, e = .returned (.slice o ls.length c) ∧ w'.ownsRow w.heap.size 3 1 (.slice o ls.length c) ls.length (ints ls) ∧ Ld w' (.slice o ls.length c) ls ∧ Below w.heap.size w w'
theorem Ld.of_owns {w : World} {base : Nat} {e : TypeId} {v : Value} {ls : List Int} (h : w.ownsRow base e 1 v ls.length (ints ls)) : ∃ o c, v = .slice o ls.length c ∧ Ld w (.slice o ls.length c) ls := by
  rcases h.2 with ⟨rfl, h0⟩ | ⟨g, cap, cur, rfl, _, hh, hc, _, hsz, ht⟩
  · have : ls = [] := List.eq_nil_of_length_eq_zero (by simpa using h0)
    subst this
    exact ⟨_, _, rfl, Ld.nil w⟩
  · refine ⟨_, _, rfl, _, _, rfl, hc, fun i hi => ⟨g, 0, rfl, (Array.getElem?_eq_some_iff.1 hh).1, ?_⟩⟩
    rw [Nat.zero_add, cell_of_row w g i cur e (0, 0) hh]
    have : (ints ls)[i]? = some (.int .i64 (ls.getD i 0)) := by simpa using ints_at hi
    rw [← ht, List.getElem?_take] at this
    split at this
    · simpa using this
    · cases this

set_option maxRecDepth 100000 in
set_option maxHeartbeats 4000000 in
theorem copy_any (v : Value) (ls : List Int) (w : World) (h : Ld w v ls) (ll : ls.length ≤ 17592186044000) :
    Calls Tryz.prog 41 #[v] w (SomeC w ls) := by
  obtain ⟨i0, hi0, hz0, hz1, hz2⟩ := info_parts infoI
  obtain ⟨o, c, rfl, _, hx⟩ := h
  have HX := Lib.hid hx
  clear hx
  go_enter Tryz.func41, Tryz.ntmps41
  go_wp2
  go_loopw [3, 4] (fun s3 s4 wr => ∃ k : Nat, k ≤ ls.length ∧ s4 = .int .i64 k ∧ Hid (wr.ownsRow w.heap.size 3 1 s3 k (ints (ls.take k))) ∧ Below w.heap.size w wr) (fun _ s4 _ => ls.length - (intOf s4).toNat)
  case atStart => exact ⟨0, Nat.zero_le _, rfl, World.ownsRow_nil _ _ _ _, Below.refl _ _⟩
  case round =>
    obtain ⟨k, hk, rfl, HO, hB⟩ := hrel
    have hBs := hB.size
    by_cases hlt : k < ls.length
    · obtain ⟨b, f, rfl, hb, hc⟩ := HX.out k hlt
      have hc' : wr.cell? ⟨b, f + k, none⟩ = some (.int .i64 (ls.getD k 0)) := (hB.cell (p := ⟨b, f + k, none⟩) hb).trans hc
      have E : Hid (ints (ls.take (k + 1)) = ints (ls.take k) ++ [.int .i64 (ls.getD k 0)]) := by
        unfold Hid ints
        rw [List.take_succ_eq_append_getElem hlt, List.map_append]
        simp [List.getD, List.getElem?_eq_getElem hlt]
      clear hc
      generalize ls.getD k 0 = x at *
      go_wp2_with (at_builtin; refine wpList_append_own _ rfl _ _ 23 rfl w.heap.size 3 i0 (.int .i64 0) 1 8 Tryz.underlying23 hi0 hz0 hz1 hz2 rfl (by decide) _ k (ints (ls.take k)) rfl (HO.out.alloc _) ⟨wr.heap.size, 0, none⟩ 1 1 [.int .i64 x] rfl rfl ?c1 ?c2 ?c3 ?c4 ?c5 ?_)
      case c1 => exact (cell_one_new _ _ _)
      case c2 => simp [Value.oneCell']
      case c3 => unfold maxLen; omega
      case c4 => omega
      case c5 => simp; omega
      intro v' w9 hown1 hgrow _
      have hB9 : Below w.heap.size w w9 := (hB.alloc hBs _).grown hgrow (by simp; omega) (fun j hj => (HO.out.lt j hj).1)
      have h1 : Hid (w9.ownsRow w.heap.size 3 1 v' (k + 1) (ints (ls.take (k + 1)))) := by
        rw [Hid, E.out]; exact hown1
      clear hown1 hgrow
      go_wp2
      exact ⟨⟨k + 1, by omega, by go_num, h1, hB9⟩, by simp [intOf]; omega⟩
    · obtain rfl : k = ls.length := by omega
      have h1 := HO.out
      rw [List.take_length] at h1
      obtain ⟨o2, c2, rfl, hld⟩ := Ld.of_owns h1
      have H1 := Lib.hid (And.intro h1 hld)
      clear h1 hld HO
      go_wp2
      go_ret
      exact ⟨o2, c2, rfl, H1.out.1, H1.out.2, hB⟩

/-- A block as a slice of the call's own. -/
theorem Blk.owns {w : World} {g base : Nat} {t : TypeId} {ls : List Int} (h : Blk w g t (ints ls).toArray) (hb : base ≤ g) (hl : ls.length ≤ 65536) : w.ownsRow base t 1 (.slice (some ⟨g, 0, none⟩) ls.length ls.length) ls.length (ints ls) := by
  refine ⟨by simp [ints], .inr ⟨g, ls.length, (ints ls).toArray, rfl, hb, h, Nat.le_refl _, by unfold maxLen; omega, by simp [ints], ?_⟩⟩
  exact List.take_of_length_le (by simp [ints])
set_option maxRecDepth 100000 in
set_option maxHeartbeats 4000000 in
theorem numbers_any (g : Nat) (ls : List Int) (w : World) (h : Blk w g 3 (ints ls).toArray) (hl : ls.length ≤ 65536) :
    Calls Tryz.prog 84 #[.slice (some ⟨g, 0, none⟩) ls.length ls.length] w fun e w' => e = .returned (.tuple #[]) ∧ w.grownBy w' (some g) := by
  obtain ⟨i0, hi0, hz0, hz1, hz2⟩ := info_parts infoI
  have hg := h.lt
  go_enter Tryz.func84, Tryz.ntmps84
  go_wp2
  go_loopw [2] (fun s2 wr => ∃ (k : Nat) (L : List Int), k ≤ ls.length ∧ s2 = .int .i64 k ∧ Blk wr g 3 (ints L).toArray ∧ Hid (L.length = ls.length) ∧ Hid (w.grownBy wr (some g))) (fun s2 _ => ls.length - (intOf s2).toNat)
  case atStart => exact ⟨0, ls, Nat.zero_le _, rfl, h, rfl, World.grownBy.refl _ _⟩
  case round =>
    obtain ⟨k, L, hk, rfl, hb, HL, HG⟩ := hrel
    have hgl := hb.lt
    by_cases hlt : k < ls.length
    · have kc := hb.cell k
      rw [ints_at (by have := HL.out; omega)] at kc
      have kf := hb.frozen k
      generalize L.getD k 0 = x at kc
      go_wp2
      refine ⟨⟨k + 1, L.set k (-99), by omega, by go_num, hb.put k _, by have := HL.out; simpa [Hid] using this, ?_⟩, by simp [intOf]; omega⟩
      have h1 := HG.out
      exact ⟨h1.os, h1.tape, h1.output, by simpa using h1.size, fun j hj hne => (Below.heap_setCell _ _ _ j (fun e => hne (by rw [e]))).trans (h1.block j hj hne)⟩
    · have hown := hb.owns (base := 0) (Nat.zero_le _) (by have := HL.out; omega)
      rw [HL.out] at hown
      have HO := Lib.hid hown
      clear hown
      go_wp2_with (at_builtin; refine wpList_append_own _ rfl _ _ 23 rfl 0 3 i0 (.int .i64 0) 1 8 Tryz.underlying23 hi0 hz0 hz1 hz2 rfl (by decide) _ ls.length (ints L) rfl (HO.out.alloc _) ⟨wr.heap.size, 0, none⟩ 1 1 [.int .i64 5] rfl rfl ?c1 ?c2 ?c3 ?c4 ?c5 ?_)
      case c1 => exact (cell_one_new _ _ _)
      case c2 => simp [Value.oneCell']
      case c3 => unfold maxLen; omega
      case c4 => omega
      case c5 => exact Nat.zero_le _
      intro v' w9 _ hgrow _
      have h1 := HG.out
      have h2 : w.grownBy w9 (some g) := ⟨hgrow.os.trans h1.os, hgrow.tape.trans h1.tape, hgrow.output.trans h1.output, Nat.le_trans h1.size (Nat.le_trans (by simp) hgrow.size), fun j hj hne => (hgrow.block j (by have := h1.size; simp; omega) (by simpa [Value.ownBlock] using hne)).trans ((Below.heap_alloc _ _ _ (by have := h1.size; omega)).trans (h1.block j hj hne))⟩
      have H2 := Lib.hid h2
      clear h1 h2 hgrow
      go_wp2
      refine bodyPost_end (results_none rfl _ _ _) rfl ?_
      exact ⟨rfl, H2.out⟩
set_option maxRecDepth 100000 in
set_option maxHeartbeats 4000000 in
theorem numbers_nil (w : World) : Calls Tryz.prog 84 #[.slice none 0 0] w fun e w' => e = .returned (.tuple #[]) ∧ Below w.heap.size w w' := by
  obtain ⟨i0, hi0, hz0, hz1, hz2⟩ := info_parts infoI
  go_enter Tryz.func84, Tryz.ntmps84
  go_wp2
  go_loopw [2] (fun s2 wr => s2 = .int .i64 0 ∧ w = wr) (fun _ _ => 0)
  case atStart => exact ⟨rfl, rfl⟩
  case round =>
    obtain ⟨rfl, rfl⟩ := hrel
    go_wp2_with (at_builtin; refine wpList_append_own _ rfl _ _ 23 rfl w.heap.size 3 i0 (.int .i64 0) 1 8 Tryz.underlying23 hi0 hz0 hz1 hz2 rfl (by decide) _ 0 [] rfl ((World.ownsRow_nil _ _ _ _).alloc _) ⟨w.heap.size, 0, none⟩ 1 1 [.int .i64 5] rfl rfl ?c1 ?c2 ?c3 ?c4 ?c5 ?_)
    case c1 => exact (cell_one_new _ _ _)
    case c2 => simp [Value.oneCell']
    case c3 => unfold maxLen; omega
    case c4 => omega
    case c5 => simp
    intro v' w9 _ hgrow _
    have h2 : Below w.heap.size w w9 := ((Below.refl _ _).alloc (Nat.le_refl _) _).grown hgrow (by simp) (fun k e => by simp [Value.ownBlock] at e)
    clear hgrow
    go_wp2
    refine bodyPost_end (results_none rfl _ _ _) rfl ?_
    exact ⟨rfl, h2⟩

end Go.Proofs.YtpfcjajmfadcbaaGreat
namespace Go.Proofs.YtpfcjajmfadcbaaGreat
open Go.RowKit

/-- r tells whether x is there. -/
def Fnd (ls : List Int) (x r : Int) : Prop := decide (0 ≤ r) = decide (x ∈ ls)


theorem blk_nil {w : World} {g : Nat} {t : TypeId} (h : Blk w g t #[]) {base : Nat} (hb : base ≤ g) : w.ownsRow base t 1 (.slice (some ⟨g, 0, none⟩) 0 0) 0 [] :=
  ⟨by simp, .inr ⟨g, 0, #[], rfl, hb, h, Nat.le_refl _, Nat.zero_le _, by simp, by simp⟩⟩
set_option maxRecDepth 100000 in
set_option maxHeartbeats 4000000 in
theorem cloned_any (v : Value) (ls : List Int) (w : World) (h : Ld w v ls) (ll : ls.length ≤ 17592186044000) :
    Calls Tryz.prog 57 #[v] w (SomeC w ls) := by
  obtain ⟨i0, hi0, hz0, hz1, hz2⟩ := info_parts infoI
  obtain ⟨o, c, rfl, hc, hx⟩ := h
  cases o with
  | none =>
    have h1 : ls = [] := by
      cases ls with
      | nil => rfl
      | cons a r => obtain ⟨b, f, e, _⟩ := hx 0 (by simp); cases e
    subst h1
    simp only [List.length_nil] at *
    clear hx
    have en : (binOp .eql 23 (.slice none 0 c) (.slice none 0 0)).run Tryz.prog w = .ok (.bool true) w := Lib.run_eql_slice_nil w 23 3 none 0 c 0 0 Tryz.underlying23
    go_enter Tryz.func57, Tryz.ntmps57
    go_wp2
    go_ret
    exact ⟨none, 0, rfl, World.ownsRow_nil _ _ _ _, Ld.nil _, Below.refl _ _⟩
  | some ad =>
    have en : (binOp .eql 23 (.slice (some ad) ls.length c) (.slice none 0 0)).run Tryz.prog w = .ok (.bool false) w := Lib.run_eql_slice_nil w 23 3 (some ad) ls.length c 0 0 Tryz.underlying23
    go_enter Tryz.func57, Tryz.ntmps57
    have H := Lib.hid hx
    have HB := Lib.hid (blk_nil (base := w.heap.size) (Blk.new w 3 #[]) (Nat.le_refl _))
    clear hx
    go_wp2_with (at_builtin; refine wpList_append_own _ rfl _ _ 23 rfl w.heap.size 3 i0 (.int .i64 0) 1 8 Tryz.underlying23 hi0 hz0 hz1 hz2 rfl (by decide) _ 0 [] rfl HB.out ad ls.length c (ints ls) rfl ?c0 ?c1 ?c2 ?c3 ?c4 ?c5 ?_)
    case c0 => simp [ints]
    case c1 =>
      intro j u hu
      have hj : j < ls.length := by
        have := (List.getElem?_eq_some_iff.1 hu).1
        simpa [ints] using this
      obtain ⟨b, f, e, hb, hcell⟩ := H.out j hj
      cases e
      have : u = .int .i64 (ls.getD j 0) := by
        have h2 := ints_at hj
        rw [List.getElem?_toArray] at h2
        rw [h2] at hu; exact (Option.some.inj hu).symm
      rw [this, Go.WideShapes.add_plain, World.cell?_alloc_lt w _ _ hb]
      exact hcell
    case c2 => simp [ints, Value.oneCell']
    case c3 => unfold maxLen; omega
    case c4 => omega
    case c5 => simp
    intro v' w9 hown1 hgrow _
    have hown1 : w9.ownsRow w.heap.size 3 1 v' ls.length (ints ls) := by simpa using hown1
    have hB9 : Below w.heap.size w w9 := ((Below.refl _ _).alloc (Nat.le_refl _) _).grown hgrow (by simp) (fun k e => by simp [Value.ownBlock] at e; omega)
    obtain ⟨o2, c2, rfl, hld⟩ := Ld.of_owns hown1
    have H1 := Lib.hid (And.intro hown1 (And.intro hld hB9))
    clear hown1 hld hgrow hB9 H HB
    go_wp2
    go_ret
    exact ⟨o2, c2, rfl, H1.out.1, H1.out.2.1, H1.out.2.2⟩
end Go.Proofs.YtpfcjajmfadcbaaGreat
namespace Go.Proofs.YtpfcjajmfadcbaaGreat
open Go.RowKit


/-- The answer of a question for a form. -/
def frm (b : Bool) : Int := if b then 0 else 1
theorem frm_t : frm true = 0 := rfl
theorem frm_f : frm false = 1 := rfl
end Go.Proofs.YtpfcjajmfadcbaaGreat
namespace Go.Proofs.YtpfcjajmfadcbaaGreat
open Go.RowKit Go.Shelf
attribute [local go_sem] Oper.semAt_some


def ixf (ls : List Int) (n : Int) (pre : List (Fin ls.length)) : List Int × Int := pre.foldl (fun p x => (p.1.set x.1 (p.2 % ls.getD x.1 0), p.2 / ls.getD x.1 0)) (List.replicate ls.length 0, n)
theorem ixf_snoc (ls : List Int) (n : Int) (pre : List (Fin ls.length)) (x : Fin ls.length) : ixf ls n (pre ++ [x]) = ((ixf ls n pre).1.set x.1 ((ixf ls n pre).2 % ls.getD x.1 0), (ixf ls n pre).2 / ls.getD x.1 0) := by simp [ixf]
theorem ixf_len (ls : List Int) (n : Int) (pre : List (Fin ls.length)) : (ixf ls n pre).1.length = ls.length := by
  have : ∀ (pre : List (Fin ls.length)) (p : List Int × Int), p.1.length = ls.length → (pre.foldl (fun p x => (p.1.set x.1 (p.2 % ls.getD x.1 0), p.2 / ls.getD x.1 0)) p).1.length = ls.length := by
    intro pre
    induction pre with
    | nil => intro p h; exact h
    | cons x pre ih => intro p h; exact ih _ (by simpa using h)
  exact this pre _ (by simp)
theorem quo_bd {p d : Int} (h : 0 ≤ p ∧ p ≤ 65536) (hd : 1 ≤ d) : 0 ≤ p / d ∧ p / d ≤ 65536 := by
  refine ⟨Int.ediv_nonneg h.1 (by omega), ?_⟩
  have := Int.ediv_le_self d h.1
  omega
theorem ixf_bd {ls : List Int} (hp : pos ls) {n : Int} (h0 : 0 ≤ n ∧ n ≤ 65536) (pre : List (Fin ls.length)) : 0 ≤ (ixf ls n pre).2 ∧ (ixf ls n pre).2 ≤ 65536 := by
  have : ∀ (pre : List (Fin ls.length)) (p : List Int × Int), 0 ≤ p.2 ∧ p.2 ≤ 65536 → 0 ≤ (pre.foldl (fun p x => (p.1.set x.1 (p.2 % ls.getD x.1 0), p.2 / ls.getD x.1 0)) p).2 ∧ (pre.foldl (fun p x => (p.1.set x.1 (p.2 % ls.getD x.1 0), p.2 / ls.getD x.1 0)) p).2 ≤ 65536 := by
    intro pre
    induction pre with
    | nil => intro p h; exact h
    | cons x pre ih => intro p h; exact ih _ (quo_bd h (hp _ (getD_mem x.2)))
  exact this pre _ h0
theorem ixf_end {ls : List Int} (hp : pos ls) {n : Int} (h0 : 0 ≤ n) (h1 : n < prod ls) : (ixf ls n (bk ls.length)).1 = atl ls n := by
  have : ∀ (j : Nat) (hj : j ≤ ls.length) (p : List Int × Int), p.1.length = ls.length → p.2 = n / prod (ls.drop j) → (∀ i, j ≤ i → i < ls.length → p.1.getD i 0 = n / prod (ls.drop (i + 1)) % ls.getD i 0) →
      ∀ i, i < ls.length → ((rs j hj).foldl (fun p x => (p.1.set x.1 (p.2 % ls.getD x.1 0), p.2 / ls.getD x.1 0)) p).1.getD i 0 = n / prod (ls.drop (i + 1)) % ls.getD i 0 := by
    intro j
    induction j with
    | zero => intro hj p h1 h2 h3 i hi; exact h3 i (Nat.zero_le _) hi
    | succ j ih =>
      intro hj p h1 h2 h3 i hi
      simp only [rs, List.foldl_cons]
      refine ih (by omega) _ (by simpa using h1) ?_ ?_ i hi
      · simp only [h2]
        rw [prod_drop (show j < ls.length by omega), Int.ediv_ediv_of_nonneg (by have := prod_pos (pos_drop hp (j + 1)); omega), Int.mul_comm]
      · intro k k1 k2
        simp only
        by_cases e : j = k
        · subst e; rw [set_getD_self (by omega), h2]
        · rw [set_getD_ne e]; exact h3 k (by omega) k2
  refine ext_getD (by rw [ixf_len, atl_len]) fun k hk => ?_
  rw [ixf_len] at hk
  rw [atl_getD ls n k hp h0 h1 hk]
  exact this ls.length (Nat.le_refl _) (List.replicate ls.length 0, n) (by simp) (by simp [prod]) (fun i h1 h2 => by omega) k hk

set_option maxRecDepth 100000 in
set_option maxHeartbeats 4000000 in
theorem index_any (v : Value) (ls : List Int) (n : Int) (w : World) (h : Ld w v ls) (hm : may ls = true) (h0 : 0 ≤ n) (h1 : n < prod ls) :
    Calls Tryz.prog 91 #[v, .int .i64 n] w fun e w' => e = .returned (.slice (some ⟨w.heap.size + 1, 0, none⟩) ls.length ls.length) ∧ Blk w' (w.heap.size + 1) 3 (ints (atl ls n)).toArray ∧ Below w.heap.size w w' := by
  obtain ⟨i0, hi0, hz0, hz1, hz2⟩ := info_parts infoI
  obtain ⟨o, c, rfl, _, hx⟩ := h
  have HX := Lib.hid hx
  have hl := may_len hm
  have hpos := may_pos hm
  have hpr := may_prod hm
  have HE := Lib.hid (ixf_end hpos h0 h1)
  have HB := Lib.hid (ixf_bd hpos (n := n) (by omega))
  have HP0 := Lib.hid hpos
  clear hx hm hpos hpr
  have mk : (Instr.makeSlice 23 (.int .i64 (ls.length : Int)) (.int .i64 (ls.length : Int))).run Tryz.prog (w.alloc (.cells #[.int .i64 n] 3)) = .ok (.slice (some ⟨w.heap.size + 1, 0, none⟩) ls.length ls.length) ((w.alloc (.cells #[.int .i64 n] 3)).alloc (.cells (madeCells #[.int .i64 0] ls.length) 3)) := by
    have := run_make (w := w.alloc (.cells #[.int .i64 n] 3)) 23 3 i0 (.int .i64 0) Tryz.underlying23 hi0 hz0 .i64 .i64 ls.length ls.length (by omega) (by omega) (by rw [hz2]; omega) (by omega)
    rw [this, hz1]; simp [Value.cells]
  rw [made_ints] at mk
  refine (callsIn_wide (n := 9)).1 ?_
  refine callsIn_of_wp_marks Tryz.func91 rfl trivial ?_
  simp only [Tryz.ntmps91, List.size_toArray, List.length_cons, List.length_nil, Nat.reduceAdd, Nat.reduceSub, Array.replicate_succ, Array.replicate_zero, List.push_toArray, List.append_toArray, List.nil_append, List.cons_append]
  refine wpIn_wide.2 ?_
  go_wp2_with (go_at_call 122; (with_reducible refine (backs_any _ _ _ _).mono ?_); rintro e w3 ⟨rfl, rfl⟩)
  have b1 : Boxed ((((w.alloc (Obj.cells #[Value.int IntKind.i64 n] 3)).alloc (Obj.cells (ints (List.replicate ls.length 0)).toArray 3)).alloc (Obj.cells #[Value.slice (some ⟨w.heap.size + 1, 0, none⟩) ls.length ls.length] 23)).alloc (Obj.cells #[Value.slice o ls.length c] 23)) w.heap.size 3 (.int .i64 n) := (((Boxed.new w 3 (.int .i64 n)).alloc (Obj.cells (ints (List.replicate ls.length 0)).toArray 3)).alloc (Obj.cells #[Value.slice (some ⟨w.heap.size + 1, 0, none⟩) ls.length ls.length] 23)).alloc (Obj.cells #[Value.slice o ls.length c] 23)
  have b0 : Blk ((((w.alloc (Obj.cells #[Value.int IntKind.i64 n] 3)).alloc (Obj.cells (ints (List.replicate ls.length 0)).toArray 3)).alloc (Obj.cells #[Value.slice (some ⟨w.heap.size + 1, 0, none⟩) ls.length ls.length] 23)).alloc (Obj.cells #[Value.slice o ls.length c] 23)) (w.heap.size + 1) 3 (ints (List.replicate ls.length 0)).toArray := by
    have := ((Blk.new (w.alloc (Obj.cells #[Value.int IntKind.i64 n] 3)) 3 (ints (List.replicate ls.length 0)).toArray).alloc (Obj.cells #[Value.slice (some ⟨w.heap.size + 1, 0, none⟩) ls.length ls.length] 23)).alloc (Obj.cells #[Value.slice o ls.length c] 23)
    rwa [World.size_alloc] at this
  have b2 : Boxed ((((w.alloc (Obj.cells #[Value.int IntKind.i64 n] 3)).alloc (Obj.cells (ints (List.replicate ls.length 0)).toArray 3)).alloc (Obj.cells #[Value.slice (some ⟨w.heap.size + 1, 0, none⟩) ls.length ls.length] 23)).alloc (Obj.cells #[Value.slice o ls.length c] 23)) (w.heap.size + 2) 23 (.slice (some ⟨w.heap.size + 1, 0, none⟩) ls.length ls.length) := by
    have := (Boxed.new ((w.alloc (Obj.cells #[Value.int IntKind.i64 n] 3)).alloc (Obj.cells (ints (List.replicate ls.length 0)).toArray 3)) 23 (.slice (some ⟨w.heap.size + 1, 0, none⟩) ls.length ls.length)).alloc (Obj.cells #[Value.slice o ls.length c] 23)
    rwa [World.size_alloc, World.size_alloc] at this
  have b3 : Boxed ((((w.alloc (Obj.cells #[Value.int IntKind.i64 n] 3)).alloc (Obj.cells (ints (List.replicate ls.length 0)).toArray 3)).alloc (Obj.cells #[Value.slice (some ⟨w.heap.size + 1, 0, none⟩) ls.length ls.length] 23)).alloc (Obj.cells #[Value.slice o ls.length c] 23)) (w.heap.size + 3) 23 (.slice o ls.length c) := by
    have := Boxed.new (((w.alloc (Obj.cells #[Value.int IntKind.i64 n] 3)).alloc (Obj.cells (ints (List.replicate ls.length 0)).toArray 3)).alloc (Obj.cells #[Value.slice (some ⟨w.heap.size + 1, 0, none⟩) ls.length ls.length] 23)) 23 (.slice o ls.length c)
    rwa [World.size_alloc, World.size_alloc, World.size_alloc] at this
  have bB : Below w.heap.size w ((((w.alloc (Obj.cells #[Value.int IntKind.i64 n] 3)).alloc (Obj.cells (ints (List.replicate ls.length 0)).toArray 3)).alloc (Obj.cells #[Value.slice (some ⟨w.heap.size + 1, 0, none⟩) ls.length ls.length] 23)).alloc (Obj.cells #[Value.slice o ls.length c] 23)) :=
    ((((Below.refl _ _).alloc (Nat.le_refl _) _).alloc (by simp) _).alloc (by simp; omega) _).alloc (by simp; omega) _
  have bS : w.heap.size + 4 = ((((w.alloc (Obj.cells #[Value.int IntKind.i64 n] 3)).alloc (Obj.cells (ints (List.replicate ls.length 0)).toArray 3)).alloc (Obj.cells #[Value.slice (some ⟨w.heap.size + 1, 0, none⟩) ls.length ls.length] 23)).alloc (Obj.cells #[Value.slice o ls.length c] 23)).heap.size := by simp
  generalize (((w.alloc (Obj.cells #[Value.int IntKind.i64 n] 3)).alloc (Obj.cells (ints (List.replicate ls.length 0)).toArray 3)).alloc (Obj.cells #[Value.slice (some ⟨w.heap.size + 1, 0, none⟩) ls.length ls.length] 23)).alloc (Obj.cells #[Value.slice o ls.length c] 23) = w3 at *
  refine (wpIn_wide (n := 9)).1 ?_
  refine wpIn_rangeFunc_ownG (F := Fence.wide) (n := 9) rfl (by decide) (gf := 166) (lb := #[.pointer (some ⟨w.heap.size + 1 + 1 + 1, 0, none⟩)]) rfl trivial (enters_of Tryz.func166 (by kernel_rfl) rfl)
    (back_stops Fence.wide 8 trivial rfl (by decide) (w.heap.size + 1 + 1 + 1) w.heap.size o c ls (by omega) w3 (by omega) (by omega) b3.cell (fun i hi => by
      obtain ⟨b, f, e, hb, hc⟩ := HX.out i hi
      exact ⟨b, f, e, hb, (bB.cell (p := ⟨b, f + i, none⟩) hb).trans hc⟩)) KeepB.trans (KeepB.put (by omega) (by omega)) (Below.refl _ _) (fun _ => rfl)
    (fun pre W => Boxed W (w.heap.size + 2) 23 (.slice (some ⟨w.heap.size + 1, 0, none⟩) ls.length ls.length) ∧ Boxed W w.heap.size 3 (.int .i64 (ixf ls n pre).2) ∧ Blk W (w.heap.size + 1) 3 (ints (ixf ls n pre).1).toArray ∧ Below w.heap.size w W)
    (fun _ _ _ => False)
    (OwnFrom.and (Own.from (boxed_own _ _ (fun _ => _)) _) (OwnFrom.and (Own.from (boxed_own _ _ (fun pre => .int .i64 (ixf ls n pre).2)) _) (OwnFrom.and (Own.from (blk_own _ _ (fun pre => (ints (ixf ls n pre).1).toArray)) _) (ownFrom_below (Nat.le_refl _) (by omega)))))
    (fun _ _ _ _ _ hs _ _ => hs)
    ⟨b2, b1, b0, bB⟩ ?a1 ?assign ?body ?done ?stop
  case assign =>
    intro l x W K hK
    unfold pr
    gi_wp2
    exact hK
  case stop =>
    rintro D c pre W _ _ h _
    exact h.elim
  case body =>
    rintro l pre x W ⟨g1, g2, g3, g4⟩ hlt
    have SN0 := ixf_snoc ls n pre x
    have hL := ixf_len ls n pre
    have hb := HB.out pre
    obtain ⟨j, hj⟩ := x
    have ed : ls.getD j 0 = ls[j] := by simp [List.getD, List.getElem?_eq_getElem hj]
    have d1 : 1 ≤ ls[j] := HP0.out _ (List.getElem_mem hj)
    simp only [ed] at SN0
    have SN := Lib.hid SN0
    clear SN0 ed
    have c1 := g1.cell
    have c2 := g2.cell
    have f2 := g2.frozen
    have c3 := g3.cell j
    rw [ints_at (by omega)] at c3
    have f3 := g3.frozen j
    have hBs := g4.size
    generalize hP : ixf ls n pre = P at *
    have HP := Lib.hid (And.intro hP hL)
    clear hP hL
    generalize P.1.getD j 0 = y at *
    obtain ⟨p0, p1⟩ := hb
    have dz : ¬ ls[j] = 0 := by omega
    gi_wp2
    gi_region
    all_goals
      gi_wp2
      have s1 := (boxed_at g1 (p := ⟨w.heap.size + 1, j, none⟩) (by show w.heap.size + 2 ≠ w.heap.size + 1; omega) (.int .i64 (P.2 % ls[j]))).other (B' := w.heap.size) (by omega) (.int .i64 (P.2 / ls[j]))
      have s2 := (boxed_at g2 (p := ⟨w.heap.size + 1, j, none⟩) (by show w.heap.size ≠ w.heap.size + 1; omega) (.int .i64 (P.2 % ls[j]))).set (.int .i64 (P.2 / ls[j]))
      have s3 := (g3.put j (P.2 % ls[j])).box (B' := w.heap.size) (by omega) (.int .i64 (P.2 / ls[j]))
      have hk := ((KeepsOthers.setCell W ⟨w.heap.size + 1, j, none⟩ (.int .i64 (P.2 % ls[j]))).trans (KeepsOthers.setCell _ ⟨w.heap.size, 0, none⟩ (.int .i64 (P.2 / ls[j])))).from w3.heap.size
      have hp := (KeepB.set (n0 := w.heap.size) (B := w.heap.size + 1 + 1 + 1) (W := W) (p := ⟨w.heap.size + 1, j, none⟩) (by show w.heap.size + 1 ≠ _; omega) (by show w.heap.size ≤ w.heap.size + 1; omega) (.int .i64 (P.2 % ls[j]))).trans (KeepB.set (p := ⟨w.heap.size, 0, none⟩) (by show w.heap.size ≠ _; omega) (Nat.le_refl _) (.int .i64 (P.2 / ls[j])))
      refine ⟨⟨hk.size, hk.same⟩, ⟨hp.1, hp.2⟩, s1, ?_, ?_, ((g4.setCell (by show w.heap.size ≤ w.heap.size + 1; omega) _).setCell (Nat.le_refl _) _).drew⟩
      · rw [SN.out]; exact s2
      · rw [SN.out]; exact s3
  case done =>
    rintro D ys W hD rfl ⟨g1, g2, g3, g4⟩ hK
    have c1 := g1.cell
    have hfin := g4.trans (belowK_b (w := w) (Nat.le_refl _) W D _ (.deferred none) (by omega) hK rfl rfl)
    have g5 : Blk (W.putObj D (.deferred none)) (w.heap.size + 1) 3 (ints (atl ls n)).toArray := by
      rw [← HE.out]
      exact g3.kept (grownBy_putObj' W D _) (by intro e; cases e; have := g3.lt; omega)
    clear g3
    go_wp2
    refine ⟨by simp, .inl ⟨_, _, rfl, run_takeDeferred hK, ?_⟩⟩
    exact ⟨_, results_tmp rfl _ _ _, rfl, g5, hfin⟩

end Go.Proofs.YtpfcjajmfadcbaaGreat
namespace Go.Proofs.YtpfcjajmfadcbaaGreat
open Go.RowKit

/-- A box of three. -/
def Bv (W : World) (b : Nat) (x y z : Value) : Prop := W.cell? ⟨b, 0, none⟩ = some x ∧ W.cell? ⟨b, 1, none⟩ = some y ∧ W.cell? ⟨b, 2, none⟩ = some z
theorem Bv.new (w : World) (x y z : Value) (t : TypeId) : Bv (w.alloc (.cells #[x, y, z] t)) w.heap.size x y z := by
  have h := Blk.new w t #[x, y, z]
  exact ⟨h.cell 0, h.cell 1, h.cell 2⟩
theorem Bv.next {W W' : World} {b B : Nat} {x y z : Value} (h : Bv W b x y z) (hb : Below B W W') (hlt : b < B) : Bv W' b x y z :=
  ⟨(hb.cell (p := ⟨b, 0, none⟩) hlt).trans h.1, (hb.cell (p := ⟨b, 1, none⟩) hlt).trans h.2.1, (hb.cell (p := ⟨b, 2, none⟩) hlt).trans h.2.2⟩
theorem box3 {w W : World} {x y z : Value} {t : TypeId} {B : Nat} (h : Below B (w.alloc (.cells #[x, y, z] t)) W) (hB : w.heap.size < B) : W.cell? ⟨w.heap.size, 0, none⟩ = some x ∧ W.cell? ⟨w.heap.size, 1, none⟩ = some y ∧ W.cell? ⟨w.heap.size, 2, none⟩ = some z := (Bv.new w x y z t).next h hB
theorem blk3 {W : World} {b : Nat} {t : TypeId} {x y z : Value} (h : Blk W b t #[x, y, z]) : W.cell? ⟨b, 0, none⟩ = some x ∧ W.cell? ⟨b, 1, none⟩ = some y ∧ W.cell? ⟨b, 2, none⟩ = some z ∧ W.frozen? ⟨b, 0, none⟩ = false ∧ W.frozen? ⟨b, 1, none⟩ = false ∧ W.frozen? ⟨b, 2, none⟩ = false :=
  ⟨h.cell 0, h.cell 1, h.cell 2, h.frozen 0, h.frozen 1, h.frozen 2⟩
theorem blk_box {w W : World} {cs : Array Value} {t : TypeId} {B : Nat} (h : Below B (w.alloc (.cells cs t)) W) (hB : w.heap.size < B) : Blk W w.heap.size t cs := (Blk.new w t cs).below h hB



/-- Two lists of the call's own, apart. -/
def Ov (w : World) (base : Nat) (vs vt : Value) (sh st : List Int) : Prop := w.ownsRow base 3 1 vs sh.length (ints sh) ∧ w.ownsRow base 3 1 vt st.length (ints st) ∧ ∀ g, vs.ownBlock = some g → ¬ vt.ownBlock = some g
/-- A view in new memory, and an error. -/
def SomeV (w : World) (er : Int) (sh st : List Int) (off : Int) (e : Ending) (w' : World) : Prop := ∃ os cs ot ct, e = .returned (.tuple #[.agg #[.slice os sh.length cs, .slice ot st.length ct, .int .i64 off], .int .i64 er]) ∧ Ov w' w.heap.size (.slice os sh.length cs) (.slice ot st.length ct) sh st ∧ Below w.heap.size w w'
theorem ov_nil (w : World) (base : Nat) : Ov w base (.slice none 0 0) (.slice none 0 0) [] [] := ⟨World.ownsRow_nil _ _ _ _, World.ownsRow_nil _ _ _ _, fun g h => by simp [Value.ownBlock] at h⟩
theorem someV_no (w w' : World) (er : Int) (h : Below w.heap.size w w') : SomeV w er [] [] 0 (.returned (.tuple #[.agg #[.slice none 0 0, .slice none 0 0, .int .i64 0], .int .i64 er])) w' := ⟨none, 0, none, 0, rfl, ov_nil _ _, h⟩
theorem Below.keepOwn {w w' : World} {B base n : Nat} {e : TypeId} {v : Value} {xs : List Value} (h : w.ownsRow base e 1 v n xs) (hb : Below B w w') (hB : w.heap.size ≤ B) : w'.ownsRow base e 1 v n xs := by
  refine ⟨h.1, ?_⟩
  rcases h.2 with a | ⟨g, cap, cur, e1, e2, e3, rest⟩
  · exact .inl a
  · exact .inr ⟨g, cap, cur, e1, e2, (hb.block g (by have := (Array.getElem?_eq_some_iff.1 e3).1; omega)).trans e3, rest⟩
theorem own_base {w : World} {base base' n : Nat} {e : TypeId} {v : Value} {xs : List Value} (h : w.ownsRow base e 1 v n xs) (hb : base' ≤ base) : w.ownsRow base' e 1 v n xs := by
  refine ⟨h.1, ?_⟩
  rcases h.2 with a | ⟨g, cap, cur, e1, e2, rest⟩
  · exact .inl a
  · exact .inr ⟨g, cap, cur, e1, by omega, rest⟩
/-- A row that was there, and a newer one. -/
theorem own_apart {w : World} {base base' n n' : Nat} {e e' : TypeId} {v v' : Value} {xs xs' : List Value} {w' : World} (h : w.ownsRow base e 1 v n xs) (h' : w'.ownsRow base' e' 1 v' n' xs') (hb : w.heap.size ≤ base') : (∀ g, v.ownBlock = some g → ¬ v'.ownBlock = some g) ∧ (∀ g, v'.ownBlock = some g → ¬ v.ownBlock = some g) := by
  refine ⟨fun g a b => ?_, fun g a b => ?_⟩
  · have := (h.lt g a).2; have := (h'.lt g b).1; omega
  · have := (h.lt g b).2; have := (h'.lt g a).1; omega

theorem Ov.kept {w w' : World} {base : Nat} {vs vt : Value} {sh st : List Int} {row : Option Nat} (h : Ov w base vs vt sh st) (hg : w.grownBy w' row) (h1 : ¬ vs.ownBlock = row ∨ row = none) (h2 : ¬ vt.ownBlock = row ∨ row = none) : Ov w' base vs vt sh st := by
  refine ⟨h.1.kept hg ?_, h.2.1.kept hg ?_, h.2.2⟩
  · rcases h1 with h1 | rfl
    · exact .inr h1
    · cases e : vs.ownBlock with
      | none => exact .inl rfl
      | some g => exact .inr (by simp)
  · rcases h2 with h2 | rfl
    · exact .inr h2
    · cases e : vt.ownBlock with
      | none => exact .inl rfl
      | some g => exact .inr (by simp)
theorem Ov.below {w w' : World} {base : Nat} {vs vt : Value} {sh st : List Int} (h : Ov w base vs vt sh st) (hb : Below w.heap.size w w') : Ov w' base vs vt sh st := ⟨Below.keepOwn h.1 hb (Nat.le_refl _), Below.keepOwn h.2.1 hb (Nat.le_refl _), h.2.2⟩
theorem Ov.base {w : World} {base base' : Nat} {vs vt : Value} {sh st : List Int} (h : Ov w base vs vt sh st) (hb : base' ≤ base) : Ov w base' vs vt sh st := ⟨own_base h.1 hb, own_base h.2.1 hb, h.2.2⟩
theorem grown_box3 (W : World) (b : Nat) (x y z : Value) : W.grownBy (((W.setCell ⟨b, 0, none⟩ x).setCell ⟨b, 1, none⟩ y).setCell ⟨b, 2, none⟩ z) (some b) := ⟨rfl, rfl, rfl, by simp, fun j _ hne => by
  have hn : ∀ k, j ≠ (⟨b, k, none⟩ : Addr).block := fun k e => hne (by rw [e])
  exact (Below.heap_setCell _ _ _ j (hn 2)).trans ((Below.heap_setCell _ _ _ j (hn 1)).trans (Below.heap_setCell _ _ _ j (hn 0)))⟩
theorem stl_own {W : World} {base g : Nat} {s : List Int} (h : Blk W g 3 (ints (stl s)).toArray) (hb : base ≤ g) (hm : s.length ≤ 65536) : W.ownsRow base 3 1 (.slice (some ⟨g, 0, none⟩) s.length s.length) (stl s).length (ints (stl s)) := by
  have := h.owns (base := base) hb (by rw [stl_len]; exact hm)
  rwa [stl_len] at this ⊢

end Go.Proofs.YtpfcjajmfadcbaaGreat
