/-
  slices.Backward over whole numbers: the iterator's contract, for every loop body that keeps the slice.
-/
import Derived.RangeFuncNested
import Derived.RangeFuncBound
import Derived.RangeFuncCalls
import Derived.RangeFuncLeaves
import Derived.RangeFuncBox
import Derived.Shelf.Abstract
import Derived.Shelf.RegionOpen
import Derived.WalkKit
import Derived.OwnWalkIn
import Derived.TacticsInMore
import Derived.LoopNIn
import Derived.LoopIn
import Derived.Maps.AppendAt
import Derived.Test.YteplhlmdaabpaaaSl
namespace Go.Proofs.Yteplhlmdaabpaaa
open Go.RowKit Go.Shelf
attribute [local go_sem] Oper.semAt_some

/-- Places, from the last one down. -/
def rs {n : Nat} : (j : Nat) → j ≤ n → List (Fin n)
  | 0, _ => []
  | j + 1, h => ⟨j, h⟩ :: rs j (by omega)
theorem rs_len {n : Nat} : ∀ (j : Nat) (h : j ≤ n), (rs j h).length = j
  | 0, _ => rfl
  | j + 1, h => by simp [rs, rs_len j]
/-- All places, from the last one down. -/
def bk (n : Nat) : List (Fin n) := rs n (Nat.le_refl n)
/-- What a round must keep: what lay there ahead, and the box. -/
def KeepB (n0 B : Nat) (W W' : World) : Prop := W'.heap[B]? = W.heap[B]? ∧ ∀ k, k < n0 → W'.heap[k]? = W.heap[k]?
theorem KeepB.refl (n0 B : Nat) (W : World) : KeepB n0 B W W := ⟨rfl, fun _ _ => rfl⟩
theorem KeepB.trans {n0 B : Nat} {a b c : World} (h : KeepB n0 B a b) (k : KeepB n0 B b c) : KeepB n0 B a c := ⟨k.1.trans h.1, fun i hi => (k.2 i hi).trans (h.2 i hi)⟩
theorem KeepB.cell {n0 B : Nat} {W W' : World} (h : KeepB n0 B W W') : W'.cell? ⟨B, 0, none⟩ = W.cell? ⟨B, 0, none⟩ := by simp [World.cell?, h.1]
theorem KeepB.old {n0 B b o : Nat} {W W' : World} (h : KeepB n0 B W W') (hb : b < n0) : W'.cell? ⟨b, o, none⟩ = W.cell? ⟨b, o, none⟩ := by simp [World.cell?, h.2 b hb]
theorem KeepB.put {n0 B : Nat} {w : World} (hn : n0 ≤ w.heap.size) (hB : B < w.heap.size) (W : World) (l : Nat) (o o' : Obj) (hl : w.heap.size ≤ l) (_ : W.heap[l]? = some o) (_ : o.isCells = false) (_ : o.isWalk = false) : KeepB n0 B W (W.putObj l o') :=
  ⟨World.putObj_heap_other (by omega), fun k h2 => World.putObj_heap_other (by omega)⟩
/-- The pair that the body is told. -/
def pr (ls : List Int) (x : Fin ls.length) : Array Value := #[.int .i64 (x.1 : Nat), .int .i64 (ls.getD x.1 0)]

set_option maxRecDepth 100000 in
set_option maxHeartbeats 2000000 in
theorem back1_in (F : Fence) (n : Nat) (hfn : F.fn 40) (hro : F.round = none) (hn : 1 ≤ n) (l B n0 : Nat) (o : Option Addr) (c : Nat) (ls : List Int) (hl : ls.length ≤ 1073741824) (J Jx : List (Fin ls.length) → World → Prop)
    (hY : ∀ pre x W, J pre W → pre.length < ls.length → YieldAt F (n - 1) Try.prog l (pr ls x) W fun e W' =>
      (e = .returned (.bool true) ∧ J (pre ++ [x]) W' ∧ KeepB n0 B W W') ∨ (e = .returned (.bool false) ∧ Jx (pre ++ [x]) W'))
    (W : World) (h0s : W.cell? ⟨B, 0, none⟩ = some (.slice o ls.length c)) (hx : ∀ i, i < ls.length → ∃ b f, o = some ⟨b, f, none⟩ ∧ b < n0 ∧ W.cell? ⟨b, f + i, none⟩ = some (.int .i64 (ls.getD i 0))) (h0 : J [] W) :
    CallsIn F n Try.prog 40 #[.func (.yield l) #[] #[], .pointer (some ⟨B, 0, none⟩)] W fun e W' => (∃ v, e = .returned v) ∧
      ((∃ ys, ys = bk ls.length ∧ J ys W') ∨ (∃ pre, pre <+: bk ls.length ∧ Jx pre W')) := by
  have HX := Lib.hid hx
  clear hx
  refine callsIn_of_wp Try.func40 rfl hfn ?_ hro
  simp only [Try.ntmps40, List.size_toArray, List.length_cons, List.length_nil, Nat.reduceAdd, Nat.reduceSub, Array.replicate_succ, Array.replicate_zero, List.push_toArray, List.append_toArray, List.nil_append, List.cons_append]
  gi_wp2
  gi_loopw [3] (fun v wr => ∃ (pre : List (Fin ls.length)) (j : Nat) (hj : j ≤ ls.length), v = .int .i64 ((j : Int) - 1) ∧ Hid (pre ++ rs j hj = bk ls.length) ∧ J pre wr ∧ KeepB n0 B W wr)
    (fun v _ => (intOf v + 1).toNat)
  case atStart =>
    exact ⟨[], ls.length, Nat.le_refl _, rfl, rfl, h0, KeepB.refl _ _ _⟩
  case round =>
    obtain ⟨pre, j, hj, rfl, hp, hJs, hnx⟩ := hrel
    have c0 : wr.cell? ⟨B, 0, none⟩ = some (.slice o ls.length c) := hnx.cell.trans h0s
    cases j with
    | zero =>
      gi_wp2
      go_end0
      have hp := hp.out
      simp only [rs, List.append_nil] at hp
      exact ⟨⟨_, rfl⟩, .inl ⟨pre, hp, hJs⟩⟩
    | succ j =>
      obtain ⟨b, f, rfl, hb, hc⟩ := HX.out j hj
      have hc' : wr.cell? ⟨b, f + j, none⟩ = some (.int .i64 (ls.getD j 0)) := (hnx.old hb).trans hc
      have hpl : pre.length < ls.length := by
        have h1 := congrArg List.length hp.out
        rw [List.length_append, rs_len, bk, rs_len] at h1
        omega
      have hy0 := hY pre ⟨j, hj⟩ wr hJs hpl
      unfold pr at hy0
      obtain ⟨fn, tmps, assign, body, hy, hR⟩ := hy0
      have ej : ((j + 1 : Nat) : Int) - 1 = (j : Int) := by omega
      rw [ej]
      generalize ls.getD j 0 = x at *
      clear hc
      gi_wp2
      refine hR.mono ?_
      rintro e W3 (⟨rfl, hJ3, hk3⟩ | ⟨rfl, hJx3⟩)
      · have c1' : W3.cell? ⟨B, 0, none⟩ = some (.slice (some ⟨b, f, none⟩) ls.length c) := hk3.cell.trans c0
        gi_wp2
        go_roundw
        case rel => exact ⟨pre ++ [⟨j, hj⟩], j, by omega, rfl, by have := hp.out; rw [← this]; simp [rs, Hid], hJ3, hnx.trans hk3⟩
        case measure => simp [intOf]
      · gi_wp2
        refine bodyPost_ret (results_none rfl _ _ _) rfl ?_
        exact ⟨⟨_, rfl⟩, .inr ⟨pre ++ [⟨j, hj⟩], ⟨rs j (by omega), by have := hp.out; rw [← this]; simp [rs]⟩, hJx3⟩⟩

/-- The iterator's contract. -/
theorem back_stops (F : Fence) (n : Nat) (hfn : F.fn 40) (hro : F.round = none) (hn : 1 ≤ n) (B n0 : Nat) (o : Option Addr) (c : Nat) (ls : List Int) (hl : ls.length ≤ 1073741824) (w : World) (hB : B < w.heap.size) (hn0 : n0 ≤ w.heap.size)
    (h0s : w.cell? ⟨B, 0, none⟩ = some (.slice o ls.length c)) (hx : ∀ i, i < ls.length → ∃ b f, o = some ⟨b, f, none⟩ ∧ b < n0 ∧ w.cell? ⟨b, f + i, none⟩ = some (.int .i64 (ls.getD i 0))) :
    SeqStopsK F n Try.prog 40 #[.pointer (some ⟨B, 0, none⟩)] (pr ls) (KeepB n0 B) (fun ys => ys = bk ls.length) (fun pre => pre <+: bk ls.length) ls.length w := fun l J Jx W hW _ _ hY h0 =>
  back1_in F n hfn hro hn l B n0 o c ls hl J Jx hY W ((hW.cell (p := ⟨B, 0, none⟩) hB).trans h0s) (fun i hi => by
    obtain ⟨b, f, e, hb, hc⟩ := hx i hi
    exact ⟨b, f, e, hb, (hW.cell (p := ⟨b, f + i, none⟩) (by show b < _; omega)).trans hc⟩) h0

set_option maxRecDepth 100000 in
/-- slices.Backward: a box, and the function value that holds it. -/
theorem backs_any (o : Option Addr) (n c : Nat) (w : World) : Calls Try.prog 32 #[.slice o n c] w fun e w' => e = .returned (.func (.func 40) #[] #[.pointer (some ⟨w.heap.size, 0, none⟩)]) ∧
    w.alloc (.cells #[.slice o n c] 23) = w' := by
  go_enter Try.func32, Try.ntmps32
  go_wp2
  refine bodyPost_ret (results_tmp rfl _ _ _) rfl ?_
  exact ⟨rfl, rfl⟩
end Go.Proofs.Yteplhlmdaabpaaa
