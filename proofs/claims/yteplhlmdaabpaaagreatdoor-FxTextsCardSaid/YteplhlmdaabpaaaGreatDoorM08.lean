/-
  fx's digits behind the point: the iterator's contract, for every loop body that keeps what lay below it.
  A row of bytes of the call's own, out of a string: what is marked lies behind its end. An append of one byte, in place or moved.
  strconv.FormatUint to the base 10: the decimal digits.
-/
import Derived.RangeFuncNested
import Derived.RangeFuncBound
import Derived.RangeFuncCalls
import Derived.RangeFuncLeaves
import Derived.RangeFuncBox
import Derived.Shelf.Abstract
import Derived.Shelf.RegionOpen
import Derived.WalkKit
import Derived.OwnWalkIn
import Derived.TacticsInMore
import Derived.LoopNIn
import Derived.LoopIn
import Derived.Maps.AppendAt
import Derived.Lib.Hide
import Derived.Shelf.Spec.BitsCarry
import Derived.Laws.BitsAllLaws
import Derived.Test.YteplhlmdaabpaaaGreatDoorProg
import Derived.Laws.AppendOwn
import Derived.Laws.Append
import Derived.Lib.ConvBytes
import Derived.RangeFuncWrites
import Derived.Lib.Walk
import Derived.Lib.ItoaMem
import Derived.Lib.AppendIntMem
import Derived.BigCall
import Derived.BigGuard
import Derived.Test.YteplhlmdaabpaaaGreatDoorShelf
import Derived.Test.YteplhlmdaabpaaaGreatDoorM07
namespace Go.Proofs.YteplhlmdaabpaaaGreatDoor
open Go.RowKit Go.Shelf
attribute [local go_sem] Oper.semAt_some

theorem mask_mod (x f : Nat) (hx : x < 18446744073709551616) (hf : f ≤ 32) : bits BinOp.and IntKind.u64 (x : Int) ((2 ^ f - 1 : Nat) : Int) = ((x % 2 ^ f : Nat) : Int) := by
  have h2 : 2 ^ f ≤ 2 ^ 32 := Nat.pow_le_pow_right (by decide) hf
  have h3 : 0 < 2 ^ f := Nat.pow_pos (by decide)
  rw [u64_and_nat _ _ (by omega) (by omega), Nat.and_two_pow_sub_one_eq_mod]
theorem frs_digit {f r : Nat} (h : r < 2 ^ f) : 10 * r / 2 ^ f ≤ 9 := by
  have h3 : 0 < 2 ^ f := Nat.pow_pos (by decide)
  have : 10 * r / 2 ^ f < 10 := by rw [Nat.div_lt_iff_lt_mul h3]; omega
  omega
theorem frs_u8 {d : Nat} (h : d ≤ 9) : ((UInt8.ofNat (48 + d)).toNat : Int) = 48 + (d : Int) := by
  have : (UInt8.ofNat (48 + d)).toNat = (48 + d) % 256 := by simp
  rw [this]; omega

/-- What a round must keep: the three boxes. -/
def Keep3 (B : Nat) (W W' : World) : Prop := ∀ k, B ≤ k → k < B + 3 → W'.heap[k]? = W.heap[k]?
theorem Keep3.refl (B : Nat) (W : World) : Keep3 B W W := fun _ _ _ => rfl
theorem Keep3.trans {B : Nat} {a b c : World} (h : Keep3 B a b) (k : Keep3 B b c) : Keep3 B a c := fun i h1 h2 => (k i h1 h2).trans (h i h1 h2)
theorem Keep3.cell {B k : Nat} {W W' : World} (h : Keep3 B W W') (h1 : B ≤ k) (h2 : k < B + 3) : W'.cell? ⟨k, 0, none⟩ = W.cell? ⟨k, 0, none⟩ := by simp [World.cell?, h k h1 h2]
theorem Keep3.below {B : Nat} {W W' : World} (h : Below W.heap.size W W') (hB : B + 3 ≤ W.heap.size) : Keep3 B W W' := fun k _ h2 => h.block k (by omega)
theorem Keep3.put {B : Nat} {w : World} (hn : B + 3 ≤ w.heap.size) (W : World) (l : Nat) (o o' : Obj) (hl : w.heap.size ≤ l) (_ : W.heap[l]? = some o) (_ : o.isCells = false) (_ : o.isWalk = false) : Keep3 B W (W.putObj l o') := fun k _ h2 => World.putObj_heap_other (by omega)
theorem Keep3.of_boxes {B : Nat} {W W' : World} {t1 t2 t3 : TypeId} {v1 v2 v3 : Value} (a1 : Boxed W B t1 v1) (a2 : Boxed W (B + 1) t2 v2) (a3 : Boxed W (B + 2) t3 v3) (b1 : Boxed W' B t1 v1) (b2 : Boxed W' (B + 1) t2 v2) (b3 : Boxed W' (B + 2) t3 v3) : Keep3 B W W' := by
  intro k h1 h2
  rcases (by omega : k = B ∨ k = B + 1 ∨ k = B + 2) with rfl | rfl | rfl
  · exact Eq.trans b1 (Eq.symm a1)
  · exact Eq.trans b2 (Eq.symm a2)
  · exact Eq.trans b3 (Eq.symm a3)

set_option maxRecDepth 100000 in
set_option maxHeartbeats 2000000 in
theorem dec1_in (F : Fence) (n : Nat) (hfn : F.fn 36) (hro : F.round = none) (hn : 1 ≤ n) (l B s f : Nat) (hf : f ≤ 32) (hs : s < 18446744073709551616) (J Jx : List UInt8 → World → Prop)
    (hY : ∀ pre x W, J pre W → pre.length < (frs f (s % 2 ^ f)).length → YieldAt F (n - 1) Tryz.prog l #[.int .u8 (x.toNat : Int)] W fun e W' =>
      (e = .returned (.bool true) ∧ J (pre ++ [x]) W' ∧ Keep3 B W W') ∨ (e = .returned (.bool false) ∧ Jx (pre ++ [x]) W'))
    (W : World) (h0s : W.cell? ⟨B, 0, none⟩ = some (.int .u64 s)) (h0f : W.cell? ⟨B + 1, 0, none⟩ = some (.int .i64 f)) (h0b : W.cell? ⟨B + 2, 0, none⟩ = some (.int .u64 ((2 ^ f - 1 : Nat) : Int))) (h0 : J [] W) :
    CallsIn F n Tryz.prog 36 #[.func (.yield l) #[] #[], .pointer (some ⟨B, 0, none⟩), .pointer (some ⟨B + 2, 0, none⟩), .pointer (some ⟨B + 1, 0, none⟩)] W fun e W' => (∃ v, e = .returned v) ∧
      ((∃ ys, ys = frs f (s % 2 ^ f) ∧ J ys W') ∨ (∃ pre, pre <+: frs f (s % 2 ^ f) ∧ Jx pre W')) := by
  have h2 : 2 ^ f ≤ 2 ^ 32 := Nat.pow_le_pow_right (by decide) hf
  have h3 : 0 < 2 ^ f := Nat.pow_pos (by decide)
  have m0 := mask_mod s f hs hf
  have hmask := fun x h => mask_mod x f h hf
  have HM := Lib.hid (And.intro h2 (And.intro h3 hmask))
  clear hmask h2 h3
  generalize hM : (2 ^ f - 1 : Nat) = M at *
  refine callsIn_of_wp Tryz.func36 rfl hfn ?_ hro
  simp only [Tryz.ntmps36, List.size_toArray, List.length_cons, List.length_nil, Nat.reduceAdd, Nat.reduceSub, Array.replicate_succ, Array.replicate_zero, List.push_toArray, List.append_toArray, List.nil_append, List.cons_append]
  gi_wp2
  gi_loopw [5] (fun v wr => ∃ (pre : List UInt8) (r : Nat), v = .int .u64 (r : Int) ∧ r < 2 ^ f ∧ pre ++ frs f r = frs f (s % 2 ^ f) ∧ J pre wr ∧ Keep3 B W wr)
    (fun v _ => 2 ^ f - Nat.gcd (intOf v).toNat (2 ^ f))
  case atStart =>
    exact ⟨[], s % 2 ^ f, by simp, Nat.mod_lt _ HM.out.2.1, rfl, h0, Keep3.refl _ _⟩
  case round =>
    obtain ⟨pre, r, rfl, hr, hp, hJs, hnx⟩ := hrel
    have c0 : wr.cell? ⟨B + 1, 0, none⟩ = some (.int .i64 f) := (hnx.cell (by omega) (by omega)).trans h0f
    have c1 : wr.cell? ⟨B + 2, 0, none⟩ = some (.int .u64 M) := (hnx.cell (by omega) (by omega)).trans h0b
    by_cases hz : r = 0
    · subst hz
      gi_wp2
      go_end0
      rw [frs_zero, List.append_nil] at hp
      exact ⟨⟨_, rfl⟩, .inl ⟨pre, hp, hJs⟩⟩
    · have hd := frs_digit hr
      have hfn' := frs_next hz hr
      obtain ⟨T, hT⟩ : ∃ T, T = 10 * r := ⟨_, rfl⟩
      obtain ⟨d, hdd⟩ : ∃ d, d = T / 2 ^ f := ⟨_, rfl⟩
      have hg := frs_dec (f := f) (r := r) (by omega)
      rw [← hT] at hd hfn' hg
      rw [← hdd] at hd hfn'
      have hrl : r < 4294967296 := Nat.lt_of_lt_of_le hr HM.out.1
      have hT2 : T < 42949672960 := by omega
      have e1 : IntKind.u64.wrap ((r : Int) * 10) = (T : Int) := by rw [IntKind.wrap_u64]; omega
      have e2 : (T : Int) / 2 ^ f = (d : Int) := by rw [hdd]; simp
      have e3 : (48 + (d : Int)) % 256 = 48 + (d : Int) := by omega
      have m1 := HM.out.2.2 T (by omega)
      obtain ⟨q, hq⟩ : ∃ q, q = T % 2 ^ f := ⟨_, rfl⟩
      have hq2 : q < 2 ^ f := by rw [hq]; exact Nat.mod_lt _ HM.out.2.1
      rw [← hq] at m1 hfn' hg
      obtain ⟨fn, tmps, assign, body, hy, hR⟩ := hY pre (UInt8.ofNat (48 + d)) wr hJs (by rw [← hp, hfn']; simp)
      rw [frs_u8 hd] at hy
      have hr0 : ((r : Int) != 0) = true := by rw [bne_iff_ne]; omega
      have hp' := Lib.hid hp
      have hgg := Lib.hid (And.intro hg (And.intro hfn' hq2))
      clear hp hg hfn' hdd hq hq2 hT hd hT2 hrl m0
      gi_wp2
      refine hR.mono ?_
      rintro e W3 (⟨rfl, hJ3, hk3⟩ | ⟨rfl, hJx3⟩)
      · have c1' : W3.cell? ⟨B + 2, 0, none⟩ = some (.int .u64 M) := (hk3.cell (by omega) (by omega)).trans c1
        gi_wp2
        go_roundw
        case rel => exact ⟨pre ++ [UInt8.ofNat (48 + d)], q, rfl, hgg.out.2.2, by rw [← hp'.out, hgg.out.2.1]; simp, hJ3, hnx.trans hk3⟩
        case measure => simpa [intOf] using hgg.out.1
      · gi_wp2
        refine bodyPost_ret (results_none rfl _ _ _) rfl ?_
        exact ⟨⟨_, rfl⟩, .inr ⟨pre ++ [UInt8.ofNat (48 + d)], ⟨frs f q, by rw [← hp'.out, hgg.out.2.1]; simp⟩, hJx3⟩⟩

/-- The iterator's contract. -/
theorem dec_stops (F : Fence) (n : Nat) (hfn : F.fn 36) (hro : F.round = none) (hn : 1 ≤ n) (B s f : Nat) (hf : f ≤ 32) (hs : s < 18446744073709551616) (w : World) (hB : B + 2 < w.heap.size)
    (h0s : w.cell? ⟨B, 0, none⟩ = some (.int .u64 s)) (h0f : w.cell? ⟨B + 1, 0, none⟩ = some (.int .i64 f)) (h0b : w.cell? ⟨B + 2, 0, none⟩ = some (.int .u64 ((2 ^ f - 1 : Nat) : Int))) :
    SeqStopsK F n Tryz.prog 36 #[.pointer (some ⟨B, 0, none⟩), .pointer (some ⟨B + 2, 0, none⟩), .pointer (some ⟨B + 1, 0, none⟩)] (fun x : UInt8 => #[Value.int .u8 (x.toNat : Int)]) (Keep3 B) (fun ys => ys = frs f (s % 2 ^ f)) (fun pre => pre <+: frs f (s % 2 ^ f)) (frs f (s % 2 ^ f)).length w := fun l J Jx W hW _ _ hY h0 =>
  dec1_in F n hfn hro hn l B s f hf hs J Jx hY W ((hW.cell (p := ⟨B, 0, none⟩) (by show B < _; omega)).trans h0s) ((hW.cell (p := ⟨B + 1, 0, none⟩) (by show B + 1 < _; omega)).trans h0f) ((hW.cell (p := ⟨B + 2, 0, none⟩) hB).trans h0b) h0

set_option maxRecDepth 100000 in
set_option maxHeartbeats 2000000 in
/-- fx.decimals: three boxes, and the function value that holds them. -/
theorem decs_any (s f : Nat) (hf : f ≤ 32) (w : World) : Calls Tryz.prog 17 #[.int .u64 s, .int .i64 f] w fun e w' => e = .returned (.func (.func 36) #[] #[.pointer (some ⟨w.heap.size, 0, none⟩), .pointer (some ⟨w.heap.size + 2, 0, none⟩), .pointer (some ⟨w.heap.size + 1, 0, none⟩)]) ∧
    Boxed w' w.heap.size 43 (.int .u64 s) ∧ Boxed w' (w.heap.size + 1) 3 (.int .i64 f) ∧ Boxed w' (w.heap.size + 2) 43 (.int .u64 ((2 ^ f - 1 : Nat) : Int)) ∧ w'.heap.size = w.heap.size + 3 ∧ Below w.heap.size w w' := by
  go_enter Tryz.func17, Tryz.ntmps17
  have h2 : 2 ^ f ≤ 2 ^ 32 := Nat.pow_le_pow_right (by decide) hf
  have h3 : 0 < 2 ^ f := Nat.pow_pos (by decide)
  have e1 : IntKind.u64.wrap (IntKind.u64.wrap (2 ^ f) - 1) = ((2 ^ f - 1 : Nat) : Int) := by
    have e : (2 : Int) ^ f = ((2 ^ f : Nat) : Int) := by simp
    rw [e, IntKind.wrap_u64, IntKind.wrap_u64]
    omega
  clear h2 h3
  go_wp2
  refine bodyPost_ret (results_tmp rfl _ _ _) rfl ?_
  have b0 := ((Boxed.new w 43 (.int .u64 s)).alloc (Obj.cells #[Value.int IntKind.i64 (f : Int)] 3)).alloc (Obj.cells #[Value.int IntKind.u64 ((2 ^ f - 1 : Nat) : Int)] 43)
  have b1 := (Boxed.new (w.alloc (Obj.cells #[Value.int IntKind.u64 (s : Int)] 43)) 3 (.int .i64 f)).alloc (Obj.cells #[Value.int IntKind.u64 ((2 ^ f - 1 : Nat) : Int)] 43)
  have b2 := Boxed.new ((w.alloc (Obj.cells #[Value.int IntKind.u64 (s : Int)] 43)).alloc (Obj.cells #[Value.int IntKind.i64 (f : Int)] 3)) 43 (.int .u64 ((2 ^ f - 1 : Nat) : Int))
  rw [World.size_alloc] at b1
  rw [World.size_alloc, World.size_alloc] at b2
  exact ⟨rfl, b0, b1, b2, by simp, (((Below.refl _ _).alloc (Nat.le_refl _) _).alloc (by simp) _).alloc (by simp; omega) _⟩
end Go.Proofs.YteplhlmdaabpaaaGreatDoor
namespace Go.Proofs.YteplhlmdaabpaaaGreatDoor
open Go.RowKit

/-- The slice value v owns the bytes xs, in a block from base on; no cell of it is marked. -/
def ByteRow (w : World) (base : Nat) (e : TypeId) (v : Value) (xs : List Value) : Prop :=
  ∃ g cap cur lo hi, v = .slice (some ⟨g, 0, none⟩) xs.length cap ∧ base ≤ g ∧ w.heap[g]? = some (.cells cur e (lo, hi)) ∧ (cap ≤ lo ∨ hi = 0) ∧ xs.length ≤ cap ∧ cap ≤ maxLen ∧ cur.size = cap ∧ cur.toList.take xs.length = xs

theorem ByteRow.lt {w : World} {base : Nat} {e : TypeId} {v : Value} {xs : List Value} (h : ByteRow w base e v xs) : ∃ g, v.ownBlock = some g ∧ base ≤ g ∧ g < w.heap.size := by
  obtain ⟨g, cap, cur, lo, hi, rfl, hb, hg, _⟩ := h
  exact ⟨g, rfl, hb, (Array.getElem?_eq_some_iff.1 hg).1⟩
theorem ByteRow.kept {w w' : World} {base : Nat} {e : TypeId} {v : Value} {xs : List Value} {row : Option Nat} (h : ByteRow w base e v xs) (hg : w.grownBy w' row) (hne : v.ownBlock ≠ row) : ByteRow w' base e v xs := by
  obtain ⟨g, cap, cur, lo, hi, rfl, hb, hgg, rest⟩ := h
  refine ⟨g, cap, cur, lo, hi, rfl, hb, ?_, rest⟩
  rw [hg.block g (Array.getElem?_eq_some_iff.1 hgg).1 (by simpa [Value.ownBlock] using hne)]
  exact hgg
theorem ByteRow.alloc {w : World} {base : Nat} {e : TypeId} {v : Value} {xs : List Value} (h : ByteRow w base e v xs) (o : Obj) : ByteRow (w.alloc o) base e v xs := by
  obtain ⟨g, e1, _, _⟩ := h.lt
  exact h.kept (World.grownBy_alloc w o none) (by rw [e1]; simp)
theorem ByteRow.cells {w : World} {base : Nat} {e : TypeId} {g n c : Nat} {xs : List Value} (h : ByteRow w base e (.slice (some ⟨g, 0, none⟩) n c) xs) : ∀ j u, xs[j]? = some u → w.cell? ⟨g, j, none⟩ = some u := by
  obtain ⟨g', cap, cur, lo, hi, hv, _, hgg, _, _, _, _, htake⟩ := h
  simp only [Value.slice.injEq, Option.some.injEq, Addr.mk.injEq] at hv
  obtain ⟨⟨rfl, _⟩, _, _⟩ := hv
  intro j u hu
  rw [cell_of_row w g j cur e (lo, hi) hgg]
  rw [← htake, List.getElem?_take] at hu
  split at hu
  · simpa using hu
  · cases hu
theorem ByteRow.put {w : World} {base : Nat} {e : TypeId} {v : Value} {xs : List Value} {l : Nat} {o : Obj} (o' : Obj) (h : ByteRow w base e v xs) (hl : w.heap[l]? = some o) (ho : o.isCells = false) : ByteRow (w.putObj l o') base e v xs := by
  refine h.kept (grownBy_putObj' w l o') ?_
  obtain ⟨g, cap, cur, lo, hi, rfl, _, hgg, _⟩ := h
  intro e1
  simp only [Value.ownBlock, Option.some.injEq] at e1
  subst e1
  rw [hgg] at hl
  cases hl
  cases ho
theorem ByteRow.below {w w' : World} {base : Nat} {e : TypeId} {v : Value} {xs : List Value} (h : ByteRow w base e v xs) (hb : Below w.heap.size w w') : ByteRow w' base e v xs := by
  obtain ⟨g, cap, cur, lo, hi, rfl, hb1, hgg, rest⟩ := h
  exact ⟨g, cap, cur, lo, hi, rfl, hb1, (hb.block g (Array.getElem?_eq_some_iff.1 hgg).1).trans hgg, rest⟩
theorem ByteRow.set {w : World} {base B : Nat} {e t : TypeId} {v u u' : Value} {xs : List Value} (h : ByteRow w base e v xs) (hB : Boxed w B t u) (hte : t ≠ e) : ByteRow (w.setCell ⟨B, 0, none⟩ u') base e v xs := by
  refine h.kept (grownBy_setCell' w B u') ?_
  obtain ⟨g, cap, cur, lo, hi, rfl, hb1, hgg, rest⟩ := h
  intro e1
  simp only [Value.ownBlock, Option.some.injEq] at e1
  subst e1
  have := (show w.heap[g]? = _ from hB).symm.trans hgg
  simp at this
  exact hte this.2.1
theorem ByteRow.not_box {w : World} {base B : Nat} {e t : TypeId} {v u : Value} {xs : List Value} (h : ByteRow w base e v xs) (hB : Boxed w B t u) (hte : t ≠ e) : some B ≠ v.ownBlock := by
  obtain ⟨g, cap, cur, lo, hi, rfl, hb1, hgg, rest⟩ := h
  intro e1
  simp only [Value.ownBlock, Option.some.injEq] at e1
  subst e1
  have := (show w.heap[B]? = _ from hB).symm.trans hgg
  simp at this
  exact hte this.2.1
theorem box_below {w w' : World} {B : Nat} {t : TypeId} {v : Value} (h : Boxed w B t v) (hb : Below w.heap.size w w') : Boxed w' B t v := (hb.block B h.lt).trans h
/-- A byte appended, the new slice stored in its box. -/
theorem box_appended {W w1 : World} {n₀ B : Nat} {t e : TypeId} {v v' : Value} {xs ys : List Value} {tmp : Obj} (hv : Boxed W B t v) (hte : t ≠ e) (hrow : ByteRow W n₀ e v xs) (hn₀ : n₀ ≤ W.heap.size) (hB : n₀ ≤ B)
    (hown' : ByteRow w1 n₀ e v' ys) (hgrow : (W.alloc tmp).grownBy w1 v.ownBlock) :
    Boxed w1 B t v ∧ Boxed (w1.setCell ⟨B, 0, none⟩ v') B t v' ∧ ByteRow (w1.setCell ⟨B, 0, none⟩ v') n₀ e v' ys ∧ KeepsOthers W (w1.setCell ⟨B, 0, none⟩ v') ∧ Below n₀ W (w1.setCell ⟨B, 0, none⟩ v') := by
  have hv1 : Boxed w1 B t v := (hv.alloc tmp).kept hgrow (hrow.not_box hv hte)
  refine ⟨hv1, hv1.set v', hown'.set hv1 hte, ?_, ?_⟩
  · refine ((KeepsOthers.alloc W tmp).trans (KeepsOthers.of_grownBy hgrow fun j o ej hj => ?_)).trans (KeepsOthers.setCell _ _ _)
    obtain ⟨g, cap, cur, lo, hi, rfl, _, hgg, _⟩ := hrow.alloc tmp
    simp only [Value.ownBlock, Option.some.injEq] at ej
    subst ej
    rw [hgg] at hj
    cases hj
    rfl
  · refine (((Below.refl n₀ W).alloc hn₀ tmp).grown hgrow (by simp; omega) fun j ej => ?_).setCell (p := ⟨B, 0, none⟩) hB v'
    obtain ⟨g, e1, hb, _⟩ := hrow.lt
    rw [e1] at ej
    cases ej
    exact hb
/-- The invariant of a loop that appends bytes. -/
theorem byteRow_own {β : Type} (n₀ B : Nat) (t e : TypeId) (f : β → List Value) : Own (fun s W => ∃ v, Boxed W B t v ∧ ByteRow W n₀ e v (f s)) := by
  rintro s X Y row ⟨v, hv, hr⟩ hg hrow
  refine ⟨v, hv.kept hg (fun e' => ?_), hr.kept hg ?_⟩
  · obtain ⟨o, ho, hc⟩ := hrow B e'.symm
    rw [show X.heap[B]? = _ from hv] at ho; cases ho; cases hc
  · obtain ⟨g, cap, cur, lo, hi, rfl, _, hgb, _⟩ := hr
    intro e'
    obtain ⟨o, ho, hc⟩ := hrow g e'.symm
    rw [hgb] at ho; cases ho; cases hc

section
variable {P : Program} (w : World)
/-- A byte stored behind the row's elements. -/
theorem store_behind (g n : Nat) (t : TypeId) (lo hi : Nat) (u : Value) (cur : Array Value) (hg : w.heap[g]? = some (.cells cur t (lo, hi))) (hn : n < cur.size) (hf : cur.size ≤ lo ∨ hi = 0) (h1 : u.oneCell' = true) :
    (storeCells ⟨g, n, none⟩ [u] 0).run P w = .ok () (w.setRow g (cur.setIfInBounds n u)) := by
  have hadd : (⟨g, n, none⟩ : Addr).add 0 = ⟨g, n, none⟩ := by unfold Addr.add; split <;> simp_all
  have hcell : w.cell? ⟨g, n, none⟩ = some cur[n] := by simp [World.cell?, hg, hn]
  have hfro : w.frozen? ⟨g, n, none⟩ = false := by
    simp only [World.frozen?, hg, Bool.and_eq_false_iff, decide_eq_false_iff_not]
    omega
  have hst : (store ((⟨g, n, none⟩ : Addr).add 0) u).run P w = .ok () (w.setRow g (cur.setIfInBounds n u)) := by
    rw [hadd, run_store P w _ u _ h1, hcell]
    simp [hfro, setCell_eq_setRow w g n cur t (lo, hi) u hg]
  simp [storeCells, hst]
/-- The append of one byte. -/
theorem append_one (base : Nat) (t ty e : TypeId) (i : TypeInfo) (z : Value) (ht : P.underlying t = some (.slice e)) (hi : P.info? e = some i) (hz : i.zero = some z) (hsize : i.size = 1) (hby : i.bytes = 1) (hzs : z.cells.size = 1)
    (v : Value) (xs : List Value) (hown : ByteRow w base e v xs) (n c : Nat) (ad : Addr) (u : Value) (hn : n = xs.length) (hnew : w.cell? ad = some u) (had : ad.add 0 = ad) (h1 : u.oneCell' = true) (hlen : xs.length + 1 ≤ 65536) (hbase : base ≤ w.heap.size) :
    ∃ g' cap' w', (Builtin.append_ #[t, t] ty #[v, .slice (some ad) 1 c]).run P w = .ok (.slice (some ⟨g', 0, none⟩) (n + 1) cap') w' ∧ ByteRow w' base e (.slice (some ⟨g', 0, none⟩) (n + 1) cap') (xs ++ [u]) ∧ w.grownBy w' v.ownBlock := by
  subst hn
  obtain ⟨g, cap, cur, lo, hi', rfl, hbg, hg, hf, hnc, hcm, hcs, htake⟩ := hown
  have hnews : ∀ j u', [u][j]? = some u' → w.cell? (ad.add j) = some u' := by
    intro j u' hj
    cases j with
    | zero => rw [had]; simp at hj; rw [← hj]; exact hnew
    | succ j => simp at hj
  by_cases hroom : xs.length + 1 ≤ cap
  · have hfc := run_firstCells_some (P := P) w i.size 1 ad 1 c [u] (by simp [hsize]) hnews
    have hst := store_behind (P := P) w g xs.length e lo hi' u cur hg (by omega) (by omega) h1
    refine ⟨g, cap, w.setRow g (cur.setIfInBounds xs.length u), ?_, ⟨g, cap, _, lo, hi', by simp, hbg, setRow_heap w g cur _ e _ hg, hf, by simpa using hroom, hcm, by simpa using hcs, ?_⟩, ⟨rfl, rfl, rfl, by simp, fun k _ hk => setRow_other w g k _ (fun e => hk (by simp [Value.ownBlock, e]))⟩⟩
    · simp only [hsize] at hfc
      simp [Builtin.append_, run_underlying ht, sizeOf, typeInfo, hi, Builtin.lenOf, hroom, hfc, Addr.add_lit, hst, hsize]
    · have hlt : xs.length < cur.toList.length := by simp; omega
      rw [List.length_append, List.length_singleton, Array.toList_setIfInBounds, List.take_succ_eq_append_getElem (by simpa using hlt), List.take_set_of_le (Nat.le_refl _), htake]
      simp
  · have holds : ∀ j u', xs[j]? = some u' → w.cell? ((⟨g, 0, none⟩ : Addr).add j) = some u' := by
      intro j u' hu
      have hadd : (⟨g, 0, none⟩ : Addr).add j = ⟨g, j, none⟩ := by unfold Addr.add; split <;> simp_all
      rw [hadd]
      exact ByteRow.cells (⟨g, cap, cur, lo, hi', rfl, hbg, hg, hf, hnc, hcm, hcs, htake⟩ : ByteRow w base e (.slice (some ⟨g, 0, none⟩) xs.length cap) xs) j u' hu
    have hr := run_append_grow (P := P) w t ty e i z ht hi hz ⟨g, 0, none⟩ xs.length cap xs (by rw [hsize, Nat.mul_one]) holds ad 1 c [u] (by simp [hsize]) hnews (by omega) (by omega) (growslice_fits (by omega) (by rw [hby]; omega))
    have hge := grownCap_ge w (xs.length + 1) cap e
    have hcm2 : grownCap w (xs.length + 1) cap e ≤ maxLen := grownCap_le_maxLen w (xs.length + 1) cap e (by unfold maxLen; omega)
    refine ⟨_, _, _, hr, ⟨w.heap.size, _, _, 0, 0, by simp, hbase, heap_alloc_new w.drew _, .inr rfl, by simpa using hge, hcm2, ?_, ?_⟩, ⟨rfl, rfl, rfl, by simp, fun k hk _ => by first | exact heap_alloc_old w.drew _ hk | exact heap_alloc_old w.drew _ k hk⟩⟩
    · simp only [Array.size_append, List.size_toArray, size_zeroCells, hzs, List.length_singleton]
      omega
    · simp only [Array.toList_append, List.append_assoc]
      rw [← List.append_assoc]
      exact List.take_left
end
/-- The operation, for the walk. -/
theorem wpList_append_byte {P : Program} (w : World) {ops : Array Oper} {rest : List Oper} {o : Oper} {a : Act} {Q : Exit → Act → World → Prop} (hgd : o.guard = none) (s x : Operand) (t : TypeId)
    (ho : o.op = .call { callee := .builtin .append, args := #[s, x], argTypes := #[t, t] })
    (base : Nat) (e : TypeId) (i : TypeInfo) (z : Value) (ht : P.underlying t = some (.slice e)) (hi : P.info? e = some i) (hz : i.zero = some z) (hsize : i.size = 1) (hby : i.bytes = 1) (hzs : z.cells.size = 1)
    (v : Value) (xs : List Value) (hs : a.eval s = v) (hown : ByteRow w base e v xs) (n c : Nat) (ad : Addr) (u : Value) (hn : n = xs.length) (hx : a.eval x = .slice (some ad) 1 c) (hnew : w.cell? ad = some u) (had : ad.add 0 = ad) (h1 : u.oneCell' = true) (hlen : xs.length + 1 ≤ 65536) (hbase : base ≤ w.heap.size)
    (hK : ∀ g' cap' w', ByteRow w' base e (.slice (some ⟨g', 0, none⟩) (n + 1) cap') (xs ++ [u]) → w.grownBy w' v.ownBlock → wpList P ops Q rest (a.put o.dst (.slice (some ⟨g', 0, none⟩) (n + 1) cap')) w') : wpList P ops Q (o :: rest) a w := by
  obtain ⟨g', cap', w', hrun, r1, r2⟩ := append_one (P := P) w base t o.type e i z ht hi hz hsize hby hzs v xs hown n c ad u hn hnew had h1 hlen hbase
  refine wpList_plain hgd fun _ hK' => ?_
  unfold Oper.wp execOp
  simp only [ho, resolve, invoke, builtin, Sem.run_bind, Sem.run_pure, Result.andThen_ok, List.map_toArray, List.map_cons, List.map_nil, hs, hx, hrun]
  exact hK' _ _ (hK g' cap' w' r1 r2)
theorem wpListIn_append_byte {F : Fence} {m : Nat} {P : Program} (w : World) {ops : Array Oper} {rest : List Oper} {o : Oper} {a : Act} {Q : Exit → Act → World → Prop} (hgd : o.guard = none) (s x : Operand) (t : TypeId)
    (ho : o.op = .call { callee := .builtin .append, args := #[s, x], argTypes := #[t, t] })
    (base : Nat) (e : TypeId) (i : TypeInfo) (z : Value) (ht : P.underlying t = some (.slice e)) (hi : P.info? e = some i) (hz : i.zero = some z) (hsize : i.size = 1) (hby : i.bytes = 1) (hzs : z.cells.size = 1)
    (v : Value) (xs : List Value) (hs : a.eval s = v) (hown : ByteRow w base e v xs) (n c : Nat) (ad : Addr) (u : Value) (hn : n = xs.length) (hx : a.eval x = .slice (some ad) 1 c) (hnew : w.cell? ad = some u) (had : ad.add 0 = ad) (h1 : u.oneCell' = true) (hlen : xs.length + 1 ≤ 65536) (hbase : base ≤ w.heap.size)
    (hK : ∀ g' cap' w', ByteRow w' base e (.slice (some ⟨g', 0, none⟩) (n + 1) cap') (xs ++ [u]) → w.grownBy w' v.ownBlock → wpListIn F m P ops Q rest (a.put o.dst (.slice (some ⟨g', 0, none⟩) (n + 1) cap')) w') : wpListIn F m P ops Q (o :: rest) a w := by
  refine wpListIn_plain hgd fun K hK' => ?_
  obtain ⟨g', cap', w', hrun, r1, r2⟩ := append_one (P := P) w base t o.type e i z ht hi hz hsize hby hzs v xs hown n c ad u hn hnew had h1 hlen hbase
  unfold Oper.wpIn
  refine ⟨?_, ?_⟩
  · simp [Oper.about, ho, resolve, Target.leads, Sem.run_pure]
  · rw [Oper.semAt_plain F _ _ (by rw [ho]; intro c hc'; cases hc')]
    simp [execOp, ho, resolve, invoke, builtin, hs, hx, hrun, Result.andThen]
    exact hK' _ _ (hK g' cap' w' r1 r2)
/-- A string's bytes as a row. -/
theorem byteRow_of_string (w : World) (e : TypeId) (s : ByteArray) (hs : s.size ≤ 65536) (base : Nat) (hbase : base ≤ w.heap.size) :
    ByteRow (Lib.bytesWorld w e s) base e (.slice (some ⟨w.heap.size, 0, none⟩) s.size (grownCap w s.size 0 e)) (s.data.toList.map fun b => Value.int .u8 (b.toNat : Int)) ∧ Below w.heap.size w (Lib.bytesWorld w e s) ∧ (Lib.bytesWorld w e s).heap.size = w.heap.size + 1 := by
  have hge := grownCap_ge w s.size 0 e
  have hcm : grownCap w s.size 0 e ≤ maxLen := grownCap_le_maxLen w s.size 0 e (by unfold maxLen; omega)
  have hl : (s.data.toList.map fun b => Value.int .u8 (b.toNat : Int)).length = s.size := by rw [List.length_map, Array.length_toList]; rfl
  have hcs : (Lib.bytesCells w e s).size = grownCap w s.size 0 e := by
    simp only [Lib.bytesCells, Array.size_append, Array.size_map, Array.size_replicate]
    show s.size + _ = _
    omega
  refine ⟨⟨w.heap.size, grownCap w s.size 0 e, Lib.bytesCells w e s, _, _, by rw [hl], hbase, Lib.bytesWorld_at_new w e s, .inl (by rw [hcs]; exact Nat.le_refl _), by rw [hl]; exact hge, hcm, hcs, ?_⟩, ⟨rfl, rfl, rfl, by rw [Lib.bytesWorld_size]; omega, fun k hk => Lib.bytesWorld_at_old w e s k hk⟩, Lib.bytesWorld_size w e s⟩
  simp only [Lib.bytesCells, Array.toList_append, Array.toList_map]
  exact List.take_left
end Go.Proofs.YteplhlmdaabpaaaGreatDoor
namespace Go.Proofs.YteplhlmdaabpaaaGreatDoor
open Go.RowKit Go.Sort Go.Lib

theorem fin_pos0 (w : World) (o : Obj) (dk : Array UInt8) (k : Nat) : ∃ os, (putRow (fun (b : UInt8) => Value.int .u8 (b.toNat : Int)) (w.alloc o) w.heap.size 0 dk).drewN k = grow (w.drewN k) os := by
  rw [alloc_eq_grow]
  obtain ⟨os', _, e⟩ := putRow_grow_new (fun (b : UInt8) => Value.int .u8 (b.toNat : Int)) w #[o] w.heap.size 0 dk (Nat.le_refl _)
  exact ⟨os', by rw [e]; rfl⟩
set_option maxHeartbeats 6400000 in
set_option maxRecDepth 100000 in
theorem fu_in (u : Nat) (hu64 : u < 18446744073709551616) (w : World) (htab : Lib.TabIs Tryz.prog w "internal/strconv.uint64pow10" .u64 Lib.pow10Tab) :
    Calls Tryz.prog 35 #[.int .u64 u, .int .i64 10] w fun e w' => e = .returned (.string ⟨(Lib.decDigits u).toArray⟩) ∧ Below w.heap.size w w' := by
  by_cases hi : u < 100
  · go_enter Tryz.func35, Tryz.ntmps35
    go_wp2_with (go_at_call 56; refine (Tryz.internal_strconv_small u hi _).mono ?_; rintro e w' ⟨rfl, rfl⟩)
    go_ret
    exact ⟨rfl, Below.refl _ _⟩
  · have hu1 : 1 ≤ u := by omega
    have hnd20 : Lib.nDigits u ≤ 20 := by have := Lib.numDigits_eq u hu1 hu64; split at this <;> omega
    have hal : Tryz.prog.arrayLen 92 = 24 := by kernel_rfl
    have hsl1 : ∀ W, (Instr.sliceAt 92 (.pointer (some ⟨w.heap.size, 0, none⟩)) none (some (.int .i64 (Lib.nDigits u : Int))) none).run Tryz.prog W = .ok (.slice (some ⟨w.heap.size, 0, none⟩) (Lib.nDigits u) 24) W := fun W => by
      rw [run_sliceAt_array_h W 92 ⟨w.heap.size, 0, none⟩ (by kernel_rfl) .i64 (Lib.nDigits u : Int) (by omega) (by rw [hal]; omega)]
      go_simp
    have hH0 := holds_zero0 w 92 (Lib.nDigits u) (by omega)
    have hfmt := Tryz.internal_strconv_formatBase10 w.heap.size 0 24 u (Array.replicate (Lib.nDigits u) 0) (w.alloc (.cells Lib.zeros24 92)) hH0 (by rw [Array.size_replicate]; exact Lib.lt_pow_nDigits u) hu64 (by rw [Array.size_replicate]; omega)
    rw [Array.size_replicate] at hfmt
    have HH0 := Lib.hid hH0
    clear hH0 hal
    go_enter Tryz.func35, Tryz.ntmps35
    go_wp2_with (first
      | (go_at_call 57; refine (Tryz.internal_strconv_numDigits u hu1 hu64 _ (Lib.tabIs_alloc htab _)).mono ?_; rintro e w' ⟨rfl, rfl⟩))
    go_at_call 58
    refine hfmt.mono ?_
    rintro e w' ⟨rfl, k, v', dk, rfl, hF⟩
    have hcv : (convert 44 9 (.slice (some ⟨w.heap.size, 0, none⟩) (Lib.nDigits u) 24)).run Tryz.prog ((putRow (fun (b : UInt8) => Value.int .u8 (b.toNat : Int)) (w.alloc (.cells Lib.zeros24 92)) w.heap.size 0 dk).drewN k) = .ok (.string ⟨(Lib.decDigits u).toArray⟩) ((putRow (fun (b : UInt8) => Value.int .u8 (b.toNat : Int)) (w.alloc (.cells Lib.zeros24 92)) w.heap.size 0 dk).drewN k) := by
      have h := run_convert_bytes_back (P := Tryz.prog) ((putRow (fun (b : UInt8) => Value.int .u8 (b.toNat : Int)) (w.alloc (.cells Lib.zeros24 92)) w.heap.size 0 dk).drewN k) 44 9 5 ⟨w.heap.size, 0, none⟩ 24 (Lib.decDigits u) Tryz.underlying44 Tryz.underlying5 Tryz.underlying9 (fun j hj => by
        rw [Lib.row_is_numeral hF j hj, Lib.add_plain, World.cell?_drewN]
        exact cell?_putRow (fun (b : UInt8) => Value.int .u8 (b.toNat : Int)) _ w.heap.size 0 _ dk HH0.out (by rw [hF.size, Array.size_replicate]) j (by rw [hF.size]; rw [Lib.decDigits_length] at hj; exact hj))
      rw [Lib.decDigits_length] at h
      exact h
    go_wp2
    go_ret
    obtain ⟨os, eo⟩ := fin_pos0 w (.cells Lib.zeros24 92) dk k
    refine ⟨rfl, ?_⟩
    rw [eo]
    exact below_grow _ w (Nat.le_refl _) k os
set_option maxHeartbeats 6400000 in
theorem fu_any (u : Nat) (hu64 : u < 18446744073709551616) (w : World) (htab : Lib.TabIs Tryz.prog w "internal/strconv.uint64pow10" .u64 Lib.pow10Tab) :
    Calls Tryz.prog 16 #[.int .u64 u, .int .i64 10] w fun e w' => e = .returned (.string ⟨(Lib.decDigits u).toArray⟩) ∧ Below w.heap.size w w' := by
  have H := Lib.hid htab
  clear htab
  go_enter Tryz.func16, Tryz.ntmps16
  go_wp2_with (go_at_call 35; (with_reducible refine (fu_in u hu64 _ H.out).mono ?_); rintro e w' ⟨rfl, hb⟩)
  go_ret
  exact ⟨rfl, hb⟩
end Go.Proofs.YteplhlmdaabpaaaGreatDoor
