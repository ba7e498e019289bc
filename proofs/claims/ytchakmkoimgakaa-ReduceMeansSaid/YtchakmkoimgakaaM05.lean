/-
  shape.All over any list; its iterator, whose round may write whatever but the boxes and the copy.
  view.Transpose.
  view.places: where a view's indexes stand, one behind the other.
  A region that draws its order of evaluation, within a round of a loop over an iterator: as outside of one, where no statement defers.
  The reference's Transpose.
  view.Slice.
  The reference's Slice.
-/
import Derived.Deep.RegionHeld3
import Derived.Deep.AppendLies
import Derived.Deep.DrawnRows
import Derived.Deep.DeepCutAuto
import Derived.OrdersIn
import Derived.OwnWalkIn
import Derived.Test.YtchakmkoimgakaaM03
import Derived.Test.YtchakmkoimgakaaM04
namespace Go.Proofs.Ytchakmkoimgakaa
open Go.RowKit Go.Shelf
attribute [local go_sem] Oper.semAt_some

/-- All's function value: two boxes, the copy. -/
def AllBox2 (w : World) (base B1 B2 : Nat) (N : Int) (o : Option Addr) (c : Nat) (ls : List Int) : Prop := Boxed w B1 3 (.int .i64 N) ∧ Boxed w B2 23 (.slice o ls.length c) ∧ w.ownsRow base 3 1 (.slice o ls.length c) ls.length (ints ls)
def SomeAll2 (w : World) (N : Int) (ls : List Int) (e : Ending) (w' : World) : Prop := ∃ B1 B2 o c, e = .returned (.func (.func 46) #[] #[.pointer (some ⟨B1, 0, none⟩), .pointer (some ⟨B2, 0, none⟩)]) ∧ AllBox2 w' w.heap.size B1 B2 N o c ls ∧ w.heap.size ≤ B1 ∧ w.heap.size ≤ B2 ∧ Below w.heap.size w w'

set_option maxRecDepth 100000 in
set_option maxHeartbeats 4000000 in
theorem all2_any (v : Value) (ls : List Int) (w : World) (h : Ld w v ls) (ll : ls.length ≤ 65536) :
    Calls Try.prog 27 #[v] w (SomeAll2 w (if may ls then prod ls else 0) ls) := by
  have CL := Lib.hid (fun (W : World) (hb : Below w.heap.size w W) => cloned_any v ls W (h.below hb) (by omega))
  have CN : Hid (∃ y : Int, Calls Try.prog 45 #[v] w fun e w' => e = .returned (.tuple #[.int .i64 (if may ls then prod ls else 0), .int .i64 y]) ∧ w = w') := by
    cases hm : may ls with
    | true => exact ⟨0, count_ok _ ls w h hm⟩
    | false => exact ⟨1, count_no _ ls w h hm⟩
  obtain ⟨y, CN⟩ := CN.out
  have CN := Lib.hid CN
  generalize (if may ls then prod ls else 0) = N at *
  obtain ⟨o, c, rfl, _, _⟩ := h
  go_enter Try.func27, Try.ntmps27
  go_wp2_with (first | (go_at_call 45; (with_reducible refine CN.out.mono ?_); rintro e w' ⟨rfl, rfl⟩) | (go_at_call 43; (with_reducible refine Go.Calls.mono (CL.out _ ?_) ?_); (· exact (Below.refl _ _).alloc (Nat.le_refl _) _); rintro e w2 ⟨o2, c2, rfl, ho2, hl2, hb2⟩; replace ho2 := Lib.hid ho2; clear hl2))
  refine bodyPost_ret (results_tmp rfl _ _ _) rfl ?_
  have b1 := (box_on (Boxed.new w 3 (.int .i64 N)) hb2).alloc (.cells #[.slice o2 ls.length c2] 23)
  have hs := hb2.size
  rw [World.size_alloc] at hs
  exact ⟨w.heap.size, w2.heap.size, o2, c2, rfl, ⟨b1, Boxed.new _ _ _, (own_base ho2.out (by simp)).alloc _⟩, Nat.le_refl _, by omega, (((Below.refl _ _).alloc (Nat.le_refl _) _).trans (hb2.mono (by simp))).alloc (by omega) _⟩

/-- What is known of an element that All's iterator tells. -/
def Tol3 (ls : List Int) (pre : List (Nat × Nat)) (x : Nat × Nat) (W : World) : Prop := x.1 = pre.length ∧ Blk W x.2 3 (ints (atl ls (x.1 : Nat))).toArray
/-- What a round must keep: All's boxes, the copy. -/
def Kp3 (B1 B2 : Nat) (o : Option Addr) (W W' : World) : Prop := W'.heap[B1]? = W.heap[B1]? ∧ W'.heap[B2]? = W.heap[B2]? ∧ ∀ g, o = some ⟨g, 0, none⟩ → W'.heap[g]? = W.heap[g]?
theorem Kp3.refl (B1 B2 : Nat) (o : Option Addr) (W : World) : Kp3 B1 B2 o W W := ⟨rfl, rfl, fun _ _ => rfl⟩
theorem Kp3.trans {B1 B2 : Nat} {o : Option Addr} {a b c : World} (h : Kp3 B1 B2 o a b) (k : Kp3 B1 B2 o b c) : Kp3 B1 B2 o a c := ⟨k.1.trans h.1, k.2.1.trans h.2.1, fun g e => (k.2.2 g e).trans (h.2.2 g e)⟩
theorem Kp3.own {B1 B2 : Nat} {o : Option Addr} {c base : Nat} {ls : List Int} {W W' : World} (h : Kp3 B1 B2 o W W') (ho : W.ownsRow base 3 1 (.slice o ls.length c) ls.length (ints ls)) : W'.ownsRow base 3 1 (.slice o ls.length c) ls.length (ints ls) := by
  refine ⟨ho.1, ?_⟩
  rcases ho.2 with a | ⟨g, cap, cur, e1, e2, e3, rest⟩
  · exact .inl a
  · have e4 := e1
    simp only [Value.slice.injEq] at e4
    exact .inr ⟨g, cap, cur, e1, e2, (h.2.2 g e4.1).trans e3, rest⟩
theorem Kp3.below {B1 B2 : Nat} {o : Option Addr} {c base : Nat} {ls : List Int} {W W' : World} (hb : Below W.heap.size W W') (h1 : B1 < W.heap.size) (h2 : B2 < W.heap.size) (ho : W.ownsRow base 3 1 (.slice o ls.length c) ls.length (ints ls)) : Kp3 B1 B2 o W W' := by
  refine ⟨hb.block _ h1, hb.block _ h2, fun g e => hb.block g ?_⟩
  subst e
  exact (ho.lt g rfl).2
theorem Boxed.kp {B : Nat} {t : TypeId} {v : Value} {W W' : World} (h : Boxed W B t v) (hk : W'.heap[B]? = W.heap[B]?) : Boxed W' B t v := hk.trans h

set_option maxRecDepth 100000 in
set_option maxHeartbeats 4000000 in
theorem all3_in (F : Fence) (n : Nat) (hfn : F.fn 46) (_hfi : F.fn 47) (hro : F.round = none) (hn : 2 ≤ n) (hix : ∀ v ls m w, Ld w v ls → may ls = true → 0 ≤ m → m < prod ls → CallsIn F (n - 1) Try.prog 47 #[v, .int .i64 m] w fun e w' => e = .returned (.slice (some ⟨w.heap.size + 1, 0, none⟩) ls.length ls.length) ∧ Blk w' (w.heap.size + 1) 3 (ints (atl ls m)).toArray ∧ Below w.heap.size w w')
    (l base B1 B2 N : Nat) (o : Option Addr) (c : Nat) (ls : List Int) (hN : N ≤ 65536) (hm : 0 < N → may ls = true ∧ prod ls = N) (J Jx : List (Nat × Nat) → World → Prop) (W : World) (hJ : AbidesFrom W.heap.size J)
    (hY : ∀ pre x W, J pre W → pre.length < N → Tol3 ls pre x W → YieldAt F (n - 1) Try.prog l (apr ls x) W fun e W' =>
      (e = .returned (.bool true) ∧ J (pre ++ [x]) W' ∧ Kp3 B1 B2 o W W') ∨ (e = .returned (.bool false) ∧ Jx (pre ++ [x]) W'))
    (hbox : AllBox2 W base B1 B2 N o c ls) (hj : J [] W) :
    CallsIn F n Try.prog 46 #[.func (.yield l) #[] #[], .pointer (some ⟨B1, 0, none⟩), .pointer (some ⟨B2, 0, none⟩)] W fun e W' => (∃ v, e = .returned v) ∧
      ((∃ ys : List (Nat × Nat), ys.length = N ∧ J ys W') ∨ (∃ pre : List (Nat × Nat), pre.length ≤ N ∧ Jx pre W')) := by
  have hn1 : 1 ≤ n := by omega
  have HB := Lib.hid hbox
  have h0 := hbox.1.cell
  clear hbox
  refine callsIn_of_wp Try.func46 rfl hfn ?_ hro
  simp only [Try.ntmps46, List.size_toArray, List.length_cons, List.length_nil, Nat.reduceAdd, Nat.reduceSub, Array.replicate_succ, Array.replicate_zero, List.push_toArray, List.append_toArray, List.nil_append, List.cons_append]
  gi_wp2
  gi_loopw [6] (fun s6 wr => ∃ pre : List (Nat × Nat), pre.length ≤ N ∧ s6 = .int .i64 (pre.length : Nat) ∧ J pre wr ∧ Hid (AllBox2 wr base B1 B2 N o c ls)) (fun s6 _ => N - (intOf s6).toNat)
  case atStart => exact ⟨[], Nat.zero_le _, rfl, hj, HB⟩
  case round =>
    obtain ⟨pre, hpl, rfl, hJs, hK⟩ := hrel
    have c1 : wr.cell? ⟨B2, 0, none⟩ = some (.slice o ls.length c) := hK.out.2.1.cell
    by_cases hlt : pre.length < N
    · obtain ⟨hm1, hm2⟩ := hm (by omega)
      have hld : Ld wr (.slice o ls.length c) ls := by
        obtain ⟨_, _, e, h1⟩ := Ld.of_owns hK.out.2.2
        rw [e]; exact h1
      have HI := Lib.hid (hix (.slice o ls.length c) ls (pre.length : Nat) wr hld hm1 (by omega) (by omega))
      have HY : Hid (∀ w2, Blk w2 (wr.heap.size + 1) 3 (ints (atl ls (pre.length : Nat))).toArray → Below wr.heap.size wr w2 → YieldAt F (n - 1) Try.prog l #[.int .i64 (pre.length : Nat), .slice (some ⟨wr.heap.size + 1, 0, none⟩) ls.length ls.length] w2 fun e W' =>
          (e = .returned (.bool true) ∧ J (pre ++ [(pre.length, wr.heap.size + 1)]) W' ∧ AllBox2 W' base B1 B2 N o c ls) ∨ (e = .returned (.bool false) ∧ Jx (pre ++ [(pre.length, wr.heap.size + 1)]) W')) := by
        intro w2 hb hB
        have hJ2 := hJ pre wr w2 none hJs ⟨hB.os, hB.tape, hB.output, hB.size, fun k hk _ => hB.block k hk⟩ (fun r e => by cases e)
        obtain ⟨fn, tmps, assign, body, hy, hR⟩ := hY pre (pre.length, wr.heap.size + 1) w2 hJ2 hlt ⟨rfl, hb⟩
        refine ⟨fn, tmps, assign, body, hy, hR.mono ?_⟩
        rintro e W' (⟨rfl, h2, h3⟩ | h2)
        · have k1 := (Kp3.below hB hK.out.1.lt hK.out.2.1.lt hK.out.2.2).trans h3
          exact .inl ⟨rfl, h2, k1.1.trans hK.out.1, k1.2.1.trans hK.out.2.1, k1.own hK.out.2.2⟩
        · exact .inr h2
      generalize hq : pre.length = q at *
      have HQ := Lib.hid hq
      clear hq hm hm1 hm2 hld
      gi_wp2
      refine HI.out.mono ?_
      rintro e w2 ⟨rfl, hb2, hB2⟩
      obtain ⟨fn, tmps, assign, body, hy, hR⟩ := HY.out w2 hb2 hB2
      gi_wp2
      refine hR.mono ?_
      rintro e W3 (⟨rfl, hJ3, hk3⟩ | ⟨rfl, hJx3⟩)
      · gi_wp2
        go_roundw
        case rel => exact ⟨pre ++ [(q, wr.heap.size + 1)], by simp [HQ.out]; omega, by simp [HQ.out], hJ3, hk3⟩
        case measure => simp [intOf]; omega
      · gi_wp2
        refine bodyPost_ret (results_none rfl _ _ _) rfl ?_
        exact ⟨⟨_, rfl⟩, .inr ⟨pre ++ [(q, wr.heap.size + 1)], by simp [HQ.out]; omega, hJx3⟩⟩
    · gi_wp2
      go_end0
      exact ⟨⟨_, rfl⟩, .inl ⟨pre, by omega, hJs⟩⟩
/-- The iterator's contract. -/
theorem all3_told (n base B1 B2 N : Nat) (hn : 2 ≤ n) (o : Option Addr) (c : Nat) (ls : List Int) (hN : N ≤ 65536) (hm : 0 < N → may ls = true ∧ prod ls = N) (w : World) (hbox : AllBox2 w base B1 B2 N o c ls) :
    SeqTold Fence.wide n Try.prog 46 #[.pointer (some ⟨B1, 0, none⟩), .pointer (some ⟨B2, 0, none⟩)] (apr ls) (Kp3 B1 B2 o) (Tol3 ls) (fun ys => ys.length = N) (fun pre => pre.length ≤ N) N w := fun l J Jx W hW hJ _ hY h0 =>
  all3_in Fence.wide n trivial trivial rfl hn (fun v ls m w h1 h2 h3 h4 => callsIn_wide.2 (index_any v ls m w h1 h2 h3 h4)) l base B1 B2 N o c ls hN hm J Jx W hJ hY
    ⟨box_on hbox.1 hW, box_on hbox.2.1 hW, Below.keepOwn hbox.2.2 hW (Nat.le_refl _)⟩ h0
end Go.Proofs.Ytchakmkoimgakaa
namespace Go.Proofs.Ytchakmkoimgakaa
open Go.RowKit
attribute [local go_sem ↓] Go.wp_at_zero Go.wp_at_succ

theorem ints_take_len {l : List Int} {k : Nat} (h : k ≤ l.length) : (ints (l.take k)).length = k := by simp [ints]; omega
theorem ints_snoc (l : List Int) (x : Int) : ints (l ++ [x]) = ints l ++ [.int .i64 x] := by simp [ints]

theorem grown_set (W : World) (p : Addr) (z : Value) : W.grownBy (W.setCell p z) (some p.block) := ⟨rfl, rfl, rfl, by simp, fun j _ hne => Below.heap_setCell _ _ _ j (fun e => hne (by rw [e]))⟩
theorem own_set {W : World} {T base n i : Nat} {v z : Value} {xs : List Value} {cs : Array Value} (h : W.ownsRow base 3 1 v n xs) (hb : Blk W T 49 cs) : (W.setCell ⟨T, i, none⟩ z).ownsRow base 3 1 v n xs :=
  h.kept (grown_set W ⟨T, i, none⟩ z) (.inr (own_not_box h hb))
theorem not_row_of {W : World} {B k n : Nat} {e : TypeId} {v : Value} {xs : List Value} (h : W.ownsRow B e 1 v n xs) (hk : k < B) : some k ≠ v.ownBlock := fun e => by
  have := (h.lt k e.symm).1; omega
/-- One list of a view's two grows by a word. -/
theorem tr_step {W w9 w2 : World} {T k m g : Nat} {x : Int} {u v : Value} {xs ys : List Value} {cs : Array Value} (hb : Blk W T 49 cs) (hu : W.ownsRow T 3 1 u k xs) (hv : W.ownsRow T 3 1 v m ys) (hap : ∀ g, u.ownBlock = some g → ¬ v.ownBlock = some g)
    (hB : Below T w2 W) (hgrow : (W.alloc (.cells #[.int .i64 x] 3)).drew.grownBy w9 u.ownBlock) (hat : u.ownBlock = some g ∨ g = W.heap.size + 1) :
    Blk w9 T 49 cs ∧ Below T w2 w9 ∧ w9.ownsRow T 3 1 v m ys ∧ ¬ v.ownBlock = some g := by
  have hT := hb.lt
  refine ⟨((hb.alloc _).drew).kept hgrow (fun e => own_not_box hu hb e.symm), ?_, ?_, ?_⟩
  · have h1 := below_drw (hB.alloc (Nat.le_of_lt hT) (.cells #[.int .i64 x] 3)) 1
    exact h1.grown hgrow (by simp; omega) (fun j e => (hu.lt j e).1)
  · refine ((hv.alloc (.cells #[.int .i64 x] 3)).drew).kept hgrow ?_
    cases e : v.ownBlock with
    | none => exact .inl rfl
    | some j => exact .inr (fun e2 => hap j e2.symm e)
  · intro e
    rcases hat with h | h
    · exact hap g h e
    · have := (hv.lt g e).2; omega

end Go.Proofs.Ytchakmkoimgakaa
namespace Go.Proofs.Ytchakmkoimgakaa
open Go.RowKit Go.Shelf
attribute [local go_sem] Oper.semAt_some

/-- A place, from the first number on. -/
def Dt (st i : List Int) (T p : Int) (k : Nat) : Prop := k ≤ st.length ∧ 0 ≤ p ∧ p + dot (st.drop k) (i.drop k) = T
theorem dot_nn : ∀ {st i : List Int}, (∀ s ∈ st, 0 ≤ s) → (∀ x ∈ i, 0 ≤ x) → 0 ≤ dot st i
  | [], _, _, _ => by simp [dot]
  | _ :: _, [], _, _ => by simp [dot]
  | s :: r, x :: t, hs, hi => by
    have h1 := hs s (List.mem_cons_self ..)
    have h2 := hi x (List.mem_cons_self ..)
    have ih := dot_nn (st := r) (i := t) (fun y hy => hs y (List.mem_cons_of_mem _ hy)) (fun y hy => hi y (List.mem_cons_of_mem _ hy))
    have := Int.mul_nonneg h2 h1
    simp only [dot]
    omega
theorem dt_step {st i : List Int} {T p : Int} {k : Nat} (h : Dt st i T p k) (hl : st.length = i.length) (hs : ∀ s ∈ st, 0 ≤ s) (hi : ∀ x ∈ i, 0 ≤ x) (hk : k < st.length) :
    Dt st i T (p + i.getD k 0 * st.getD k 0) (k + 1) ∧ 0 ≤ i.getD k 0 * st.getD k 0 ∧ i.getD k 0 * st.getD k 0 ≤ T ∧ p + i.getD k 0 * st.getD k 0 ≤ T ∧ 0 ≤ p + i.getD k 0 * st.getD k 0 := by
  obtain ⟨a, b, c⟩ := h
  have h1 := hs _ (getD_mem hk)
  have h2 := hi _ (getD_mem (show k < i.length by omega))
  have h3 := Int.mul_nonneg h2 h1
  have h4 := dot_nn (st := st.drop (k + 1)) (i := i.drop (k + 1)) (fun s hs' => hs s (List.mem_of_mem_drop hs')) (fun x hx => hi x (List.mem_of_mem_drop hx))
  rw [dot_step hl hk] at c
  exact ⟨⟨by omega, by omega, by omega⟩, h3, by omega, by omega, by omega⟩
theorem dt_end {st i : List Int} {T p : Int} (h : Dt st i T p st.length) (hl : st.length = i.length) : p = T := by
  obtain ⟨_, _, c⟩ := h
  rw [List.drop_length, hl, List.drop_length] at c
  simpa [dot] using c
theorem atl_nn {s : List Int} {n : Int} (h : pos s) (h0 : 0 ≤ n) (h1 : n < prod s) : ∀ x ∈ atl s n, 0 ≤ x := by
  intro x hx
  obtain ⟨i, hi, rfl⟩ := List.mem_iff_getElem.1 hx
  have hh := inx_iff.1 (atl_inx s n h h0 h1)
  have := hh.2 i (by rw [hh.1]; exact hi)
  simpa [List.getD, List.getElem?_eq_getElem hi] using this.1

/-- What a round of a loop over places must keep. -/
def KV (S : Nat → Prop) (W W' : World) : Prop := (∀ k, S k → W'.heap[k]? = W.heap[k]?) ∧ ∀ (k : Nat) (cs : Array Value) (t : TypeId) (fz : Nat × Nat), W.heap[k]? = some (Obj.cells cs t fz) → t = 3 ∨ t = 23 ∨ t = 126 → W'.heap[k]? = W.heap[k]?
theorem KV.trans {S : Nat → Prop} {a b c : World} (h : KV S a b) (k : KV S b c) : KV S a c :=
  ⟨fun i hi => (k.1 i hi).trans (h.1 i hi), fun i cs t fz e ht => (k.2 i cs t fz ((h.2 i cs t fz e ht).trans e) ht).trans (h.2 i cs t fz e ht)⟩
/-- The pair that is told. -/
def plc (sh st : List Int) (off : Int) (x : Nat) : Array Value := #[.int .i64 (x : Nat), .int .i64 (off + dot st (atl sh (x : Nat)))]
theorem ld_kept {W W' : World} {row : Option Nat} {v : Value} {ls : List Int} (h : Ld W v ls) (hg : W.grownBy W' row) (hr : ∀ r, row = some r → ∃ o : Obj, W.heap[r]? = some o ∧ o.isCells = false) : Ld W' v ls := by
  obtain ⟨o, c, rfl, hc, hx⟩ := h
  refine ⟨o, c, rfl, hc, fun i hi => ?_⟩
  obtain ⟨b, f, e, hb, hcell⟩ := hx i hi
  exact ⟨b, f, e, Nat.lt_of_lt_of_le hb hg.size, cell_kept hcell hg hr⟩
theorem own_kept {W W' : World} {row : Option Nat} {base n : Nat} {e : TypeId} {v : Value} {xs : List Value} (h : W.ownsRow base e 1 v n xs) (hg : W.grownBy W' row) (hr : ∀ r, row = some r → ∃ o : Obj, W.heap[r]? = some o ∧ o.isCells = false) : W'.ownsRow base e 1 v n xs := by
  refine h.kept hg ?_
  rcases h.2 with ⟨rfl, _⟩ | ⟨g, cap, cur, rfl, _, hh, _⟩
  · exact .inl rfl
  · right
    intro e2
    obtain ⟨o, ho, hc⟩ := hr g e2.symm
    rw [hh] at ho
    cases ho
    cases hc
theorem OwnFrom.mono {β : Type} {B B' : Nat} {I : β → World → Prop} (h : OwnFrom B I) (hb : B ≤ B') : OwnFrom B' I := fun s W W' row hs hg hr => h s W W' row hs hg (fun r e => ⟨Nat.le_trans hb (hr r e).1, (hr r e).2⟩)
/-- What the iterator of places keeps. -/
def Pl (W : World) (bV By : Nat) (l : Nat) (vs vt : Value) (off : Int) (st : List Int) (base B1 B2 : Nat) (N : Int) (o : Option Addr) (c : Nat) (sh : List Int) : Prop := Blk W bV 49 #[vs, vt, .int .i64 off] ∧ Ld W vt st ∧ Boxed W By 126 (.func (.yield l) #[] #[]) ∧ AllBox2 W base B1 B2 N o c sh
theorem pl_own {β : Type} (bV By l : Nat) (vs vt : Value) (off : Int) (st : List Int) (base B1 B2 : Nat) (N : Int) (o : Option Addr) (c : Nat) (sh : List Int) : Own (fun (_ : β) W => Pl W bV By l vs vt off st base B1 B2 N o c sh) := fun s X Y row hs hg hr =>
  ⟨blk_own (β := β) bV _ (fun _ => _) s X Y row hs.1 hg hr, ld_kept hs.2.1 hg hr, boxed_own (β := β) _ _ (fun _ => _) s X Y row hs.2.2.1 hg hr, boxed_own (β := β) _ _ (fun _ => _) s X Y row hs.2.2.2.1 hg hr, boxed_own (β := β) _ _ (fun _ => _) s X Y row hs.2.2.2.2.1 hg hr, own_kept hs.2.2.2.2.2 hg hr⟩
/-- A round keeps it. -/
theorem pl_kv {S : Nat → Prop} {W W' : World} {bV By l : Nat} {vs vt : Value} {off : Int} {st : List Int} {base B1 B2 : Nat} {N : Int} {o : Option Addr} {c : Nat} {sh : List Int} (h : Pl W bV By l vs vt off st base B1 B2 N o c sh) (hk : KV S W W') (hsz : W.heap.size ≤ W'.heap.size) (hV : S bV) (hT : ∀ i, i < st.length → ∃ b f c, vt = .slice (some ⟨b, f, none⟩) st.length c ∧ S b) :
    Pl W' bV By l vs vt off st base B1 B2 N o c sh ∧ Kp3 B1 B2 o W W' := by
  obtain ⟨h1, h2, h3, h4, h5, h6⟩ := h
  have k4 := hk.2 B1 _ _ _ h4 (.inl rfl)
  have k5 := hk.2 B2 _ _ _ h5 (.inr (.inl rfl))
  have k6 : ∀ g, o = some ⟨g, 0, none⟩ → W'.heap[g]? = W.heap[g]? := by
    intro g e
    rcases h6.2 with ⟨e1, _⟩ | ⟨g', cap, cur, e1, _, hh, _⟩
    · simp only [Value.slice.injEq] at e1
      rw [e1.1] at e; cases e
    · simp only [Value.slice.injEq] at e1
      rw [e1.1] at e
      simp only [Option.some.injEq, Addr.mk.injEq, and_true] at e
      subst e
      exact hk.2 _ _ _ _ hh (.inl rfl)
  have kp : Kp3 B1 B2 o W W' := ⟨k4, k5, k6⟩
  refine ⟨⟨(hk.1 bV hV).trans h1, ?_, (hk.2 By _ _ _ h3 (.inr (.inr rfl))).trans h3, k4.trans h4, k5.trans h5, kp.own h6⟩, kp⟩
  obtain ⟨o2, c2, rfl, hc, hx⟩ := h2
  refine ⟨o2, c2, rfl, hc, fun i hi => ?_⟩
  obtain ⟨b, f, e, hb, hcell⟩ := hx i hi
  obtain ⟨b', f', c', e2, hS⟩ := hT i hi
  simp only [Value.slice.injEq] at e2
  rw [e] at e2
  simp only [Option.some.injEq, Addr.mk.injEq, and_true] at e2
  refine ⟨b, f, e, by omega, ?_⟩
  rw [← hcell]
  simp [World.cell?, hk.1 b (by rw [e2.1.1]; exact hS)]

end Go.Proofs.Ytchakmkoimgakaa
namespace Go.Proofs.Ytchakmkoimgakaa
open Go Go.RowKit

/-- No defer statement? -/
def nodf : Op → Bool
  | .defer _ => false
  | _ => true
theorem rows_in {P : Program} {n l : Nat} {row : String} {args : Array Value} {w : World} {R : Value → World → Prop} (h : Rows P row args w R) : RowsIn (Fence.wide.inRound l) n P row args w R := fun c cs _ =>
  let ⟨v, w', r, s⟩ := h c cs
  ⟨v, w', r, stepsIn_wide.2 s⟩
theorem oper_in {P : Program} {n l : Nat} {o : Oper} {a : Act} {w : World} {K : Act → World → Prop} {Q : Exit → Act → World → Prop} (hd : nodf o.op = true) (h : o.wp P a w K Q) : o.wpIn (Fence.wide.inRound l) n P a w K Q := by
  refine ⟨fun _ _ => trivial, ?_⟩
  rw [Oper.semAt_plain _ _ _ (fun c hc => by rw [hc] at hd; cases hd)]
  unfold Oper.wp at h
  generalize (execOp a.eval o).run P w = r at *
  cases r with
  | ok x w' =>
    cases x <;> simp only [Oper.uponIn, Oper.upon] at h ⊢ <;>
      first
        | exact h
        | exact ⟨(fun h0 => by cases h0), callsIn_wide.2 h⟩
        | exact ⟨(fun h0 => by cases h0), rows_in h⟩
  | halt x w' => cases x <;> simp only [Oper.uponIn, Oper.upon] at h ⊢ <;> exact h
theorem any_in {P : Program} {n l : Nat} {md : Region.Mode} {ops : Array Oper} {Q : Exit → Act → World → Prop} (hd : (ops.toList.all fun o => nodf o.op) = true) (hQ : ¬ LetsOut Q) :
    ∀ (fuel : Nat) (listed : Array Bool) (a : Act) (w : World), wpAny P md ops Q fuel listed a w → wpAnyIn (Fence.wide.inRound l) n P md ops Q fuel listed a w
  | 0, _, _, _, h => h
  | fuel + 1, listed, a, w, h => by
    refine ⟨h.1, fun i hi => ?_⟩
    have h1 := h.2 i hi
    unfold wpOp at h1
    unfold wpOpIn
    cases e : ops[i]? with
    | none =>
      simp only [e] at h1 ⊢
      exact any_in hd hQ fuel _ _ _ h1
    | some o =>
      have ho : nodf o.op = true := by
        have := List.all_eq_true.1 hd o (by
          have h2 := Array.getElem?_eq_some_iff.1 e
          rw [← h2.2]; simp)
        simpa using this
      simp only [e] at h1 ⊢
      split
      · rename_i hw
        simp only [hw, if_true] at h1
        rcases h1 with h1 | ⟨_, h1⟩
        · exact Oper.wpIn_mono (fun a' w' h' => any_in hd hQ fuel _ _ _ h') (oper_in ho h1)
        · exact absurd h1 hQ
      · rename_i hw
        simp only [hw] at h1
        exact ⟨fun _ _ => trivial, any_in hd hQ fuel _ _ _ h1⟩
theorem region_in {P : Program} {n l id : Nat} {ops : Array Oper} {R : World → Prop} {S : World → Prop} {a : Act} {W : World} (hd : (ops.toList.all fun o => nodf o.op) = true) (hm : P.follows .mixedOrders = true) (hS : S W.drew)
    (h : S W.drew → wpAnyH P .any ops (fun e _ W2 => e = .normal ∧ R W2) S ops.size (Array.replicate ops.size false) a W.drew) : (Code.region id ops true).wpIn (Fence.wide.inRound l) n P (fun e _ W2 => e = .normal ∧ R W2) a W :=
  wpIn_region_any hm (any_in hd (fun ⟨_, _, h⟩ => by cases h.1) _ _ _ _ (wpAny_of_held _ _ _ _ (h hS)))
/-- A region that draws its order, within a round: what it leaves of the frame, too. -/
theorem region_inA {P : Program} {n l id : Nat} {ops : Array Oper} {R : Act → World → Prop} {S : World → Prop} {a : Act} {W : World} (hd : (ops.toList.all fun o => nodf o.op) = true) (hm : P.follows .mixedOrders = true) (hS : S W.drew)
    (h : S W.drew → wpAnyH P .any ops (fun e a2 W2 => e = .normal ∧ R a2 W2) S ops.size (Array.replicate ops.size false) a W.drew) : (Code.region id ops true).wpIn (Fence.wide.inRound l) n P (fun e a2 W2 => e = .normal ∧ R a2 W2) a W :=
  wpIn_region_any hm (any_in hd (fun ⟨_, _, h⟩ => by cases h.1) _ _ _ _ (wpAny_of_held _ _ _ _ (h hS)))
end Go.Proofs.Ytchakmkoimgakaa
namespace Go.Proofs.Ytchakmkoimgakaa
open Go.RowKit
attribute [local go_sem ↓] Go.wp_at_zero Go.wp_at_succ

/-- A view in new memory. -/
def SomeW (w : World) (sh st : List Int) (off : Int) (e : Ending) (w' : World) : Prop := ∃ os cs ot ct, e = .returned (.agg #[.slice os sh.length cs, .slice ot st.length ct, .int .i64 off]) ∧ Ov w' w.heap.size (.slice os sh.length cs) (.slice ot st.length ct) sh st ∧ Below w.heap.size w w'
theorem someW_end {w W : World} {b : Nat} {os ot : Option Addr} {ns nt cs ct : Nat} {off : Int} {sh st : List Int} {x : Array Value} (hb : w.heap.size ≤ b) (hB : Below w.heap.size w W) (hx : Blk W b 49 x) (e1 : ns = sh.length) (e2 : nt = st.length)
    (ho : Ov W w.heap.size (.slice os ns cs) (.slice ot nt ct) sh st) :
    SomeW w sh st off (.returned (.agg #[.slice os ns cs, .slice ot nt ct, .int .i64 off])) (((W.setCell ⟨b, 0, none⟩ (.slice os ns cs)).setCell ⟨b, 1, none⟩ (.slice ot nt ct)).setCell ⟨b, 2, none⟩ (.int .i64 off)) := by
  obtain ⟨os, cs, ot, ct, e, h1, h2⟩ := someV_end (er := 0) (off := off) hb hB hx e1 e2 ho
  simp only [Ending.returned.injEq, Value.tuple.injEq] at e
  refine ⟨os, cs, ot, ct, ?_, h1, h2⟩
  simp only [Array.mk.injEq, List.cons.injEq, and_true] at e
  rw [e]

set_option maxRecDepth 100000 in
set_option maxHeartbeats 4000000 in
theorem rtranspose_any (vs vt va : Value) (sh st ax : List Int) (off : Int) (w : World) (hs : Ld w vs sh) (ht : Ld w vt st) (ha : Ld w va ax) (hlt0 : st.length = sh.length) (l4 : sh.length ≤ 4) (hax : axs ax sh.length = true) :
    Calls Try.prog 21 #[.agg #[vs, vt, .int .i64 off], va] w (SomeW w (trl sh ax) (trl st ax) off) := by
  obtain ⟨i0, hi0, hz0, hz1, hz2⟩ := info_parts infoI
  obtain ⟨w2, hw2⟩ : ∃ w2, w2 = (w.alloc (.cells #[vs, vt, .int .i64 off] 49)).alloc (.cells #[.slice none 0 0, .slice none 0 0, .int .i64 0] 49) := ⟨_, rfl⟩
  have hsz : w2.heap.size = w.heap.size + 2 := by rw [hw2]; simp
  have B2 : Hid (Below w.heap.size w w2) := by rw [hw2]; exact ((Below.refl _ _).alloc (Nat.le_refl _) _).alloc (by simp) _
  have Y0 : Hid (Blk w2 w.heap.size 49 #[vs, vt, .int .i64 off]) := by rw [hw2]; exact (Blk.new w _ _).alloc _
  have Y1 : Hid (Blk w2 (w.heap.size + 1) 49 #[.slice none 0 0, .slice none 0 0, .int .i64 0]) := by
    rw [hw2]
    have := Blk.new (w.alloc (.cells #[vs, vt, .int .i64 off] 49)) 49 #[.slice none 0 0, .slice none 0 0, .int .i64 0]
    rwa [World.size_alloc] at this
  obtain ⟨os, cs, rfl, _, hxs⟩ := hs
  obtain ⟨ot, ct, rfl, _, hxt⟩ := ht
  obtain ⟨oa, ca, rfl, _, hxa⟩ := ha
  have HS := Lib.hid hxs
  have HT := Lib.hid hxt
  have HA := Lib.hid hxa
  clear hxs hxt hxa
  have lsx := Lib.hid (axs_len hax)
  have HV := Lib.hid (And.intro hlt0 hax)
  have HW := Lib.hid (And.intro hw2 hsz)
  have l5 : ax.length ≤ 4 := by have := lsx.out; omega
  clear hlt0 hax hw2 hsz
  go_enter Try.func21, Try.ntmps21
  go_wp2
  go_loopw [6] (fun s6 wr => ∃ (k : Nat) (us ut : Value), k ≤ ax.length ∧ s6 = .int .i64 k ∧ Blk wr (w.heap.size + 2) 49 #[us, ut, .int .i64 off] ∧ Hid (wr.ownsRow (w.heap.size + 2) 3 1 us k (ints ((trl sh ax).take k)) ∧ wr.ownsRow (w.heap.size + 2) 3 1 ut k (ints ((trl st ax).take k)) ∧ (∀ g, us.ownBlock = some g → ¬ ut.ownBlock = some g)) ∧ Hid (Below (w.heap.size + 2) w2 wr)) (fun s6 _ => ax.length - (intOf s6).toNat)
  case atStart =>
    refine ⟨0, .slice none 0 0, .slice none 0 0, Nat.zero_le _, rfl, ?_, ⟨World.ownsRow_nil _ _ _ _, World.ownsRow_nil _ _ _ _, fun g h => by simp [Value.ownBlock] at h⟩, ?_⟩
    · have := Blk.new ((w.alloc (.cells #[.slice os sh.length cs, .slice ot st.length ct, .int .i64 off] 49)).alloc (.cells #[.slice none 0 0, .slice none 0 0, .int .i64 0] 49)) 49 #[.slice none 0 0, .slice none 0 0, .int .i64 off]
      simpa using this
    · rw [HW.out.1]
      exact (Below.refl _ _).alloc (by simp) _
  case round =>
    obtain ⟨k, us, ut, hk, rfl, hb, HO, HB⟩ := hrel
    by_cases hlt : k < ax.length
    · obtain ⟨a, ea, alt⟩ := axs_at HV.out.2 hlt
      obtain ⟨ba, fa, rfl, na, xa⟩ := HA.out k hlt
      obtain ⟨bs, fs, rfl, ns, xs⟩ := HS.out a alt
      obtain ⟨bt, ft, rfl, nt, xt⟩ := HT.out a (by have := HV.out.1; omega)
      have old2 : ∀ (p : Addr) (v : Value), p.block < w.heap.size → w.cell? p = some v → ∀ W, Below (w.heap.size + 2) w2 W → W.cell? p = some v := fun p v h1 h2 W hW => ((hW.cell (p := p) (by omega)).trans (B2.out.cell (p := p) h1)).trans h2
      have OLD := Lib.hid (fun (W : World) (hW : Below (w.heap.size + 2) w2 W) => And.intro (by have := old2 _ _ na xa W hW; rw [ea] at this; exact this) (And.intro (old2 _ _ ns xs W hW) (And.intro (old2 _ _ nt xt W hW) (blk3 (Y0.out.below hW (by omega))))))
      have EA : Hid ((trl sh ax).take (k + 1) = (trl sh ax).take k ++ [sh.getD a 0] ∧ (trl st ax).take (k + 1) = (trl st ax).take k ++ [st.getD a 0]) := ⟨trl_snoc hlt ea, trl_snoc hlt ea⟩
      have ZB := Lib.hid hb
      obtain ⟨xa', xs', xt', c0, c1, c2, _⟩ := OLD.out wr HB.out
      obtain ⟨t0, t1, t2, g0, g1, g2⟩ := blk3 hb
      have yw := hb.lt
      have AL : Hid (a < sh.length ∧ a < st.length) := ⟨alt, by have := HV.out.1; omega⟩
      have al1 := AL.out.1
      have al2 := AL.out.2
      clear xa xs xt hb ea old2
      generalize sh.getD a 0 = d at *
      generalize st.getD a 0 = s at *
      go_wp2
      go_cut [6] (fun s6 wx => s6 = .int .i64 k ∧ ∃ u1, Blk wx (w.heap.size + 2) 49 #[u1, ut, .int .i64 off] ∧ Hid (wx.ownsRow (w.heap.size + 2) 3 1 u1 (k + 1) (ints ((trl sh ax).take (k + 1))) ∧ wx.ownsRow (w.heap.size + 2) 3 1 ut k (ints ((trl st ax).take k)) ∧ (∀ g, u1.ownBlock = some g → ¬ ut.ownBlock = some g)) ∧ Hid (Below (w.heap.size + 2) w2 wx))
      case first =>
        refine wp_region_held_drew (S := (fun W => W.cell? ⟨w.heap.size, 0, none⟩ = some (.slice (some ⟨bs, fs, none⟩) sh.length cs) ∧ W.cell? ⟨bs, fs + a, none⟩ = some (.int .i64 d) ∧ W.cell? ⟨ba, fa + k, none⟩ = some (.int .i64 a))) (by kernel_rfl) ?_ (fun hHeld => ?_)
        · (try dsimp only)
          first | assumption | go_keep | exact ⟨(e9.out _).2.2.2.1, (e9.out _).2.1, (e9.out _).1⟩
        have hHd := hHeld
        (refine wpAnyH_take (i := 0) (oi := ⟨some 16, _, _, _, _, _⟩) (v := ?v0_16) rfl (by kernel_rfl) (by kernel_rfl) (by kernel_rfl) (fun _ _ _ h => h) (Or.inl ⟨by rfl, ?hy0_16⟩) (by assumption) ?rest0_16; (case hy0_16 => ((intro w hSw); (try dsimp only at hSw); go_simp; first | done | (with_reducible rfl))))
        (try simp only [Act.put, List.setIfInBounds_toArray, List.set_cons_zero, List.set_cons_succ])
        (refine wpAnyH_take (i := 2) (oi := ⟨some 18, _, _, _, _, _⟩) (v := ?v2_16) rfl (by kernel_rfl) (by kernel_rfl) (by kernel_rfl) (fun _ _ _ h => h) (Or.inl ⟨by rfl, ?hy2_16⟩) (by assumption) ?rest2_16; (case hy2_16 => ((intro w hSw); (try dsimp only at hSw); go_simp; first | done | (with_reducible rfl))))
        (try simp only [Act.put, List.setIfInBounds_toArray, List.set_cons_zero, List.set_cons_succ])
        (refine wpAnyH_take (i := 3) (oi := ⟨some 19, _, _, _, _, _⟩) (v := ?v3_16) rfl (by kernel_rfl) (by kernel_rfl) (by kernel_rfl) (fun _ _ _ h => h) (Or.inl ⟨by rfl, ?hy3_16⟩) (by assumption) ?rest3_16; (case hy3_16 => ((intro w hSw); (try dsimp only at hSw); go_simp; first | done | (with_reducible rfl))))
        (try simp only [Act.put, List.setIfInBounds_toArray, List.set_cons_zero, List.set_cons_succ])
        (refine wpAnyH_take (i := 4) (oi := ⟨some 20, _, _, _, _, _⟩) (v := ?v4_16) rfl (by kernel_rfl) (by kernel_rfl) (by kernel_rfl) (fun _ _ _ h => h) (Or.inl ⟨by rfl, ?hy4_16⟩) (by assumption) ?rest4_16; (case hy4_16 => ((intro w hSw); (try dsimp only at hSw); go_simp; first | done | (with_reducible rfl))))
        (try simp only [Act.put, List.setIfInBounds_toArray, List.set_cons_zero, List.set_cons_succ])
        (refine wpAnyH_take (i := 5) (oi := ⟨some 21, _, _, _, _, _⟩) (v := ?v5_16) rfl (by kernel_rfl) (by kernel_rfl) (by kernel_rfl) (fun _ _ _ h => h) (Or.inl ⟨by rfl, ?hy5_16⟩) (by assumption) ?rest5_16; (case hy5_16 => ((intro w hSw); (try dsimp only at hSw); go_simp; first | done | (with_reducible rfl))))
        (try simp only [Act.put, List.setIfInBounds_toArray, List.set_cons_zero, List.set_cons_succ])
        (refine wpAnyH_take (i := 6) (oi := ⟨some 22, _, _, _, _, _⟩) (v := ?v6_16) rfl (by kernel_rfl) (by kernel_rfl) (by kernel_rfl) (fun _ _ _ h => h) (Or.inl ⟨by rfl, ?hy6_16⟩) (by assumption) ?rest6_16; (case hy6_16 => ((intro w hSw); (try dsimp only at hSw); go_simp; first | done | (with_reducible rfl))))
        (try simp only [Act.put, List.setIfInBounds_toArray, List.set_cons_zero, List.set_cons_succ])
        (refine wpAnyH_take (i := 7) (oi := ⟨some 23, _, _, _, _, _⟩) (v := ?v7_16) rfl (by kernel_rfl) (by kernel_rfl) (by kernel_rfl) (fun _ _ _ h => h) (Or.inl ⟨by rfl, ?hy7_16⟩) (by assumption) ?rest7_16; (case hy7_16 => ((intro w hSw); (try dsimp only at hSw); go_simp; first | done | (with_reducible rfl))))
        (try simp only [Act.put, List.setIfInBounds_toArray, List.set_cons_zero, List.set_cons_succ])
        (refine wpAnyH_take (i := 8) (oi := ⟨some 24, _, _, _, _, _⟩) (v := ?v8_16) rfl (by kernel_rfl) (by kernel_rfl) (by kernel_rfl) (fun _ _ _ h => h) (Or.inl ⟨by rfl, ?hy8_16⟩) (by assumption) ?rest8_16; (case hy8_16 => ((intro w hSw); (try dsimp only at hSw); go_simp; first | done | (with_reducible rfl))))
        (try simp only [Act.put, List.setIfInBounds_toArray, List.set_cons_zero, List.set_cons_succ])
        (refine wpAnyH_take (i := 9) (oi := ⟨some 25, _, _, _, _, _⟩) (v := ?v9_16) rfl (by kernel_rfl) (by kernel_rfl) (by kernel_rfl) (fun _ _ _ h => h) (Or.inl ⟨by rfl, ?hy9_16⟩) (by assumption) ?rest9_16; (case hy9_16 => ((intro w hSw); (try dsimp only at hSw); go_simp; first | done | (with_reducible rfl))))
        (try simp only [Act.put, List.setIfInBounds_toArray, List.set_cons_zero, List.set_cons_succ])
        refine wpAnyH_ready (rs := [1, 10]) (by kernel_rfl) (by simp) ?_
        refine AllReadyH.cons (o := ⟨some 17, _, _, _, _, _⟩) rfl (fun K hK => ?_) (AllReadyH.cons (o := ⟨some 26, _, _, _, _, _⟩) rfl (fun K hK => ?_) AllReadyH.nil)
        · go_simp
          refine hK.out _ _ ?_ (fun hHeld => ?_)
          · (try dsimp only)
            first | assumption | go_keep | exact ⟨(e9.out _).2.2.2.1, (e9.out _).2.1, (e9.out _).1⟩
          clear hK K
          (try simp only [Act.put, List.setIfInBounds_toArray, List.set_cons_zero, List.set_cons_succ])
          refine wpAnyH_ready (rs := [10]) (by kernel_rfl) (by simp) ?_
          refine AllReadyH.cons (o := ⟨some 26, _, _, _, _, _⟩) rfl (fun K hK => ?_) AllReadyH.nil
          go_simp
          refine hK.out _ _ ?_ (fun hHeld => ?_)
          · (try dsimp only)
            first | assumption | go_keep | exact ⟨(e9.out _).2.2.2.1, (e9.out _).2.1, (e9.out _).1⟩
          clear hK K
          (try simp only [Act.put, List.setIfInBounds_toArray, List.set_cons_zero, List.set_cons_succ])
          refine wpAnyH_ready (rs := [11]) (by kernel_rfl) (by simp) ?_
          refine AllReadyH.cons (o := ⟨some 27, _, _, _, _, _⟩) rfl (fun K hK => ?_) AllReadyH.nil
          refine step_append_lies _ (by rfl) (.tmp 17) (.tmp 26) 23 (by rfl) (w.heap.size + 2) 3 i0 (.int .i64 0) 1 8 Try.underlying23 hi0 hz0 hz1 hz2 rfl (by decide) us k (ints ((trl sh ax).take k)) (by rfl) (HO.out.1.alloc _) ⟨wr.heap.size, 0, none⟩ 1 1 [.int .i64 d] (by rfl) rfl (cell_one_new _ _ _) (by simp [Value.oneCell']) (by decide) (by unfold maxLen; omega) (by omega) (by simp; omega) (wr.heap.size + 1) (by simp) ?_
          intro g9 cp9 w9 hown hgrow hat _
          have Q9 := Lib.hid (And.intro hown (tr_step ZB.out HO.out.1 HO.out.2.1 HO.out.2.2 HB.out hgrow hat))
          obtain ⟨p0, _, _, h0, _⟩ := blk3 Q9.out.2.1
          obtain ⟨q2, q1, _, q0, _⟩ := OLD.out w9 Q9.out.2.2.1
          have e9 := Lib.hid (fun (z : Value) => OLD.out _ (Q9.out.2.2.1.setCell (p := ⟨(w.heap.size + 2), 0, none⟩) (Nat.le_refl _) z))
          clear hown hgrow hat
          refine hK.out _ _ ?_ (fun hHeld => ?_)
          · (try dsimp only)
            first | assumption | go_keep | exact ⟨(e9.out _).2.2.2.1, (e9.out _).2.1, (e9.out _).1⟩
          clear hK K
          (try simp only [Act.put, List.setIfInBounds_toArray, List.set_cons_zero, List.set_cons_succ])
          refine wpAnyH_ready (rs := [12]) (by kernel_rfl) (by simp) ?_
          refine AllReadyH.cons (o := ⟨some 28, _, _, _, _, _⟩) rfl (fun K hK => ?_) AllReadyH.nil
          go_simp
          refine hK.out _ _ ?_ (fun hHeld => ?_)
          · (try dsimp only)
            first | assumption | go_keep | exact ⟨(e9.out _).2.2.2.1, (e9.out _).2.1, (e9.out _).1⟩
          clear hK K
          (try simp only [Act.put, List.setIfInBounds_toArray, List.set_cons_zero, List.set_cons_succ])
          refine wpAnyH_ready (rs := [13]) (by kernel_rfl) (by simp) ?_
          refine AllReadyH.cons (o := ⟨none, _, _, _, _, _⟩) rfl (fun K hK => ?_) AllReadyH.nil
          go_simp
          refine hK.out _ _ ?_ (fun hHeld => ?_)
          · (try dsimp only)
            first | assumption | go_keep | exact ⟨(e9.out _).2.2.2.1, (e9.out _).2.1, (e9.out _).1⟩
          clear hK K
          (try simp only [Act.put, List.setIfInBounds_toArray, List.set_cons_zero, List.set_cons_succ])
          refine wpAnyH_done (by kernel_rfl) ?_ _
          go_wp2
          go_meet
          refine ⟨rfl, .slice (some ⟨g9, 0, none⟩) (k + 1) cp9, Q9.out.2.1.set_ 0 _, ⟨?_, own_set Q9.out.2.2.2.1 Q9.out.2.1, ?_⟩, Q9.out.2.2.1.setCell (Nat.le_refl _) _⟩
          · rw [EA.out.1, ints_snoc]; exact own_set Q9.out.1 Q9.out.2.1
          · intro g e; cases e; exact Q9.out.2.2.2.2
        · go_simp
          refine hK.out _ _ ?_ (fun hHeld => ?_)
          · (try dsimp only)
            first | assumption | go_keep | exact ⟨(e9.out _).2.2.2.1, (e9.out _).2.1, (e9.out _).1⟩
          clear hK K
          (try simp only [Act.put, List.setIfInBounds_toArray, List.set_cons_zero, List.set_cons_succ])
          refine wpAnyH_ready (rs := [1]) (by kernel_rfl) (by simp) ?_
          refine AllReadyH.cons (o := ⟨some 17, _, _, _, _, _⟩) rfl (fun K hK => ?_) AllReadyH.nil
          go_simp
          refine hK.out _ _ ?_ (fun hHeld => ?_)
          · (try dsimp only)
            first | assumption | go_keep | exact ⟨(e9.out _).2.2.2.1, (e9.out _).2.1, (e9.out _).1⟩
          clear hK K
          (try simp only [Act.put, List.setIfInBounds_toArray, List.set_cons_zero, List.set_cons_succ])
          refine wpAnyH_ready (rs := [11]) (by kernel_rfl) (by simp) ?_
          refine AllReadyH.cons (o := ⟨some 27, _, _, _, _, _⟩) rfl (fun K hK => ?_) AllReadyH.nil
          refine step_append_lies _ (by rfl) (.tmp 17) (.tmp 26) 23 (by rfl) (w.heap.size + 2) 3 i0 (.int .i64 0) 1 8 Try.underlying23 hi0 hz0 hz1 hz2 rfl (by decide) us k (ints ((trl sh ax).take k)) (by rfl) (HO.out.1.alloc _) ⟨wr.heap.size, 0, none⟩ 1 1 [.int .i64 d] (by rfl) rfl (cell_one_new _ _ _) (by simp [Value.oneCell']) (by decide) (by unfold maxLen; omega) (by omega) (by simp; omega) (wr.heap.size + 1) (by simp) ?_
          intro g9 cp9 w9 hown hgrow hat _
          have Q9 := Lib.hid (And.intro hown (tr_step ZB.out HO.out.1 HO.out.2.1 HO.out.2.2 HB.out hgrow hat))
          obtain ⟨p0, _, _, h0, _⟩ := blk3 Q9.out.2.1
          obtain ⟨q2, q1, _, q0, _⟩ := OLD.out w9 Q9.out.2.2.1
          have e9 := Lib.hid (fun (z : Value) => OLD.out _ (Q9.out.2.2.1.setCell (p := ⟨(w.heap.size + 2), 0, none⟩) (Nat.le_refl _) z))
          clear hown hgrow hat
          refine hK.out _ _ ?_ (fun hHeld => ?_)
          · (try dsimp only)
            first | assumption | go_keep | exact ⟨(e9.out _).2.2.2.1, (e9.out _).2.1, (e9.out _).1⟩
          clear hK K
          (try simp only [Act.put, List.setIfInBounds_toArray, List.set_cons_zero, List.set_cons_succ])
          refine wpAnyH_ready (rs := [12]) (by kernel_rfl) (by simp) ?_
          refine AllReadyH.cons (o := ⟨some 28, _, _, _, _, _⟩) rfl (fun K hK => ?_) AllReadyH.nil
          go_simp
          refine hK.out _ _ ?_ (fun hHeld => ?_)
          · (try dsimp only)
            first | assumption | go_keep | exact ⟨(e9.out _).2.2.2.1, (e9.out _).2.1, (e9.out _).1⟩
          clear hK K
          (try simp only [Act.put, List.setIfInBounds_toArray, List.set_cons_zero, List.set_cons_succ])
          refine wpAnyH_ready (rs := [13]) (by kernel_rfl) (by simp) ?_
          refine AllReadyH.cons (o := ⟨none, _, _, _, _, _⟩) rfl (fun K hK => ?_) AllReadyH.nil
          go_simp
          refine hK.out _ _ ?_ (fun hHeld => ?_)
          · (try dsimp only)
            first | assumption | go_keep | exact ⟨(e9.out _).2.2.2.1, (e9.out _).2.1, (e9.out _).1⟩
          clear hK K
          (try simp only [Act.put, List.setIfInBounds_toArray, List.set_cons_zero, List.set_cons_succ])
          refine wpAnyH_done (by kernel_rfl) ?_ _
          go_wp2
          go_meet
          refine ⟨rfl, .slice (some ⟨g9, 0, none⟩) (k + 1) cp9, Q9.out.2.1.set_ 0 _, ⟨?_, own_set Q9.out.2.2.2.1 Q9.out.2.1, ?_⟩, Q9.out.2.2.1.setCell (Nat.le_refl _) _⟩
          · rw [EA.out.1, ints_snoc]; exact own_set Q9.out.1 Q9.out.2.1
          · intro g e; cases e; exact Q9.out.2.2.2.2
      case rest =>
        obtain ⟨rfl, u1, hb, HO1, HB1⟩ := hcut
        have ZB1 := Lib.hid hb
        obtain ⟨t0, t1, t2, g0, g1, g2⟩ := blk3 hb
        have yw1 := hb.lt
        obtain ⟨xa', xs', xt', c0, c1, c2, _⟩ := OLD.out wc HB1.out
        clear hb
        go_wp2
        refine wp_region_held_drew (S := (fun W => W.cell? ⟨w.heap.size, 1, none⟩ = some (.slice (some ⟨bt, ft, none⟩) st.length ct) ∧ W.cell? ⟨bt, ft + a, none⟩ = some (.int .i64 s) ∧ W.cell? ⟨ba, fa + k, none⟩ = some (.int .i64 a))) (by kernel_rfl) ?_ (fun hHeld => ?_)
        · (try dsimp only)
          first | assumption | go_keep | exact ⟨(e9.out _).2.2.2.2.1, (e9.out _).2.2.1, (e9.out _).1⟩
        have hHd := hHeld
        (refine wpAnyH_take (i := 0) (oi := ⟨some 29, _, _, _, _, _⟩) (v := ?v0_29) rfl (by kernel_rfl) (by kernel_rfl) (by kernel_rfl) (fun _ _ _ h => h) (Or.inl ⟨by rfl, ?hy0_29⟩) (by assumption) ?rest0_29; (case hy0_29 => ((intro w hSw); (try dsimp only at hSw); go_simp; first | done | (with_reducible rfl))))
        (try simp only [Act.put, List.setIfInBounds_toArray, List.set_cons_zero, List.set_cons_succ])
        (refine wpAnyH_take (i := 2) (oi := ⟨some 31, _, _, _, _, _⟩) (v := ?v2_29) rfl (by kernel_rfl) (by kernel_rfl) (by kernel_rfl) (fun _ _ _ h => h) (Or.inl ⟨by rfl, ?hy2_29⟩) (by assumption) ?rest2_29; (case hy2_29 => ((intro w hSw); (try dsimp only at hSw); go_simp; first | done | (with_reducible rfl))))
        (try simp only [Act.put, List.setIfInBounds_toArray, List.set_cons_zero, List.set_cons_succ])
        (refine wpAnyH_take (i := 3) (oi := ⟨some 32, _, _, _, _, _⟩) (v := ?v3_29) rfl (by kernel_rfl) (by kernel_rfl) (by kernel_rfl) (fun _ _ _ h => h) (Or.inl ⟨by rfl, ?hy3_29⟩) (by assumption) ?rest3_29; (case hy3_29 => ((intro w hSw); (try dsimp only at hSw); go_simp; first | done | (with_reducible rfl))))
        (try simp only [Act.put, List.setIfInBounds_toArray, List.set_cons_zero, List.set_cons_succ])
        (refine wpAnyH_take (i := 4) (oi := ⟨some 33, _, _, _, _, _⟩) (v := ?v4_29) rfl (by kernel_rfl) (by kernel_rfl) (by kernel_rfl) (fun _ _ _ h => h) (Or.inl ⟨by rfl, ?hy4_29⟩) (by assumption) ?rest4_29; (case hy4_29 => ((intro w hSw); (try dsimp only at hSw); go_simp; first | done | (with_reducible rfl))))
        (try simp only [Act.put, List.setIfInBounds_toArray, List.set_cons_zero, List.set_cons_succ])
        (refine wpAnyH_take (i := 5) (oi := ⟨some 34, _, _, _, _, _⟩) (v := ?v5_29) rfl (by kernel_rfl) (by kernel_rfl) (by kernel_rfl) (fun _ _ _ h => h) (Or.inl ⟨by rfl, ?hy5_29⟩) (by assumption) ?rest5_29; (case hy5_29 => ((intro w hSw); (try dsimp only at hSw); go_simp; first | done | (with_reducible rfl))))
        (try simp only [Act.put, List.setIfInBounds_toArray, List.set_cons_zero, List.set_cons_succ])
        (refine wpAnyH_take (i := 6) (oi := ⟨some 35, _, _, _, _, _⟩) (v := ?v6_29) rfl (by kernel_rfl) (by kernel_rfl) (by kernel_rfl) (fun _ _ _ h => h) (Or.inl ⟨by rfl, ?hy6_29⟩) (by assumption) ?rest6_29; (case hy6_29 => ((intro w hSw); (try dsimp only at hSw); go_simp; first | done | (with_reducible rfl))))
        (try simp only [Act.put, List.setIfInBounds_toArray, List.set_cons_zero, List.set_cons_succ])
        (refine wpAnyH_take (i := 7) (oi := ⟨some 36, _, _, _, _, _⟩) (v := ?v7_29) rfl (by kernel_rfl) (by kernel_rfl) (by kernel_rfl) (fun _ _ _ h => h) (Or.inl ⟨by rfl, ?hy7_29⟩) (by assumption) ?rest7_29; (case hy7_29 => ((intro w hSw); (try dsimp only at hSw); go_simp; first | done | (with_reducible rfl))))
        (try simp only [Act.put, List.setIfInBounds_toArray, List.set_cons_zero, List.set_cons_succ])
        (refine wpAnyH_take (i := 8) (oi := ⟨some 37, _, _, _, _, _⟩) (v := ?v8_29) rfl (by kernel_rfl) (by kernel_rfl) (by kernel_rfl) (fun _ _ _ h => h) (Or.inl ⟨by rfl, ?hy8_29⟩) (by assumption) ?rest8_29; (case hy8_29 => ((intro w hSw); (try dsimp only at hSw); go_simp; first | done | (with_reducible rfl))))
        (try simp only [Act.put, List.setIfInBounds_toArray, List.set_cons_zero, List.set_cons_succ])
        (refine wpAnyH_take (i := 9) (oi := ⟨some 38, _, _, _, _, _⟩) (v := ?v9_29) rfl (by kernel_rfl) (by kernel_rfl) (by kernel_rfl) (fun _ _ _ h => h) (Or.inl ⟨by rfl, ?hy9_29⟩) (by assumption) ?rest9_29; (case hy9_29 => ((intro w hSw); (try dsimp only at hSw); go_simp; first | done | (with_reducible rfl))))
        (try simp only [Act.put, List.setIfInBounds_toArray, List.set_cons_zero, List.set_cons_succ])
        refine wpAnyH_ready (rs := [1, 10]) (by kernel_rfl) (by simp) ?_
        refine AllReadyH.cons (o := ⟨some 30, _, _, _, _, _⟩) rfl (fun K hK => ?_) (AllReadyH.cons (o := ⟨some 39, _, _, _, _, _⟩) rfl (fun K hK => ?_) AllReadyH.nil)
        · go_simp
          refine hK.out _ _ ?_ (fun hHeld => ?_)
          · (try dsimp only)
            first | assumption | go_keep | exact ⟨(e9.out _).2.2.2.2.1, (e9.out _).2.2.1, (e9.out _).1⟩
          clear hK K
          (try simp only [Act.put, List.setIfInBounds_toArray, List.set_cons_zero, List.set_cons_succ])
          refine wpAnyH_ready (rs := [10]) (by kernel_rfl) (by simp) ?_
          refine AllReadyH.cons (o := ⟨some 39, _, _, _, _, _⟩) rfl (fun K hK => ?_) AllReadyH.nil
          go_simp
          refine hK.out _ _ ?_ (fun hHeld => ?_)
          · (try dsimp only)
            first | assumption | go_keep | exact ⟨(e9.out _).2.2.2.2.1, (e9.out _).2.2.1, (e9.out _).1⟩
          clear hK K
          (try simp only [Act.put, List.setIfInBounds_toArray, List.set_cons_zero, List.set_cons_succ])
          refine wpAnyH_ready (rs := [11]) (by kernel_rfl) (by simp) ?_
          refine AllReadyH.cons (o := ⟨some 40, _, _, _, _, _⟩) rfl (fun K hK => ?_) AllReadyH.nil
          refine step_append_lies _ (by rfl) (.tmp 30) (.tmp 39) 23 (by rfl) (w.heap.size + 2) 3 i0 (.int .i64 0) 1 8 Try.underlying23 hi0 hz0 hz1 hz2 rfl (by decide) ut k (ints ((trl st ax).take k)) (by rfl) (HO1.out.2.1.alloc _) ⟨wc.heap.size, 0, none⟩ 1 1 [.int .i64 s] (by rfl) rfl (cell_one_new _ _ _) (by simp [Value.oneCell']) (by decide) (by unfold maxLen; omega) (by omega) (by simp; omega) (wc.heap.size + 1) (by simp) ?_
          intro g9 cp9 w9 hown hgrow hat _
          have Q9 := Lib.hid (And.intro hown (tr_step ZB1.out HO1.out.2.1 HO1.out.1 (fun g a b => HO1.out.2.2 g b a) HB1.out hgrow hat))
          obtain ⟨_, p0, _, _, h0, _⟩ := blk3 Q9.out.2.1
          obtain ⟨q2, _, q1, _, q0, _⟩ := OLD.out w9 Q9.out.2.2.1
          have e9 := Lib.hid (fun (z : Value) => OLD.out _ (Q9.out.2.2.1.setCell (p := ⟨(w.heap.size + 2), 1, none⟩) (Nat.le_refl _) z))
          clear hown hgrow hat
          refine hK.out _ _ ?_ (fun hHeld => ?_)
          · (try dsimp only)
            first | assumption | go_keep | exact ⟨(e9.out _).2.2.2.2.1, (e9.out _).2.2.1, (e9.out _).1⟩
          clear hK K
          (try simp only [Act.put, List.setIfInBounds_toArray, List.set_cons_zero, List.set_cons_succ])
          refine wpAnyH_ready (rs := [12]) (by kernel_rfl) (by simp) ?_
          refine AllReadyH.cons (o := ⟨some 41, _, _, _, _, _⟩) rfl (fun K hK => ?_) AllReadyH.nil
          go_simp
          refine hK.out _ _ ?_ (fun hHeld => ?_)
          · (try dsimp only)
            first | assumption | go_keep | exact ⟨(e9.out _).2.2.2.2.1, (e9.out _).2.2.1, (e9.out _).1⟩
          clear hK K
          (try simp only [Act.put, List.setIfInBounds_toArray, List.set_cons_zero, List.set_cons_succ])
          refine wpAnyH_ready (rs := [13]) (by kernel_rfl) (by simp) ?_
          refine AllReadyH.cons (o := ⟨none, _, _, _, _, _⟩) rfl (fun K hK => ?_) AllReadyH.nil
          go_simp
          refine hK.out _ _ ?_ (fun hHeld => ?_)
          · (try dsimp only)
            first | assumption | go_keep | exact ⟨(e9.out _).2.2.2.2.1, (e9.out _).2.2.1, (e9.out _).1⟩
          clear hK K
          (try simp only [Act.put, List.setIfInBounds_toArray, List.set_cons_zero, List.set_cons_succ])
          refine wpAnyH_done (by kernel_rfl) ?_ _
          go_wp2
          refine ⟨⟨k + 1, u1, .slice (some ⟨g9, 0, none⟩) (k + 1) cp9, by omega, by go_num, Q9.out.2.1.set_ 1 _, ⟨own_set Q9.out.2.2.2.1 Q9.out.2.1, ?_, ?_⟩, Q9.out.2.2.1.setCell (Nat.le_refl _) _⟩, by simp [intOf]; omega⟩
          · rw [EA.out.2, ints_snoc]; exact own_set Q9.out.1 Q9.out.2.1
          · intro g e e2; cases e2; exact Q9.out.2.2.2.2 e
        · go_simp
          refine hK.out _ _ ?_ (fun hHeld => ?_)
          · (try dsimp only)
            first | assumption | go_keep | exact ⟨(e9.out _).2.2.2.2.1, (e9.out _).2.2.1, (e9.out _).1⟩
          clear hK K
          (try simp only [Act.put, List.setIfInBounds_toArray, List.set_cons_zero, List.set_cons_succ])
          refine wpAnyH_ready (rs := [1]) (by kernel_rfl) (by simp) ?_
          refine AllReadyH.cons (o := ⟨some 30, _, _, _, _, _⟩) rfl (fun K hK => ?_) AllReadyH.nil
          go_simp
          refine hK.out _ _ ?_ (fun hHeld => ?_)
          · (try dsimp only)
            first | assumption | go_keep | exact ⟨(e9.out _).2.2.2.2.1, (e9.out _).2.2.1, (e9.out _).1⟩
          clear hK K
          (try simp only [Act.put, List.setIfInBounds_toArray, List.set_cons_zero, List.set_cons_succ])
          refine wpAnyH_ready (rs := [11]) (by kernel_rfl) (by simp) ?_
          refine AllReadyH.cons (o := ⟨some 40, _, _, _, _, _⟩) rfl (fun K hK => ?_) AllReadyH.nil
          refine step_append_lies _ (by rfl) (.tmp 30) (.tmp 39) 23 (by rfl) (w.heap.size + 2) 3 i0 (.int .i64 0) 1 8 Try.underlying23 hi0 hz0 hz1 hz2 rfl (by decide) ut k (ints ((trl st ax).take k)) (by rfl) (HO1.out.2.1.alloc _) ⟨wc.heap.size, 0, none⟩ 1 1 [.int .i64 s] (by rfl) rfl (cell_one_new _ _ _) (by simp [Value.oneCell']) (by decide) (by unfold maxLen; omega) (by omega) (by simp; omega) (wc.heap.size + 1) (by simp) ?_
          intro g9 cp9 w9 hown hgrow hat _
          have Q9 := Lib.hid (And.intro hown (tr_step ZB1.out HO1.out.2.1 HO1.out.1 (fun g a b => HO1.out.2.2 g b a) HB1.out hgrow hat))
          obtain ⟨_, p0, _, _, h0, _⟩ := blk3 Q9.out.2.1
          obtain ⟨q2, _, q1, _, q0, _⟩ := OLD.out w9 Q9.out.2.2.1
          have e9 := Lib.hid (fun (z : Value) => OLD.out _ (Q9.out.2.2.1.setCell (p := ⟨(w.heap.size + 2), 1, none⟩) (Nat.le_refl _) z))
          clear hown hgrow hat
          refine hK.out _ _ ?_ (fun hHeld => ?_)
          · (try dsimp only)
            first | assumption | go_keep | exact ⟨(e9.out _).2.2.2.2.1, (e9.out _).2.2.1, (e9.out _).1⟩
          clear hK K
          (try simp only [Act.put, List.setIfInBounds_toArray, List.set_cons_zero, List.set_cons_succ])
          refine wpAnyH_ready (rs := [12]) (by kernel_rfl) (by simp) ?_
          refine AllReadyH.cons (o := ⟨some 41, _, _, _, _, _⟩) rfl (fun K hK => ?_) AllReadyH.nil
          go_simp
          refine hK.out _ _ ?_ (fun hHeld => ?_)
          · (try dsimp only)
            first | assumption | go_keep | exact ⟨(e9.out _).2.2.2.2.1, (e9.out _).2.2.1, (e9.out _).1⟩
          clear hK K
          (try simp only [Act.put, List.setIfInBounds_toArray, List.set_cons_zero, List.set_cons_succ])
          refine wpAnyH_ready (rs := [13]) (by kernel_rfl) (by simp) ?_
          refine AllReadyH.cons (o := ⟨none, _, _, _, _, _⟩) rfl (fun K hK => ?_) AllReadyH.nil
          go_simp
          refine hK.out _ _ ?_ (fun hHeld => ?_)
          · (try dsimp only)
            first | assumption | go_keep | exact ⟨(e9.out _).2.2.2.2.1, (e9.out _).2.2.1, (e9.out _).1⟩
          clear hK K
          (try simp only [Act.put, List.setIfInBounds_toArray, List.set_cons_zero, List.set_cons_succ])
          refine wpAnyH_done (by kernel_rfl) ?_ _
          go_wp2
          refine ⟨⟨k + 1, u1, .slice (some ⟨g9, 0, none⟩) (k + 1) cp9, by omega, by go_num, Q9.out.2.1.set_ 1 _, ⟨own_set Q9.out.2.2.2.1 Q9.out.2.1, ?_, ?_⟩, Q9.out.2.2.1.setCell (Nat.le_refl _) _⟩, by simp [intOf]; omega⟩
          · rw [EA.out.2, ints_snoc]; exact own_set Q9.out.1 Q9.out.2.1
          · intro g e e2; cases e2; exact Q9.out.2.2.2.2 e
    · obtain rfl : k = ax.length := by omega
      have h1 := HO.out.1
      have h2 := HO.out.2.1
      rw [List.take_of_length_le (by rw [trl_len]; exact Nat.le_refl _)] at h1 h2
      have hn1 := trl_len sh ax
      have hn2 := trl_len st ax
      rw [← hn1] at h1
      obtain ⟨o1, c1', e1, _⟩ := Ld.of_owns h1
      rw [← hn2] at h2
      obtain ⟨o2, c2', e2, _⟩ := Ld.of_owns h2
      subst e1 e2
      have HN := Lib.hid (And.intro hn1 hn2)
      have HF := Lib.hid (And.intro h1 h2)
      have ap := Lib.hid HO.out.2.2
      have ZF := Lib.hid (Y1.out.below HB.out (by omega))
      obtain ⟨d0, d1, d2, f0, f1, f2⟩ := blk3 ZF.out
      obtain ⟨t0, t1, t2, _⟩ := blk3 hb
      clear hn1 hn2 h1 h2 HO
      go_wp2
      refine bodyPost_ret (v := .agg #[.slice o1 (trl sh ax).length c1', .slice o2 (trl st ax).length c2', .int .i64 off]) (by simp [results, Try.results21, go_sem, d0, d1, d2]) rfl ?_
      have sz := HW.out.2
      exact someW_end (Nat.le_succ _) (B2.out.trans (HB.out.mono (by omega))) ZF.out rfl rfl (Ov.base ⟨HF.out.1, HF.out.2, ap.out⟩ (by omega))
end Go.Proofs.Ytchakmkoimgakaa
namespace Go.Proofs.Ytchakmkoimgakaa
open Go.RowKit
attribute [local go_sem ↓] Go.wp_at_zero Go.wp_at_succ

theorem below_drew1 {B : Nat} {w W : World} (h : Below B w W) : Below B w W.drew := below_drw h 1
theorem slb_at {sh : List Int} {x y z : Int} (h : slb sh x y z = true) : ∃ a : Nat, x = (a : Int) ∧ a < sh.length ∧ 0 ≤ y ∧ y < z ∧ z ≤ sh.getD a 0 := by
  unfold slb at h
  simp only [Bool.and_eq_true, decide_eq_true_eq] at h
  obtain ⟨⟨⟨⟨a, b⟩, c⟩, d⟩, e⟩ := h
  exact ⟨x.toNat, by omega, by omega, c, d, e⟩
theorem slb_no {sh : List Int} {x y z : Int} (h : ¬ (0 ≤ x ∧ x < sh.length ∧ 0 ≤ y ∧ y < z ∧ z ≤ sh.getD x.toNat 0)) : slb sh x y z = false := by
  cases e : slb sh x y z with
  | false => rfl
  | true =>
    unfold slb at e
    simp only [Bool.and_eq_true, decide_eq_true_eq] at e
    obtain ⟨⟨⟨⟨a, b⟩, c⟩, d⟩, f⟩ := e
    exact absurd ⟨a, b, c, d, f⟩ h
theorem own_some {w : World} {base n c : Nat} {e : TypeId} {o : Option Addr} {xs : List Value} (h : w.ownsRow base e 1 (.slice o n c) n xs) (h0 : 0 < n) : ∃ g, o = some ⟨g, 0, none⟩ := by
  rcases h.2 with ⟨_, h1⟩ | ⟨g, cap, cur, hv, _⟩
  · omega
  · simp only [Value.slice.injEq, true_and] at hv; exact ⟨g, hv.1⟩
theorem own_cell {w : World} {base g c i : Nat} {ls : List Int} {e : TypeId} (h : w.ownsRow base e 1 (.slice (some ⟨g, 0, none⟩) ls.length c) ls.length (ints ls)) (hi : i < ls.length) : w.cell? ⟨g, i, none⟩ = some (.int .i64 (ls.getD i 0)) := by
  rw [h.cellAt i (by omega)]; simpa using ints_at hi
theorem own_frozen {w : World} {base g n c : Nat} {xs : List Value} {e : TypeId} (h : w.ownsRow base e 1 (.slice (some ⟨g, 0, none⟩) n c) n xs) (i : Nat) : w.frozen? ⟨g, i, none⟩ = false := h.frozenAt i
theorem own_put {w : World} {base g c i : Nat} {ls : List Int} {e : TypeId} (h : w.ownsRow base e 1 (.slice (some ⟨g, 0, none⟩) ls.length c) ls.length (ints ls)) (_hi : i < ls.length) (v : Int) : (w.setCell ⟨g, i, none⟩ (.int .i64 v)).ownsRow base e 1 (.slice (some ⟨g, 0, none⟩) ls.length c) (ls.set i v).length (ints (ls.set i v)) := by
  rcases h.2 with ⟨hv, _⟩ | ⟨g', cap, cur, hv, hb, hh, hc, hm, hsz, ht⟩
  · cases hv
  · simp only [Value.slice.injEq, true_and, Option.some.injEq, Addr.mk.injEq, and_true] at hv
    obtain ⟨rfl, rfl⟩ := hv
    have hp : Blk (w.setCell ⟨g, i, none⟩ (.int .i64 v)) g e (cur.setIfInBounds i (.int .i64 v)) := Blk.set_ (show Blk w g e cur from hh) i _
    refine ⟨by simp [ints], .inr ⟨g, c, cur.setIfInBounds i (.int .i64 v), by rw [List.length_set], hb, hp, by rw [List.length_set]; exact hc, hm, by simpa using hsz, ?_⟩⟩
    rw [List.length_set, Nat.mul_one]
    rw [Nat.mul_one] at ht
    have : (cur.setIfInBounds i (.int .i64 v)).toList = cur.toList.set i (.int .i64 v) := by simp
    rw [this, List.take_set, ht]
    simp [ints, List.map_set]
theorem Ov.put {w : World} {base g c i : Nat} {vt : Value} {sh st : List Int} (h : Ov w base (.slice (some ⟨g, 0, none⟩) sh.length c) vt sh st) (hi : i < sh.length) (v : Int) : Ov (w.setCell ⟨g, i, none⟩ (.int .i64 v)) base (.slice (some ⟨g, 0, none⟩) sh.length c) vt (sh.set i v) st :=
  ⟨own_put h.1 hi v, h.2.1.kept (grown_set w ⟨g, i, none⟩ _) (.inr (h.2.2 g rfl)), h.2.2⟩
theorem Ov.alloc {w : World} {base : Nat} {vs vt : Value} {sh st : List Int} (h : Ov w base vs vt sh st) (o : Obj) : Ov (w.alloc o) base vs vt sh st := h.below ((Below.refl _ _).alloc (Nat.le_refl _) _)
theorem Ov.drew {w : World} {base : Nat} {vs vt : Value} {sh st : List Int} (h : Ov w base vs vt sh st) : Ov w.drew base vs vt sh st := h
theorem Ov.box {w : World} {base b : Nat} {vs vt : Value} {sh st : List Int} {cs : Array Value} (h : Ov w base vs vt sh st) (hb : Blk w b 49 cs) (x y z : Value) : Ov (((w.setCell ⟨b, 0, none⟩ x).setCell ⟨b, 1, none⟩ y).setCell ⟨b, 2, none⟩ z) base vs vt sh st :=
  h.kept (grown_box3 w b x y z) (.inl (own_not_box h.1 hb)) (.inl (own_not_box h.2.1 hb))
theorem Below.box {w W : World} {B b : Nat} (h : Below B w W) (hb : B ≤ b) (x y z : Value) : Below B w (((W.setCell ⟨b, 0, none⟩ x).setCell ⟨b, 1, none⟩ y).setCell ⟨b, 2, none⟩ z) := ((h.setCell hb _).setCell hb _).setCell hb _
/-- Slice's shape, its place. -/
def slv (sh : List Int) (x y z : Int) : List Int := sh.set x.toNat (z - y)
def slo (st : List Int) (off x y : Int) : Int := off + y * st.getD x.toNat 0
end Go.Proofs.Ytchakmkoimgakaa
namespace Go.Proofs.Ytchakmkoimgakaa
open Go.RowKit
attribute [local go_sem ↓] Go.wp_at_zero Go.wp_at_succ

end Go.Proofs.Ytchakmkoimgakaa
