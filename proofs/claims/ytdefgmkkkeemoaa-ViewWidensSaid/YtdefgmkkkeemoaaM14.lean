/-
  A view under one axis more: its strides, its words; plain mathematics.
  The words of a view under one axis more.
  Appending an empty list without an address; a part of a list in memory.
  What ViewWidens' round calls, where nothing is refused.
-/
import Derived.Laws.OwnMore
import Derived.Tactics
import Derived.Test.YtdefgmkkkeemoaaM01
import Derived.Test.YtdefgmkkkeemoaaM08
import Derived.Test.YtdefgmkkkeemoaaM13
namespace Go.Proofs.Ytdefgmkkkeemoaa

theorem goes_cons {n : Int} {sh : List Int} (hs : may sh = true) (ht : may (n :: sh) = true) : goes sh (n :: sh) = true := by
  rw [goes_is hs ht]
  simp only [Bool.and_eq_true, decide_eq_true_eq, gN_iff, List.length_cons]
  refine ⟨by omega, fun j h1 h2 => ?_⟩
  by_cases hj : j ≤ sh.length
  · right
    unfold ov
    rw [if_neg (by omega), if_neg (by simp; omega), List.length_cons, show sh.length + 1 - j = (sh.length - j) + 1 by omega]
    simp [List.getD]
  · left
    unfold ov
    rw [if_pos (by omega)]
theorem wsn_cons {n : Int} {sh st : List Int} (hl : st.length = sh.length) : ∀ k, k ≤ sh.length → wsn sh st (n :: sh) k = 0 :: (st.take k ++ List.replicate (sh.length - k) 0)
  | 0, _ => by simp [wsn, List.replicate_succ]
  | k + 1, h => by
    have ih := wsn_cons (n := n) hl k (by omega)
    have e : (n :: sh).length - sh.length = 1 := by simp
    unfold wsn
    rw [e, ih, show (n :: sh).getD (k + 1) 0 = sh.getD k 0 by simp [List.getD], if_pos rfl, List.set_cons_succ]
    congr 1
    apply ext_getD
    · simp; omega
    · intro j hj
      simp at hj
      have hk : k < st.length := by omega
      simp only [List.getD_eq_getElem?_getD, List.getElem?_set]
      have hl2 : (st.take k ++ List.replicate (sh.length - k) (0 : Int)).length = sh.length := by simp; omega
      by_cases e : j = k
      · subst e
        rw [if_pos rfl, if_pos (by omega), List.getElem?_append_left (by simp; omega), List.getElem?_take_of_lt (by omega), List.getElem?_eq_getElem hk]; rfl
      · rw [if_neg (Ne.symm e)]
        by_cases hj2 : j < k
        · rw [List.getElem?_append_left (by simp; omega), List.getElem?_append_left (by simp; omega), List.getElem?_take_of_lt hj2, List.getElem?_take_of_lt (by omega)]
        · rw [List.getElem?_append_right (by simp; omega), List.getElem?_append_right (by simp; omega)]
          simp only [List.getElem?_replicate, List.length_take]
          rw [if_pos (by omega), if_pos (by omega)]
theorem wst_cons {n : Int} {sh st : List Int} (hl : st.length = sh.length) : wst sh st (n :: sh) = 0 :: st := by
  unfold wst
  rw [wsn_cons hl sh.length (Nat.le_refl _), Nat.sub_self, ← hl]
  simp
theorem vw_cons {n off m : Int} {sh st : List Int} (h : Vw sh st off m) (ht : may (n :: sh) = true) : Vw (n :: sh) (0 :: st) off m := by
  obtain ⟨a, b, c, d, e, f, g⟩ := h
  refine ⟨ht, by simp [b], fun s hs => ?_, d, e, f, by simpa [far] using g⟩
  rcases List.mem_cons.1 hs with rfl | hs
  · omega
  · exact c s hs
theorem prod_cons (n : Int) (sh : List Int) : prod (n :: sh) = n * prod sh := rfl
theorem dot_cons (x : Int) (st i : List Int) : dot (0 :: st) (x :: i) = dot st i := by simp [dot]
theorem atl_cons (n : Int) (sh : List Int) {k j N : Nat} (hN : (N : Int) = prod sh) (hj : j < N) : ∃ x, atl (n :: sh) ((k * N + j : Nat) : Int) = x :: atl sh (j : Int) := by
  refine ⟨((k * N + j : Nat) : Int) / prod sh, ?_⟩
  show _ :: atl sh (((k * N + j : Nat) : Int) % prod sh) = _
  rw [← hN]
  have : ((k * N + j : Nat) : Int) % (N : Int) = (j : Int) := by
    rw [← Int.natCast_emod, Nat.add_comm, Nat.add_mul_mod_self_right, Nat.mod_eq_of_lt hj]
  rw [this]
end Go.Proofs.Ytdefgmkkkeemoaa
namespace Go.Proofs.Ytdefgmkkkeemoaa

theorem cps_cons {n : Nat} {sh st ls : List Int} {off : Int} {N k : Nat} (hN : (N : Int) = prod sh) (hk : k < n) : ((cps ((n : Int) :: sh) (0 :: st) off ls (n * N)).drop (k * N)).take N = cps sh st off ls N := by
  have hm : (k + 1) * N ≤ n * N := Nat.mul_le_mul_right N hk
  rw [Nat.add_mul, Nat.one_mul] at hm
  apply List.ext_getElem
  · simp [cps]; omega
  · intro j h1 h2
    have hj : j < N := by simpa [cps] using h2
    simp only [cps, List.getElem_take, List.getElem_drop, List.getElem_map, List.getElem_range]
    obtain ⟨x, e⟩ := atl_cons (n : Int) sh (k := k) hN hj
    rw [e, dot_cons]
end Go.Proofs.Ytdefgmkkkeemoaa
namespace Go.Proofs.Ytdefgmkkkeemoaa
open Go.RowKit Go.Shelf

theorem run_append_noneC {P : Program} {w : World} (base : Nat) (t ty e : TypeId) (i : TypeInfo) (size : Nat) (ht : P.underlying t = some (.slice e)) (hi : P.info? e = some i)
    (v : Value) (n c : Nat) (xs : List Value) (hown : w.ownsRow base e size v n xs) :
    (Builtin.append_ #[t, t] ty #[v, .slice none 0 c]).run P w = .ok v w := by
  rcases hown.2 with ⟨rfl, rfl⟩ | ⟨g, cap, cur, rfl, _, _, hnc, _⟩
  · simp [Builtin.append_, run_underlying ht, sizeOf, typeInfo, hi, Builtin.lenOf, Builtin.firstCells]
  · simp [Builtin.append_, run_underlying ht, sizeOf, typeInfo, hi, Builtin.lenOf, Builtin.firstCells, hnc, storeCells]
theorem wpList_append_noneC {P : Program} {w : World} {ops : Array Oper} {rest : List Oper} {o : Oper} {a : Act} {Q : Exit → Act → World → Prop} (hgd : o.guard = none) (s x : Operand) (t : TypeId)
    (ho : o.op = .call { callee := .builtin .append, args := #[s, x], argTypes := #[t, t] })
    (base : Nat) (e : TypeId) (i : TypeInfo) (size : Nat) (ht : P.underlying t = some (.slice e)) (hi : P.info? e = some i)
    (v : Value) (n c : Nat) (xs : List Value) (hs : a.eval s = v) (hown : w.ownsRow base e size v n xs) (hx : a.eval x = .slice none 0 c)
    (h : wpList P ops Q rest (a.put o.dst v) w) : wpList P ops Q (o :: rest) a w := by
  refine wpList_plain hgd fun K hK => ?_
  have hrun := run_append_noneC (P := P) (w := w) base t o.type e i size ht hi v n c xs hown
  unfold Oper.wp
  simp [execOp, ho, resolve, invoke, builtin, hs, hx, hrun, Result.andThen]
  exact hK _ _ h
/-- A part of a list. -/
theorem ld_sub {W : World} {g L c lo N : Nat} {ls : List Int} (h : Ld W (.slice (some ⟨g, 0, none⟩) L c) ls) (hl : lo + N ≤ ls.length) : Ld W (.slice (some ⟨g, lo, none⟩) N (c - lo)) ((ls.drop lo).take N) := by
  obtain ⟨o, c', e, hc, hx⟩ := h
  simp only [Value.slice.injEq] at e
  obtain ⟨rfl, rfl, rfl⟩ := e
  have hlen : ((ls.drop lo).take N).length = N := by simp; omega
  refine ⟨_, _, by rw [hlen], by rw [hlen]; omega, fun i hi => ?_⟩
  rw [hlen] at hi
  obtain ⟨b, f, e, hb, hcell⟩ := hx (lo + i) (by omega)
  simp only [Option.some.injEq, Addr.mk.injEq, and_true] at e
  obtain ⟨rfl, rfl⟩ := e
  refine ⟨g, lo, rfl, hb, ?_⟩
  rw [Nat.zero_add] at hcell
  rw [hcell]
  simp [List.getD, List.getElem?_take_of_lt hi, List.getElem?_drop]
theorem run_sub {P : Program} {t e : TypeId} {i : TypeInfo} (hu : P.underlying t = some (.slice e)) (hi : P.info? e = some i) (hs : i.size = 1) (g L c lo N : Nat) (h : lo + N ≤ c) (h0 : 0 < N) (wx : World) :
    (Instr.slice t (.slice (some ⟨g, 0, none⟩) L c) (some (.int .i64 (lo : Int))) (some (.int .i64 ((lo : Int) + (N : Int)))) none).run P wx = .ok (.slice (some ⟨g, lo, none⟩) N (c - lo)) wx := by
  have a1 : (0 : Int) ≤ (lo : Int) + (N : Int) ∧ (lo : Int) + (N : Int) ≤ (c : Int) := by omega
  have a4 : ¬ c = lo := by omega
  simp [Instr.slice, run_underlying hu, Instr.sliceBounds, Instr.sliceBound, asIntOf, sizeOf, typeInfo, hi, hs, Addr.add, a1.1, a1.2, a4]
  have a5 : ((lo : Int) + (N : Int)).toNat - lo = N := by omega
  have a6 : (lo : Int) ≤ (lo : Int) + (N : Int) := by omega
  rw [if_pos a6, a5]
  by_cases q : lo = 0
  · subst q; simp
  · rw [if_neg q]
end Go.Proofs.Ytdefgmkkkeemoaa
namespace Go.Proofs.Ytdefgmkkkeemoaa
open Go.RowKit Go.Shelf

theorem wrap_in {x : Int} (h : (-9223372036854775808 : Int) ≤ x ∧ x ≤ 9223372036854775807) : IntKind.i64.wrap x = x := IntWalk.i64_in x h
theorem info_int64 : ∃ i, Try.prog.info? 2 = some i ∧ i.size = 1 := by
  obtain ⟨i, hi, _, h1, _⟩ := info_parts infoW
  exact ⟨i, hi, h1⟩
theorem vw_more {sh st : List Int} {off m : Int} (h : Vw sh st off m) : Vw sh st off 65536 := by
  obtain ⟨a, b, c, d, e, f, g⟩ := h
  exact ⟨a, b, c, d, by omega, by omega, by omega⟩
theorem vw_plain {sh : List Int} (h : may sh = true) : Vw sh (stl sh) 0 65536 := by
  have := may_prod h
  refine ⟨h, stl_len sh, fun s hs => ?_, by omega, by omega, by omega, by rw [far_stl]; omega⟩
  obtain ⟨i, hi, rfl⟩ := List.mem_iff_getElem.1 hs
  have hi' : i < sh.length := by rw [stl_len] at hi; exact hi
  have h1 := stl_getD sh i hi'
  rw [List.getD_eq_getElem?_getD, List.getElem?_eq_getElem hi, Option.getD_some] at h1
  have := may_drop h (i + 1)
  rw [h1]
  exact ⟨by omega, this.2⟩
/-- A view in new memory. -/
def NewV (W : World) (sh st : List Int) (off : Int) (n m : Nat) (e : Ending) (w' : World) : Prop := ∃ os cs ot ct, e = .returned (.tuple #[.agg #[.slice os n cs, .slice ot m ct, .int .i64 off], .int .i64 0]) ∧ Ld w' (.slice os n cs) sh ∧ Ld w' (.slice ot m ct) st ∧ Below W.heap.size W w'
theorem newV_of {W : World} {sh st : List Int} {off : Int} {n m : Nat} (hn : n = sh.length) (hm : m = st.length) {e : Ending} {w' : World} (h : SomeV W 0 sh st off e w') : NewV W sh st off n m e w' := by
  subst hn hm
  obtain ⟨os, cs, ot, ct, rfl, ho, hb⟩ := h
  exact ⟨os, cs, ot, ct, rfl, (ov_ld ho).1, (ov_ld ho).2, hb⟩
theorem widen_cons (vs vt va : Value) (sh st : List Int) (off m n : Int) (w : World) (hs : Ld w vs sh) (ht : Ld w vt st) (ha : Ld w va (n :: sh)) (hv : Vw sh st off m) (hm : may (n :: sh) = true) :
    Calls Try.prog 22 #[.agg #[vs, vt, .int .i64 off], va] w (NewV w (n :: sh) (0 :: st) off (sh.length + 1) (st.length + 1)) := by
  have l1 := may_len hv.1
  have l2 := may_len hm
  have l3 := hv.2.1
  have h := widen_any vs vt va sh st (n :: sh) off w hs ht ha (by omega) (by omega) (by omega)
  have e : wie sh st off (n :: sh) = 0 := by
    unfold wie
    rw [vwb_iff.2 (vw_more hv), hm, goes_cons hv.1 hm]; rfl
  rw [e] at h
  rw [show unl 0 (n :: sh) = n :: sh from rfl, show unl 0 (wst sh st (n :: sh)) = wst sh st (n :: sh) from rfl, wst_cons l3, show unn 0 off = off from rfl] at h
  exact h.mono fun e w' hh => newV_of rfl rfl hh
theorem of_ok (v : Value) (sh : List Int) (w : World) (h : Ld w v sh) (hm : may sh = true) : Calls Try.prog 24 #[v] w (NewV w sh (stl sh) 0 sh.length sh.length) := by
  have l1 := may_len hm
  have h := of_any v sh w h (by omega)
  rw [show ofe sh = 0 by unfold ofe; rw [hm]; rfl] at h
  exact h.mono fun e w' hh => newV_of rfl (stl_len sh).symm hh
theorem reshape_ok (vs vt va : Value) (sh s : List Int) (w : World) (hs : Ld w vs sh) (ht : Ld w vt (stl sh)) (ha : Ld w va s) (hm : may sh = true) (hm2 : may s = true) (hp : prod sh = prod s) :
    Calls Try.prog 23 #[.agg #[vs, vt, .int .i64 0], va] w (NewV w s (stl s) 0 s.length s.length) := by
  have l1 := may_len hm
  have l2 := may_len hm2
  have h := reshape_any vs vt va sh (stl sh) s 0 w hs ht ha (by omega) (by rw [stl_len]; omega) (by omega)
  have e : ree sh (stl sh) 0 s = 0 := by
    unfold ree pln
    rw [vwb_iff.2 (vw_plain hm), hm2, decide_eq_true hp]; simp
  rw [e] at h
  exact h.mono fun e w' hh => newV_of rfl (stl_len s).symm hh
/-- A tensor in new memory. -/
def NewT (W : World) (sh ds : List Int) (n m : Nat) (e : Ending) (w' : World) : Prop := ∃ os cs g cd, e = .returned (.tuple #[.agg #[.slice os n cs, .slice (some ⟨g, 0, none⟩) m cd], .int .i64 0]) ∧ Ld w' (.slice os n cs) sh ∧ Ld w' (.slice (some ⟨g, 0, none⟩) m cd) ds ∧ Below W.heap.size W w'
theorem copyt_ok (vs vt vd : Value) (sh st ls : List Int) (off : Int) (N n : Nat) (w : World) (hs : Ld w vs sh) (ht : Ld w vt st) (hd : Ld w vd ls) (hv : Vw sh st off ls.length) (hwd : wds ls = true) (hN : (N : Int) = prod sh) (hn : n = sh.length) :
    Calls Try.prog 37 #[.agg #[vs, vt, .int .i64 off], vd] w (NewT w sh (cps sh st off ls N) n N) := by
  subst hn
  have h := copy_ok vs vt vd sh st ls off N w hs ht hd (vwb_iff.2 hv) hwd hN
  have hp := may_prod hv.1
  refine h.mono ?_
  rintro e w' ⟨os, cs, od, cd, rfl, h1, h2, hb⟩
  obtain ⟨_, _, e1, g1⟩ := Ld.of_owns h1
  obtain ⟨_, _, e2, g2⟩ := Ld.of_owns h2
  obtain ⟨g, rfl⟩ := own_some h2 (by rw [cps_len]; omega)
  simp only [Value.slice.injEq] at e1 e2
  obtain ⟨rfl, _, rfl⟩ := e1
  obtain ⟨rfl, _, rfl⟩ := e2
  rw [cps_len] at g2
  exact ⟨os, cs, g, cd, by rw [cps_len], g1, g2, hb⟩
end Go.Proofs.Ytdefgmkkkeemoaa
