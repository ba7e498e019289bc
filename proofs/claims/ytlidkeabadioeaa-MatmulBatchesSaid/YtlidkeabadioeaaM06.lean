/-
  view.places: where a view's indexes stand, one behind the other.
  A region that draws its order of evaluation, within a round of a loop over an iterator: as outside of one, where no statement defers.
  The reference's Transpose.
  view.Slice.
  The reference's Slice.
  The reference's shapes: counts, what may be, strides, places, indexes.
  The reference's shapes: places and indexes, spread shapes.
  The reference's shapes: spread shapes, what stands under an index.
  view.Widen.
-/
import Derived.Deep.RegionHeld3
import Derived.OrdersIn
import Derived.OwnWalkIn
import Derived.Deep.QuietTactic
import Derived.BigQuiet
import Derived.IntWalk
import Derived.Test.YtlidkeabadioeaaM02
import Derived.Test.YtlidkeabadioeaaM03
import Derived.Test.YtlidkeabadioeaaM05
namespace Go.Proofs.Ytlidkeabadioeaa
open Go.RowKit Go.Shelf
attribute [local go_sem] Oper.semAt_some

/-- A place, from the first number on. -/
def Dt (st i : List Int) (T p : Int) (k : Nat) : Prop := k ≤ st.length ∧ 0 ≤ p ∧ p + dot (st.drop k) (i.drop k) = T
theorem dot_nn : ∀ {st i : List Int}, (∀ s ∈ st, 0 ≤ s) → (∀ x ∈ i, 0 ≤ x) → 0 ≤ dot st i
  | [], _, _, _ => by simp [dot]
  | _ :: _, [], _, _ => by simp [dot]
  | s :: r, x :: t, hs, hi => by
    have h1 := hs s (List.mem_cons_self ..)
    have h2 := hi x (List.mem_cons_self ..)
    have ih := dot_nn (st := r) (i := t) (fun y hy => hs y (List.mem_cons_of_mem _ hy)) (fun y hy => hi y (List.mem_cons_of_mem _ hy))
    have := Int.mul_nonneg h2 h1
    simp only [dot]
    omega
theorem dt_step {st i : List Int} {T p : Int} {k : Nat} (h : Dt st i T p k) (hl : st.length = i.length) (hs : ∀ s ∈ st, 0 ≤ s) (hi : ∀ x ∈ i, 0 ≤ x) (hk : k < st.length) :
    Dt st i T (p + i.getD k 0 * st.getD k 0) (k + 1) ∧ 0 ≤ i.getD k 0 * st.getD k 0 ∧ i.getD k 0 * st.getD k 0 ≤ T ∧ p + i.getD k 0 * st.getD k 0 ≤ T ∧ 0 ≤ p + i.getD k 0 * st.getD k 0 := by
  obtain ⟨a, b, c⟩ := h
  have h1 := hs _ (getD_mem hk)
  have h2 := hi _ (getD_mem (show k < i.length by omega))
  have h3 := Int.mul_nonneg h2 h1
  have h4 := dot_nn (st := st.drop (k + 1)) (i := i.drop (k + 1)) (fun s hs' => hs s (List.mem_of_mem_drop hs')) (fun x hx => hi x (List.mem_of_mem_drop hx))
  rw [dot_step hl hk] at c
  exact ⟨⟨by omega, by omega, by omega⟩, h3, by omega, by omega, by omega⟩
theorem dt_end {st i : List Int} {T p : Int} (h : Dt st i T p st.length) (hl : st.length = i.length) : p = T := by
  obtain ⟨_, _, c⟩ := h
  rw [List.drop_length, hl, List.drop_length] at c
  simpa [dot] using c
theorem atl_nn {s : List Int} {n : Int} (h : pos s) (h0 : 0 ≤ n) (h1 : n < prod s) : ∀ x ∈ atl s n, 0 ≤ x := by
  intro x hx
  obtain ⟨i, hi, rfl⟩ := List.mem_iff_getElem.1 hx
  have hh := inx_iff.1 (atl_inx s n h h0 h1)
  have := hh.2 i (by rw [hh.1]; exact hi)
  simpa [List.getD, List.getElem?_eq_getElem hi] using this.1

/-- What a round of a loop over places must keep. -/
def KV (S : Nat → Prop) (W W' : World) : Prop := (∀ k, S k → W'.heap[k]? = W.heap[k]?) ∧ ∀ (k : Nat) (cs : Array Value) (t : TypeId) (fz : Nat × Nat), W.heap[k]? = some (Obj.cells cs t fz) → t = 3 ∨ t = 23 ∨ t = 141 → W'.heap[k]? = W.heap[k]?
theorem KV.trans {S : Nat → Prop} {a b c : World} (h : KV S a b) (k : KV S b c) : KV S a c :=
  ⟨fun i hi => (k.1 i hi).trans (h.1 i hi), fun i cs t fz e ht => (k.2 i cs t fz ((h.2 i cs t fz e ht).trans e) ht).trans (h.2 i cs t fz e ht)⟩
/-- The pair that is told. -/
def plc (sh st : List Int) (off : Int) (x : Nat) : Array Value := #[.int .i64 (x : Nat), .int .i64 (off + dot st (atl sh (x : Nat)))]
theorem ld_kept {W W' : World} {row : Option Nat} {v : Value} {ls : List Int} (h : Ld W v ls) (hg : W.grownBy W' row) (hr : ∀ r, row = some r → ∃ o : Obj, W.heap[r]? = some o ∧ o.isCells = false) : Ld W' v ls := by
  obtain ⟨o, c, rfl, hc, hx⟩ := h
  refine ⟨o, c, rfl, hc, fun i hi => ?_⟩
  obtain ⟨b, f, e, hb, hcell⟩ := hx i hi
  exact ⟨b, f, e, Nat.lt_of_lt_of_le hb hg.size, cell_kept hcell hg hr⟩
theorem own_kept {W W' : World} {row : Option Nat} {base n : Nat} {e : TypeId} {v : Value} {xs : List Value} (h : W.ownsRow base e 1 v n xs) (hg : W.grownBy W' row) (hr : ∀ r, row = some r → ∃ o : Obj, W.heap[r]? = some o ∧ o.isCells = false) : W'.ownsRow base e 1 v n xs := by
  refine h.kept hg ?_
  rcases h.2 with ⟨rfl, _⟩ | ⟨g, cap, cur, rfl, _, hh, _⟩
  · exact .inl rfl
  · right
    intro e2
    obtain ⟨o, ho, hc⟩ := hr g e2.symm
    rw [hh] at ho
    cases ho
    cases hc
theorem OwnFrom.mono {β : Type} {B B' : Nat} {I : β → World → Prop} (h : OwnFrom B I) (hb : B ≤ B') : OwnFrom B' I := fun s W W' row hs hg hr => h s W W' row hs hg (fun r e => ⟨Nat.le_trans hb (hr r e).1, (hr r e).2⟩)
/-- What the iterator of places keeps. -/
def Pl (W : World) (bV By : Nat) (l : Nat) (vs vt : Value) (off : Int) (st : List Int) (base B1 B2 : Nat) (N : Int) (o : Option Addr) (c : Nat) (sh : List Int) : Prop := Blk W bV 69 #[vs, vt, .int .i64 off] ∧ Ld W vt st ∧ Boxed W By 141 (.func (.yield l) #[] #[]) ∧ AllBox2 W base B1 B2 N o c sh
theorem pl_own {β : Type} (bV By l : Nat) (vs vt : Value) (off : Int) (st : List Int) (base B1 B2 : Nat) (N : Int) (o : Option Addr) (c : Nat) (sh : List Int) : Own (fun (_ : β) W => Pl W bV By l vs vt off st base B1 B2 N o c sh) := fun s X Y row hs hg hr =>
  ⟨blk_own (β := β) bV _ (fun _ => _) s X Y row hs.1 hg hr, ld_kept hs.2.1 hg hr, boxed_own (β := β) _ _ (fun _ => _) s X Y row hs.2.2.1 hg hr, boxed_own (β := β) _ _ (fun _ => _) s X Y row hs.2.2.2.1 hg hr, boxed_own (β := β) _ _ (fun _ => _) s X Y row hs.2.2.2.2.1 hg hr, own_kept hs.2.2.2.2.2 hg hr⟩
/-- A round keeps it. -/
theorem pl_kv {S : Nat → Prop} {W W' : World} {bV By l : Nat} {vs vt : Value} {off : Int} {st : List Int} {base B1 B2 : Nat} {N : Int} {o : Option Addr} {c : Nat} {sh : List Int} (h : Pl W bV By l vs vt off st base B1 B2 N o c sh) (hk : KV S W W') (hsz : W.heap.size ≤ W'.heap.size) (hV : S bV) (hT : ∀ i, i < st.length → ∃ b f c, vt = .slice (some ⟨b, f, none⟩) st.length c ∧ S b) :
    Pl W' bV By l vs vt off st base B1 B2 N o c sh ∧ Kp3 B1 B2 o W W' := by
  obtain ⟨h1, h2, h3, h4, h5, h6⟩ := h
  have k4 := hk.2 B1 _ _ _ h4 (.inl rfl)
  have k5 := hk.2 B2 _ _ _ h5 (.inr (.inl rfl))
  have k6 : ∀ g, o = some ⟨g, 0, none⟩ → W'.heap[g]? = W.heap[g]? := by
    intro g e
    rcases h6.2 with ⟨e1, _⟩ | ⟨g', cap, cur, e1, _, hh, _⟩
    · simp only [Value.slice.injEq] at e1
      rw [e1.1] at e; cases e
    · simp only [Value.slice.injEq] at e1
      rw [e1.1] at e
      simp only [Option.some.injEq, Addr.mk.injEq, and_true] at e
      subst e
      exact hk.2 _ _ _ _ hh (.inl rfl)
  have kp : Kp3 B1 B2 o W W' := ⟨k4, k5, k6⟩
  refine ⟨⟨(hk.1 bV hV).trans h1, ?_, (hk.2 By _ _ _ h3 (.inr (.inr rfl))).trans h3, k4.trans h4, k5.trans h5, kp.own h6⟩, kp⟩
  obtain ⟨o2, c2, rfl, hc, hx⟩ := h2
  refine ⟨o2, c2, rfl, hc, fun i hi => ?_⟩
  obtain ⟨b, f, e, hb, hcell⟩ := hx i hi
  obtain ⟨b', f', c', e2, hS⟩ := hT i hi
  simp only [Value.slice.injEq] at e2
  rw [e] at e2
  simp only [Option.some.injEq, Addr.mk.injEq, and_true] at e2
  refine ⟨b, f, e, by omega, ?_⟩
  rw [← hcell]
  simp [World.cell?, hk.1 b (by rw [e2.1.1]; exact hS)]

set_option maxRecDepth 100000 in
set_option maxHeartbeats 4000000 in
theorem places1_told (n : Nat) (h5 : 5 ≤ n) (S : Nat → Prop) (bV : Nat) (vs vt : Value) (sh st : List Int) (off : Int) (N : Nat) (w : World) (hbV : Blk w bV 69 #[vs, vt, .int .i64 off]) (hs : Ld w vs sh) (ht : Ld w vt st) (hm : may sh = true) (hl : st.length = sh.length) (hst : sts st) (ho : 0 ≤ off) (hfar : off + far st sh < 65536) (hN : (N : Int) = prod sh)
    (hV : S bV) (hT : ∀ i, i < st.length → ∃ b f c, vt = .slice (some ⟨b, f, none⟩) st.length c ∧ S b) :
    SeqTold2 Fence.wide n Try.prog 106 #[.pointer (some ⟨bV, 0, none⟩)] (plc sh st off) (KV S) (fun pre x _ => x = pre.length) (fun ys => ys.length = N) (fun pre => pre.length ≤ N) N w := by
  intro l J Jx W hW hlW hJ hJx hY h0
  have hN6 : N ≤ 65536 := by have := may_prod hm; omega
  have HW1 : Below W.heap.size W (W.alloc (.cells #[.func (.yield l) #[] #[]] 141)) := (Below.refl _ _).alloc (Nat.le_refl _) _
  have hsW := hs.below hW
  have htW := ht.below hW
  have bW := hbV.below hW hbV.lt
  have CA : Hid (∀ m, (W.alloc (.cells #[.func (.yield l) #[] #[]] 141)).heap.size = m → Calls Try.prog 107 #[vs] (W.alloc (.cells #[.func (.yield l) #[] #[]] 141)) fun e w' => ∃ B1 B2 o c, e = .returned (.func (.func 125) #[] #[.pointer (some ⟨B1, 0, none⟩), .pointer (some ⟨B2, 0, none⟩)]) ∧ AllBox2 w' m B1 B2 N o c sh ∧ m ≤ B1 ∧ m ≤ B2 ∧ Below m (W.alloc (.cells #[.func (.yield l) #[] #[]] 141)) w') := fun m hmm => by
    subst hmm
    have := all2_any vs sh _ (hsW.below HW1) (by have := may_len hm; omega)
    rw [hm, if_pos rfl, ← hN] at this
    exact this
  replace CA := Lib.hid (CA.out (W.heap.size + 1) (by simp))
  have BV1 := Lib.hid (bW.alloc (.cells #[.func (.yield l) #[] #[]] 141))
  obtain ⟨c0, c1, c2, _⟩ := blk3 BV1.out
  have l4 := may_len hm
  have HP := Lib.hid (And.intro hm (And.intro hl (And.intro hst (And.intro hfar hN))))
  obtain ⟨os, cs, rfl, _, _⟩ := hsW
  obtain ⟨ot, ct, rfl, _, _⟩ := id htW
  have HTW := Lib.hid htW
  clear hs ht hbV hst hfar hN htW
  refine callsIn_of_wp_marks Try.func106 rfl trivial ?_
  simp only [Try.ntmps106, List.size_toArray, List.length_cons, List.length_nil, Nat.reduceAdd, Nat.reduceSub, Array.replicate_succ, Array.replicate_zero, List.push_toArray, List.append_toArray, List.nil_append, List.cons_append]
  refine wpIn_wide.2 ?_
  go_wp2_with (go_at_call 107; (with_reducible refine CA.out.mono ?_); rintro e w3 ⟨B1, B2, o3, c3, rfl, hbox, hB1, hB2, hb3⟩)
  have by0 : Boxed w3 W.heap.size 141 (.func (.yield l) #[] #[]) := (hb3.block W.heap.size (by omega)).trans (Boxed.new W _ _)
  have P0 : Pl w3 bV W.heap.size l (.slice os sh.length cs) (.slice ot st.length ct) off st (W.heap.size + 1) B1 B2 N o3 c3 sh :=
    ⟨BV1.out.below hb3 (by have := bW.lt; omega), (HTW.out.below HW1).keep (by simp) hb3, by0, hbox⟩
  have BW3 : Below W.heap.size W w3 := HW1.trans (hb3.mono (by omega))
  have J3 : J [] w3 := hJ [] W w3 none h0 ⟨BW3.os, BW3.tape, BW3.output, BW3.size, fun k hk _ => BW3.block k hk⟩ (fun r e => by cases e)
  have s3 := BW3.size
  have TO := Lib.hid (all3_told (n - 1) (W.heap.size + 1) B1 B2 N (by omega) o3 c3 sh hN6 (fun _ => ⟨HP.out.1, HP.out.2.2.2.2.symm⟩) w3 hbox)
  have HPL := Lib.hid P0
  clear hbox by0 P0 hb3 CA
  refine (wpIn_wide (n := n)).1 ?_
  refine wpIn_rangeFunc_told (F := Fence.wide) (n := n) rfl (by omega) (gf := 125) (lb := #[.pointer (some ⟨B1, 0, none⟩), .pointer (some ⟨B2, 0, none⟩)]) rfl trivial (enters_of Try.func125 (by kernel_rfl) rfl)
    TO.out Kp3.trans ?keepb (fun _ => rfl)
    (fun pre W' => J (List.range pre.length) W' ∧ Pl W' bV W.heap.size l (.slice os sh.length cs) (.slice ot st.length ct) off st (W.heap.size + 1) B1 B2 N o3 c3 sh)
    (fun cd pre W' => cd = .ret ∧ Jx (List.range pre.length) W')
    ?ownI ?ownX ?ownT ⟨J3, HPL.out⟩ ?a1 ?assign ?body ?done ?stop
  case keepb =>
    intro X k o o' hk _ _ _
    have hb1 := HPL.out.2.2.2.1.lt
    have hb2 := HPL.out.2.2.2.2.1.lt
    refine ⟨World.putObj_heap_other (by omega), World.putObj_heap_other (by omega), fun g e => World.putObj_heap_other ?_⟩
    subst e
    have := (HPL.out.2.2.2.2.2.lt g rfl).2
    omega
  case ownI => exact OwnFrom.and (fun s X Y row hs hg hr => hJ _ X Y row hs hg (fun r e => ⟨Nat.le_trans s3 (hr r e).1, (hr r e).2⟩)) ((pl_own (β := List (Nat × Nat)) bV W.heap.size l (.slice os sh.length cs) (.slice ot st.length ct) off st (W.heap.size + 1) B1 B2 N o3 c3 sh).from _)
  case ownX => exact fun cd => OwnFrom.and (fun _ _ _ _ h _ _ => h) (fun s X Y row hs hg hr => hJx _ X Y row hs hg (fun r e => ⟨Nat.le_trans s3 (hr r e).1, (hr r e).2⟩))
  case ownT => exact fun pre x => OwnFrom.and (fun _ _ _ _ h _ _ => h) (Own.from (blk_own _ _ (fun _ => _)) _)
  case assign =>
    intro l2 x X K hK
    unfold apr
    gi_wp2
    exact hK
  case body =>
    rintro l2 pre x X ⟨hJs, hPl⟩ hlt ⟨hx1, hx2⟩
    obtain ⟨xn, xg⟩ := x
    simp only at hx1 hx2
    subst hx1
    obtain ⟨c0, c1, c2, _⟩ := blk3 hPl.1
    obtain ⟨hm', hl', hst', hfar', hN'⟩ := HP.out
    have hp := may_pos hm'
    have h0n : (0 : Int) ≤ (pre.length : Nat) := by omega
    have h1n : ((pre.length : Nat) : Int) < prod sh := by omega
    have hlen := atl_len sh (pre.length : Nat)
    have hinx := atl_inx sh (pre.length : Nat) hp h0n h1n
    have hdb := dot_bd hl' hst' hinx
    have hnn := atl_nn hp h0n h1n
    have HD := Lib.hid (And.intro hst' (And.intro hnn (And.intro hl' hlen)))
    have HXB := Lib.hid hx2
    have HPQ := Lib.hid hPl
    have hy0 := hY (List.range pre.length) pre.length X hJs (by simpa using hlt) (by simp)
    unfold plc at hy0
    obtain ⟨fn, tmps, assign, body, hy, hR⟩ := hy0
    have HR := Lib.hid hR
    have HLD := Lib.hid hPl.2.1
    have by1 := hPl.2.2.1.cell
    have EQ1 : Hid (List.range pre.length ++ [pre.length] = List.range (pre ++ [(pre.length, xg)]).length) := by
      rw [List.length_append, List.length_singleton, List.range_succ]; exact Lib.hid rfl
    generalize hT0 : off + dot st (atl sh (pre.length : Nat)) = T at *
    have hTT : 0 ≤ T ∧ T ≤ 65536 := by omega
    have DS : Hid (Dt st (atl sh (pre.length : Nat)) T off 0) := ⟨Nat.zero_le _, ho, by simpa using hT0⟩
    clear hx2 hPl hJs hm' hl' hst' hfar' hN' hp hinx hdb hnn hR hT0
    generalize atl sh (pre.length : Nat) = ix0 at *
    have hoff : off ≤ 65536 := by
      have := DS.out.2.2
      have h2 := dot_nn (st := st) (i := ix0) (fun s hs => (HD.out.1 s hs).1) HD.out.2.1
      simp at this
      omega
    gi_wp2
    gi_loopw [5, 18] (fun s5 s18 wr => ∃ (k : Nat) (p : Int), k ≤ st.length ∧ 0 ≤ p ∧ p ≤ 65536 ∧ s18 = .int .i64 k ∧ s5 = .int .i64 p ∧ Hid (Dt st ix0 T p k) ∧ X = wr) (fun _ s18 _ => st.length - (intOf s18).toNat)
    case atStart => exact ⟨0, off, Nat.zero_le _, ho, hoff, rfl, rfl, DS, rfl⟩
    case round =>
      obtain ⟨k, p, hk, p0, p1, rfl, rfl, HK, rfl⟩ := hrel
      by_cases hlt2 : k < st.length
      · obtain ⟨o2, c2', e2, _, hx⟩ := HLD.out
        simp only [Value.slice.injEq] at e2
        obtain ⟨rfl, _, rfl⟩ := e2
        obtain ⟨b2, f2, rfl, _, xc⟩ := hx k hlt2
        have kx := HXB.out.cell k
        have hi := HD.out.2.2.2
        have hl2 := HD.out.2.2.1
        rw [ints_at (by omega)] at kx
        obtain ⟨st1, t0, t1, t2, t3⟩ := dt_step HK.out (by omega) (fun s hs => (HD.out.1 s hs).1) HD.out.2.1 hlt2
        have ST := Lib.hid st1
        have klt : k < sh.length := by omega
        clear st1 hx hi hl2
        generalize ix0.getD k 0 = y at *
        generalize st.getD k 0 = s at *
        have q1 : y * s ≤ 65536 := by omega
        have q2 : p + y * s ≤ 65536 := by omega
        gi_wp2
        go_roundw
        case rel => exact ⟨k + 1, p + y * s, by omega, t3, q2, by go_num, rfl, ST, by first | trivial | rfl⟩
        case measure => simp [intOf]; omega
      · obtain rfl : k = st.length := by omega
        obtain rfl := dt_end HK.out (by have := HD.out.2.2; omega)
        gi_wp2
        refine ⟨(fun h => by cases h), (oround_any HR.out).mono ?_⟩
        rintro e W3 ⟨hkf, (⟨rfl, hJ3, hk3⟩ | ⟨rfl, hJx3⟩)⟩
        · obtain ⟨hp3, hkp3⟩ := pl_kv HPQ.out hk3 hkf.size hV hT
          rw [EQ1.out] at hJ3
          have F3 := Lib.hid (And.intro (⟨hkf.size, fun i o hi hx hc => hkf.same i o (Nat.le_trans s3 hi) hx hc⟩ : KeepsFrom w3.heap.size X W3) (And.intro hkp3 (And.intro hJ3 hp3)))
          clear hkf hJ3 hk3 hp3 hkp3
          gi_wp2
          exact F3.out
        · rw [EQ1.out] at hJx3
          have F3 := Lib.hid (And.intro (⟨hkf.size, fun i o hi hx hc => hkf.same i o (Nat.le_trans s3 hi) hx hc⟩ : KeepsFrom w3.heap.size X W3) hJx3)
          clear hkf hJx3
          gi_wp2
          exact ⟨F3.out.1, rfl, F3.out.2⟩
  case done =>
    rintro D ys X hD hys ⟨hJs, _⟩ hK
    have hf := hJ.putObj (.deferred none) hJs (Nat.le_trans s3 hD) hK rfl
    go_wp2
    refine ⟨by simp, .inl ⟨_, _, rfl, run_takeDeferred hK, ?_⟩⟩
    refine ⟨_, results_none rfl _ _ _, ⟨_, rfl⟩, .inl ⟨List.range ys.length, by simp [hys], hf⟩⟩
  case stop =>
    rintro D cd pre X hD hpre ⟨rfl, hJs⟩ hK
    have hf := hJx.putObj (.deferred none) hJs (Nat.le_trans s3 hD) hK rfl
    gi_wp2
    go_wp2
    refine ⟨by simp, .inl ⟨_, _, rfl, run_takeDeferred hK, ?_⟩⟩
    refine ⟨_, results_none rfl _ _ _, ⟨_, rfl⟩, .inr ⟨List.range pre.length, by simpa using hpre, hf⟩⟩
end Go.Proofs.Ytlidkeabadioeaa
namespace Go.Proofs.Ytlidkeabadioeaa
open Go Go.RowKit

/-- No defer statement? -/
def nodf : Op → Bool
  | .defer _ => false
  | _ => true
theorem rows_in {P : Program} {n l : Nat} {row : String} {args : Array Value} {w : World} {R : Value → World → Prop} (h : Rows P row args w R) : RowsIn (Fence.wide.inRound l) n P row args w R := fun c cs _ =>
  let ⟨v, w', r, s⟩ := h c cs
  ⟨v, w', r, stepsIn_wide.2 s⟩
theorem oper_in {P : Program} {n l : Nat} {o : Oper} {a : Act} {w : World} {K : Act → World → Prop} {Q : Exit → Act → World → Prop} (hd : nodf o.op = true) (h : o.wp P a w K Q) : o.wpIn (Fence.wide.inRound l) n P a w K Q := by
  refine ⟨fun _ _ => trivial, ?_⟩
  rw [Oper.semAt_plain _ _ _ (fun c hc => by rw [hc] at hd; cases hd)]
  unfold Oper.wp at h
  generalize (execOp a.eval o).run P w = r at *
  cases r with
  | ok x w' =>
    cases x <;> simp only [Oper.uponIn, Oper.upon] at h ⊢ <;>
      first
        | exact h
        | exact ⟨(fun h0 => by cases h0), callsIn_wide.2 h⟩
        | exact ⟨(fun h0 => by cases h0), rows_in h⟩
  | halt x w' => cases x <;> simp only [Oper.uponIn, Oper.upon] at h ⊢ <;> exact h
theorem any_in {P : Program} {n l : Nat} {md : Region.Mode} {ops : Array Oper} {Q : Exit → Act → World → Prop} (hd : (ops.toList.all fun o => nodf o.op) = true) (hQ : ¬ LetsOut Q) :
    ∀ (fuel : Nat) (listed : Array Bool) (a : Act) (w : World), wpAny P md ops Q fuel listed a w → wpAnyIn (Fence.wide.inRound l) n P md ops Q fuel listed a w
  | 0, _, _, _, h => h
  | fuel + 1, listed, a, w, h => by
    refine ⟨h.1, fun i hi => ?_⟩
    have h1 := h.2 i hi
    unfold wpOp at h1
    unfold wpOpIn
    cases e : ops[i]? with
    | none =>
      simp only [e] at h1 ⊢
      exact any_in hd hQ fuel _ _ _ h1
    | some o =>
      have ho : nodf o.op = true := by
        have := List.all_eq_true.1 hd o (by
          have h2 := Array.getElem?_eq_some_iff.1 e
          rw [← h2.2]; simp)
        simpa using this
      simp only [e] at h1 ⊢
      split
      · rename_i hw
        simp only [hw, if_true] at h1
        rcases h1 with h1 | ⟨_, h1⟩
        · exact Oper.wpIn_mono (fun a' w' h' => any_in hd hQ fuel _ _ _ h') (oper_in ho h1)
        · exact absurd h1 hQ
      · rename_i hw
        simp only [hw] at h1
        exact ⟨fun _ _ => trivial, any_in hd hQ fuel _ _ _ h1⟩
theorem region_in {P : Program} {n l id : Nat} {ops : Array Oper} {R : World → Prop} {S : World → Prop} {a : Act} {W : World} (hd : (ops.toList.all fun o => nodf o.op) = true) (hm : P.follows .mixedOrders = true) (hS : S W.drew)
    (h : S W.drew → wpAnyH P .any ops (fun e _ W2 => e = .normal ∧ R W2) S ops.size (Array.replicate ops.size false) a W.drew) : (Code.region id ops true).wpIn (Fence.wide.inRound l) n P (fun e _ W2 => e = .normal ∧ R W2) a W :=
  wpIn_region_any hm (any_in hd (fun ⟨_, _, h⟩ => by cases h.1) _ _ _ _ (wpAny_of_held _ _ _ _ (h hS)))
/-- A region that draws its order, within a round: what it leaves of the frame, too. -/
theorem region_inA {P : Program} {n l id : Nat} {ops : Array Oper} {R : Act → World → Prop} {S : World → Prop} {a : Act} {W : World} (hd : (ops.toList.all fun o => nodf o.op) = true) (hm : P.follows .mixedOrders = true) (hS : S W.drew)
    (h : S W.drew → wpAnyH P .any ops (fun e a2 W2 => e = .normal ∧ R a2 W2) S ops.size (Array.replicate ops.size false) a W.drew) : (Code.region id ops true).wpIn (Fence.wide.inRound l) n P (fun e a2 W2 => e = .normal ∧ R a2 W2) a W :=
  wpIn_region_any hm (any_in hd (fun ⟨_, _, h⟩ => by cases h.1) _ _ _ _ (wpAny_of_held _ _ _ _ (h hS)))
end Go.Proofs.Ytlidkeabadioeaa
namespace Go.Proofs.Ytlidkeabadioeaa
open Go.RowKit
attribute [local go_sem ↓] Go.wp_at_zero Go.wp_at_succ

/-- A view in new memory. -/
def SomeW (w : World) (sh st : List Int) (off : Int) (e : Ending) (w' : World) : Prop := ∃ os cs ot ct, e = .returned (.agg #[.slice os sh.length cs, .slice ot st.length ct, .int .i64 off]) ∧ Ov w' w.heap.size (.slice os sh.length cs) (.slice ot st.length ct) sh st ∧ Below w.heap.size w w'
theorem someW_end {w W : World} {b : Nat} {os ot : Option Addr} {ns nt cs ct : Nat} {off : Int} {sh st : List Int} {x : Array Value} (hb : w.heap.size ≤ b) (hB : Below w.heap.size w W) (hx : Blk W b 69 x) (e1 : ns = sh.length) (e2 : nt = st.length)
    (ho : Ov W w.heap.size (.slice os ns cs) (.slice ot nt ct) sh st) :
    SomeW w sh st off (.returned (.agg #[.slice os ns cs, .slice ot nt ct, .int .i64 off])) (((W.setCell ⟨b, 0, none⟩ (.slice os ns cs)).setCell ⟨b, 1, none⟩ (.slice ot nt ct)).setCell ⟨b, 2, none⟩ (.int .i64 off)) := by
  obtain ⟨os, cs, ot, ct, e, h1, h2⟩ := someV_end (er := 0) (off := off) hb hB hx e1 e2 ho
  simp only [Ending.returned.injEq, Value.tuple.injEq] at e
  refine ⟨os, cs, ot, ct, ?_, h1, h2⟩
  simp only [Array.mk.injEq, List.cons.injEq, and_true] at e
  rw [e]

end Go.Proofs.Ytlidkeabadioeaa
namespace Go.Proofs.Ytlidkeabadioeaa
open Go.RowKit
attribute [local go_sem ↓] Go.wp_at_zero Go.wp_at_succ

theorem below_drew1 {B : Nat} {w W : World} (h : Below B w W) : Below B w W.drew := below_drw h 1
theorem slb_at {sh : List Int} {x y z : Int} (h : slb sh x y z = true) : ∃ a : Nat, x = (a : Int) ∧ a < sh.length ∧ 0 ≤ y ∧ y < z ∧ z ≤ sh.getD a 0 := by
  unfold slb at h
  simp only [Bool.and_eq_true, decide_eq_true_eq] at h
  obtain ⟨⟨⟨⟨a, b⟩, c⟩, d⟩, e⟩ := h
  exact ⟨x.toNat, by omega, by omega, c, d, e⟩
theorem slb_no {sh : List Int} {x y z : Int} (h : ¬ (0 ≤ x ∧ x < sh.length ∧ 0 ≤ y ∧ y < z ∧ z ≤ sh.getD x.toNat 0)) : slb sh x y z = false := by
  cases e : slb sh x y z with
  | false => rfl
  | true =>
    unfold slb at e
    simp only [Bool.and_eq_true, decide_eq_true_eq] at e
    obtain ⟨⟨⟨⟨a, b⟩, c⟩, d⟩, f⟩ := e
    exact absurd ⟨a, b, c, d, f⟩ h
theorem own_some {w : World} {base n c : Nat} {e : TypeId} {o : Option Addr} {xs : List Value} (h : w.ownsRow base e 1 (.slice o n c) n xs) (h0 : 0 < n) : ∃ g, o = some ⟨g, 0, none⟩ := by
  rcases h.2 with ⟨_, h1⟩ | ⟨g, cap, cur, hv, _⟩
  · omega
  · simp only [Value.slice.injEq, true_and] at hv; exact ⟨g, hv.1⟩
theorem own_cell {w : World} {base g c i : Nat} {ls : List Int} {e : TypeId} (h : w.ownsRow base e 1 (.slice (some ⟨g, 0, none⟩) ls.length c) ls.length (ints ls)) (hi : i < ls.length) : w.cell? ⟨g, i, none⟩ = some (.int .i64 (ls.getD i 0)) := by
  rw [h.cellAt i (by omega)]; simpa using ints_at hi
theorem own_frozen {w : World} {base g n c : Nat} {xs : List Value} {e : TypeId} (h : w.ownsRow base e 1 (.slice (some ⟨g, 0, none⟩) n c) n xs) (i : Nat) : w.frozen? ⟨g, i, none⟩ = false := h.frozenAt i
theorem own_put {w : World} {base g c i : Nat} {ls : List Int} {e : TypeId} (h : w.ownsRow base e 1 (.slice (some ⟨g, 0, none⟩) ls.length c) ls.length (ints ls)) (_hi : i < ls.length) (v : Int) : (w.setCell ⟨g, i, none⟩ (.int .i64 v)).ownsRow base e 1 (.slice (some ⟨g, 0, none⟩) ls.length c) (ls.set i v).length (ints (ls.set i v)) := by
  rcases h.2 with ⟨hv, _⟩ | ⟨g', cap, cur, hv, hb, hh, hc, hm, hsz, ht⟩
  · cases hv
  · simp only [Value.slice.injEq, true_and, Option.some.injEq, Addr.mk.injEq, and_true] at hv
    obtain ⟨rfl, rfl⟩ := hv
    have hp : Blk (w.setCell ⟨g, i, none⟩ (.int .i64 v)) g e (cur.setIfInBounds i (.int .i64 v)) := Blk.set_ (show Blk w g e cur from hh) i _
    refine ⟨by simp [ints], .inr ⟨g, c, cur.setIfInBounds i (.int .i64 v), by rw [List.length_set], hb, hp, by rw [List.length_set]; exact hc, hm, by simpa using hsz, ?_⟩⟩
    rw [List.length_set, Nat.mul_one]
    rw [Nat.mul_one] at ht
    have : (cur.setIfInBounds i (.int .i64 v)).toList = cur.toList.set i (.int .i64 v) := by simp
    rw [this, List.take_set, ht]
    simp [ints, List.map_set]
theorem Ov.put {w : World} {base g c i : Nat} {vt : Value} {sh st : List Int} (h : Ov w base (.slice (some ⟨g, 0, none⟩) sh.length c) vt sh st) (hi : i < sh.length) (v : Int) : Ov (w.setCell ⟨g, i, none⟩ (.int .i64 v)) base (.slice (some ⟨g, 0, none⟩) sh.length c) vt (sh.set i v) st :=
  ⟨own_put h.1 hi v, h.2.1.kept (grown_set w ⟨g, i, none⟩ _) (.inr (h.2.2 g rfl)), h.2.2⟩
theorem Ov.alloc {w : World} {base : Nat} {vs vt : Value} {sh st : List Int} (h : Ov w base vs vt sh st) (o : Obj) : Ov (w.alloc o) base vs vt sh st := h.below ((Below.refl _ _).alloc (Nat.le_refl _) _)
theorem Ov.drew {w : World} {base : Nat} {vs vt : Value} {sh st : List Int} (h : Ov w base vs vt sh st) : Ov w.drew base vs vt sh st := h
theorem Ov.box {w : World} {base b : Nat} {vs vt : Value} {sh st : List Int} {cs : Array Value} (h : Ov w base vs vt sh st) (hb : Blk w b 69 cs) (x y z : Value) : Ov (((w.setCell ⟨b, 0, none⟩ x).setCell ⟨b, 1, none⟩ y).setCell ⟨b, 2, none⟩ z) base vs vt sh st :=
  h.kept (grown_box3 w b x y z) (.inl (own_not_box h.1 hb)) (.inl (own_not_box h.2.1 hb))
theorem Below.box {w W : World} {B b : Nat} (h : Below B w W) (hb : B ≤ b) (x y z : Value) : Below B w (((W.setCell ⟨b, 0, none⟩ x).setCell ⟨b, 1, none⟩ y).setCell ⟨b, 2, none⟩ z) := ((h.setCell hb _).setCell hb _).setCell hb _
/-- Slice's shape, its place. -/
def slv (sh : List Int) (x y z : Int) : List Int := sh.set x.toNat (z - y)
def slo (st : List Int) (off x y : Int) : Int := off + y * st.getD x.toNat 0
end Go.Proofs.Ytlidkeabadioeaa
namespace Go.Proofs.Ytlidkeabadioeaa
open Go.RowKit
attribute [local go_sem ↓] Go.wp_at_zero Go.wp_at_succ

end Go.Proofs.Ytlidkeabadioeaa
namespace Go.Proofs.Ytlidkeabadioeaa
open Go.RowKit

/-- The reference's count. -/
def rct (ls : List Int) : Int := if cnt 1 ls = 0 then 65537 else cnt 1 ls
theorem may_rct {ls : List Int} (h4 : ls.length ≤ 4) : decide (rct ls ≤ 65536) = may ls := by
  unfold rct
  rcases cnt_cases ls 1 (by decide) (by decide) with h | ⟨h1, h2, _, _⟩
  · rw [if_pos h, may_not h]; rfl
  · rw [if_neg (by omega), may_yes h4 (by omega)]; simpa using h2
theorem rct_may {ls : List Int} (h : may ls = true) : rct ls = prod ls := by
  unfold rct
  rw [may_cnt h, if_neg (by have := may_prod h; omega)]

set_option maxRecDepth 100000 in
set_option maxHeartbeats 4000000 in
theorem rcount_any (v : Value) (ls : List Int) (w : World) (h : Ld w v ls) (hd : dms ls) (l4 : ls.length ≤ 1073741824) :
    Calls Try.prog 23 #[v] w fun e w' => e = .returned (.int .i64 (rct ls)) ∧ w = w' := by
  obtain ⟨o, c, rfl, _, hx⟩ := h
  have HX := Lib.hid hx
  have HD := Lib.hid hd
  clear hx hd
  go_enter Try.func23, Try.ntmps23
  go_wp2
  go_loop [3, 4] (fun s3 s4 => ∃ (k : Nat) (m : Int), k ≤ ls.length ∧ 1 ≤ m ∧ m ≤ 65536 ∧ s4 = .int .i64 k ∧ s3 = .int .i64 m ∧ Hid (cnt m (ls.drop k) = cnt 1 ls)) (fun _ s4 => ls.length - (intOf s4).toNat)
  case atStart => exact ⟨0, 1, Nat.zero_le _, by decide, by decide, rfl, rfl, rfl⟩
  case round =>
    obtain ⟨k, m, hk, m0, m1, rfl, rfl, HM⟩ := hrel
    by_cases hlt : k < ls.length
    · obtain ⟨b, f, rfl, hb, hc⟩ := HX.out k hlt
      have st := cnt_step hlt m
      rw [HM.out] at st
      have dd := HD.out _ (getD_mem hlt)
      obtain ⟨d, hd⟩ : ∃ d, d = ls.getD k 0 := ⟨_, rfl⟩
      rw [← hd] at st hc dd
      obtain ⟨d1, d2⟩ := dd
      have dn : ¬ 65536 < d := by omega
      have md : m * d ≤ 65536 * 4096 := Int.mul_le_mul m1 d2 (by omega) (by decide)
      have m2 : 1 ≤ m * d := by have := Int.mul_le_mul m0 d1 (by decide) (by omega); omega
      by_cases g : m * d ≤ 65536
      · rw [if_pos ⟨d1, d2, by rw [Int.mul_comm]; exact g⟩] at st
        have ST := Lib.hid st
        have g' : ¬ 65536 < m * d := by omega
        clear st hd md
        go_wp2
        refine ⟨⟨k + 1, m * d, by omega, m2, g, by go_num, rfl, by unfold Hid; rw [← ST.out]⟩, by simp [intOf]; omega⟩
      · rw [if_neg (by rw [Int.mul_comm]; omega)] at st
        have E : Hid (rct ls = 65537) := by unfold rct; rw [if_pos st]; exact Lib.hid rfl
        have g' : 65536 < m * d := by omega
        clear st hd
        go_wp2
        go_ret
        exact ⟨by rw [E.out]; rfl, rfl⟩
    · have E : Hid (m = rct ls) := by
        have := HM.out
        rw [List.drop_eq_nil_of_le (by omega)] at this
        unfold rct
        rw [← this, if_neg (by show cnt m [] ≠ 0; simp [cnt]; omega)]
        exact Lib.hid rfl
      go_wp2
      go_ret
      exact ⟨by rw [← E.out]; rfl, rfl⟩

set_option maxRecDepth 100000 in
set_option maxHeartbeats 4000000 in
theorem rmay_any (v : Value) (ls : List Int) (w : World) (h : Ld w v ls) (l4 : ls.length ≤ 1073741824) :
    Calls Try.prog 38 #[v] w fun e w' => e = .returned (.bool (may ls)) ∧ w = w' := by
  by_cases h4 : 4 < ls.length
  · have E : Hid (may ls = false) := may_long h4
    obtain ⟨o, c, rfl, _, _⟩ := h
    go_enter Try.func38, Try.ntmps38
    go_wp2
    go_ret
    exact ⟨by rw [E.out]; rfl, rfl⟩
  have C := Lib.hid (fun hd => rcount_any v ls w h hd (by omega))
  obtain ⟨o, c, rfl, _, hx⟩ := h
  have HX := Lib.hid hx
  have HR : Hid (decide (rct ls ≤ 65536) = may ls) := may_rct (by omega)
  clear hx
  go_enter Try.func38, Try.ntmps38
  go_wp2
  go_loop [3] (fun s3 => ∃ k : Nat, k ≤ ls.length ∧ s3 = .int .i64 k ∧ Hid (∀ j, j < k → 1 ≤ ls.getD j 0 ∧ ls.getD j 0 ≤ 4096)) (fun s3 => ls.length - (intOf s3).toNat)
  case atStart => exact ⟨0, Nat.zero_le _, rfl, fun j hj => absurd hj (Nat.not_lt_zero _)⟩
  case round =>
    obtain ⟨k, hk, rfl, HK⟩ := hrel
    by_cases hlt : k < ls.length
    · obtain ⟨b, f, rfl, hb, hc⟩ := HX.out k hlt
      have HN : Hid (¬ (1 ≤ ls.getD k 0 ∧ ls.getD k 0 ≤ 4096) → may ls = false) := fun g => by
        cases h : may ls with
        | false => rfl
        | true => exact absurd (may_dim h hlt) g
      have HG : Hid (1 ≤ ls.getD k 0 ∧ ls.getD k 0 ≤ 4096 → ∀ j, j < k + 1 → 1 ≤ ls.getD j 0 ∧ ls.getD j 0 ≤ 4096) := fun g j hj => by
        by_cases e : j = k
        · subst e; exact g
        · exact HK.out j (by omega)
      generalize ls.getD k 0 = d at *
      by_cases g1 : d < 1
      · have R := Lib.hid (HN.out (by omega))
        go_wp2
        go_ret
        exact ⟨by rw [R.out]; rfl, rfl⟩
      by_cases g2 : 4096 < d
      · have R := Lib.hid (HN.out (by omega))
        go_wp2
        go_ret
        exact ⟨by rw [R.out]; rfl, rfl⟩
      have R := Lib.hid (HG.out (by omega))
      go_wp2
      refine ⟨⟨k + 1, by omega, by go_num, R⟩, by simp [intOf]; omega⟩
    · have hd : dms ls := by
        intro d hm
        obtain ⟨i, hi, rfl⟩ := List.mem_iff_getElem.1 hm
        have := HK.out i (by omega)
        simpa [List.getD, List.getElem?_eq_getElem hi] using this
      have C1 := Lib.hid (C.out hd)
      clear hd
      generalize rct ls = r at *
      go_wp2_with (go_at_call 23; (with_reducible refine C1.out.mono ?_); rintro e w' ⟨rfl, rfl⟩)
      go_ret
      exact ⟨by rw [← HR.out]; rfl, rfl⟩

end Go.Proofs.Ytlidkeabadioeaa
namespace Go.Proofs.Ytlidkeabadioeaa
open Go.RowKit



/-- Where a place's index is being told. -/
def Ati (s : List Int) (n N : Int) (k : Nat) : Prop := k ≤ s.length ∧ 0 ≤ N ∧ N < prod (s.drop k) ∧ atl (s.drop k) N = (atl s n).drop k
theorem ati_start {s : List Int} {n : Int} (h0 : 0 ≤ n) (h1 : n < prod s) : Ati s n n 0 := ⟨Nat.zero_le _, h0, by simpa using h1, by simp⟩
theorem ati_step {s : List Int} {n N : Int} {k : Nat} (h : Ati s n N k) (hp : pos s) (hk : k < s.length) : Ati s n (N % prod (s.drop (k + 1))) (k + 1) ∧ (atl s n).getD k 0 = N / prod (s.drop (k + 1)) := by
  obtain ⟨a, b, c, d⟩ := h
  have q := prod_pos (pos_drop hp (k + 1))
  rw [drop_getD hk, atl, drop_getD (show k < (atl s n).length by rw [atl_len]; exact hk)] at d
  simp only [List.cons.injEq] at d
  exact ⟨⟨by omega, Int.emod_nonneg _ (by omega), Int.emod_lt_of_pos _ (by omega), d.2⟩, d.1.symm⟩
theorem ati_bd {s : List Int} {n N : Int} {k : Nat} (h : Ati s n N k) (hm : may s = true) : 0 ≤ N ∧ N ≤ 65536 := by
  have := may_drop hm k
  exact ⟨h.2.1, by have := h.2.2.1; omega⟩


end Go.Proofs.Ytlidkeabadioeaa
namespace Go.Proofs.Ytlidkeabadioeaa
open Go.RowKit

theorem gr_max {x y : Int} (hx : 1 ≤ x) (hy : 1 ≤ y) (h : x = y ∨ x = 1 ∨ y = 1) : gr x y = if x < y then y else x := by
  unfold gr
  split <;> split <;> omega


theorem spv_len {a b : List Int} (ha : a.length ≤ 4) (hb : b.length ≤ 4) : (spv a b).length ≤ 4 := by
  unfold spv
  split
  · unfold spr; rw [spl_len]; unfold mx; omega
  · simp

end Go.Proofs.Ytlidkeabadioeaa
namespace Go.Proofs.Ytlidkeabadioeaa
open Go.RowKit
attribute [local go_sem ↓] Go.wp_at_zero Go.wp_at_succ

theorem grown_drw {w W : World} {r : Option Nat} (h : w.grownBy W r) (n : Nat) : w.grownBy (W.drewN n) r := ⟨h.os, h.tape, h.output, h.size, h.block⟩
theorem grown_put {w W : World} {g k : Nat} (h : w.grownBy W (some g)) (v : Value) : w.grownBy (W.setCell ⟨g, k, none⟩ v) (some g) :=
  ⟨h.os, h.tape, h.output, by simpa using h.size, fun j hj hne => (Below.heap_setCell _ _ _ j (fun e => hne (by rw [e]))).trans (h.block j hj hne)⟩
theorem grown_cell {w W : World} {g : Nat} (h : w.grownBy W (some g)) {b i : Nat} {v : Value} (hb : b < w.heap.size) (hne : b ≠ g) (hc : w.cell? ⟨b, i, none⟩ = some v) : W.cell? ⟨b, i, none⟩ = some v := by
  rw [← hc]; simp [World.cell?, h.block b hb (by simpa using hne)]
theorem own_box {w : World} {base n b : Nat} {v : Value} {xs : List Value} {cs : Array Value} (h : w.ownsRow base 3 1 v n xs) (hb : Blk w b 69 cs) (x y z : Value) : (((w.setCell ⟨b, 0, none⟩ x).setCell ⟨b, 1, none⟩ y).setCell ⟨b, 2, none⟩ z).ownsRow base 3 1 v n xs :=
  h.kept (grown_box3 w b x y z) (.inr (own_not_box h hb))
theorem blk_apart {w : World} {g b : Nat} {cs cs' : Array Value} (h : Blk w g 3 cs) (hb : Blk w b 69 cs') : ¬ g = b := fun e => by
  subst e
  have := h.symm.trans hb
  simp at this
theorem blk_box3 {w : World} {g b : Nat} {cs cs' : Array Value} (h : Blk w g 3 cs) (hb : Blk w b 69 cs') (x y z : Value) : Blk (((w.setCell ⟨b, 0, none⟩ x).setCell ⟨b, 1, none⟩ y).setCell ⟨b, 2, none⟩ z) g 3 cs :=
  h.kept (grown_box3 w b x y z) (fun e => blk_apart h hb (Option.some.inj e))
theorem blk_new1 (w : World) (o : Obj) (t : TypeId) (cs : Array Value) : Blk ((w.alloc o).alloc (.cells cs t)) (w.heap.size + 1) t cs := by
  have := Blk.new (w.alloc o) t cs
  rwa [World.size_alloc] at this
theorem wsn_put {sh st s : List Int} {k a : Nat} (ha : s.length - sh.length = a) (e : sh.getD k 0 = s.getD (k + a) 0) : wsn sh st s (k + 1) = (wsn sh st s k).set (k + a) (st.getD k 0) := by subst ha; exact if_pos e
theorem wsn_skip {sh st s : List Int} {k a : Nat} (ha : s.length - sh.length = a) (e : ¬ sh.getD k 0 = s.getD (k + a) 0) : wsn sh st s (k + 1) = wsn sh st s k := by subst ha; exact if_neg e

end Go.Proofs.Ytlidkeabadioeaa
