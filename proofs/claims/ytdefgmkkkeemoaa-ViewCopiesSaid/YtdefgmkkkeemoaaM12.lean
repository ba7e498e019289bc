/-
  view.places: where a view's indexes stand, one behind the other.
  A region that draws its order of evaluation, within a round of a loop over an iterator: as outside of one, where no statement defers.
  Lists of words: alike? all words?
  The program's look for numbers that are no words.
-/
import Derived.Deep.RegionHeld3
import Derived.OrdersIn
import Derived.OwnWalkIn
import Derived.Test.YtdefgmkkkeemoaaM01
import Derived.Test.YtdefgmkkkeemoaaM02
import Derived.Test.YtdefgmkkkeemoaaM04
import Derived.Test.YtdefgmkkkeemoaaM11
namespace Go.Proofs.Ytdefgmkkkeemoaa
open Go.RowKit Go.Shelf
attribute [local go_sem] Oper.semAt_some

/-- A place, from the first number on. -/
def Dt (st i : List Int) (T p : Int) (k : Nat) : Prop := k ≤ st.length ∧ 0 ≤ p ∧ p + dot (st.drop k) (i.drop k) = T
theorem dot_nn : ∀ {st i : List Int}, (∀ s ∈ st, 0 ≤ s) → (∀ x ∈ i, 0 ≤ x) → 0 ≤ dot st i
  | [], _, _, _ => by simp [dot]
  | _ :: _, [], _, _ => by simp [dot]
  | s :: r, x :: t, hs, hi => by
    have h1 := hs s (List.mem_cons_self ..)
    have h2 := hi x (List.mem_cons_self ..)
    have ih := dot_nn (st := r) (i := t) (fun y hy => hs y (List.mem_cons_of_mem _ hy)) (fun y hy => hi y (List.mem_cons_of_mem _ hy))
    have := Int.mul_nonneg h2 h1
    simp only [dot]
    omega
theorem dt_step {st i : List Int} {T p : Int} {k : Nat} (h : Dt st i T p k) (hl : st.length = i.length) (hs : ∀ s ∈ st, 0 ≤ s) (hi : ∀ x ∈ i, 0 ≤ x) (hk : k < st.length) :
    Dt st i T (p + i.getD k 0 * st.getD k 0) (k + 1) ∧ 0 ≤ i.getD k 0 * st.getD k 0 ∧ i.getD k 0 * st.getD k 0 ≤ T ∧ p + i.getD k 0 * st.getD k 0 ≤ T ∧ 0 ≤ p + i.getD k 0 * st.getD k 0 := by
  obtain ⟨a, b, c⟩ := h
  have h1 := hs _ (getD_mem hk)
  have h2 := hi _ (getD_mem (show k < i.length by omega))
  have h3 := Int.mul_nonneg h2 h1
  have h4 := dot_nn (st := st.drop (k + 1)) (i := i.drop (k + 1)) (fun s hs' => hs s (List.mem_of_mem_drop hs')) (fun x hx => hi x (List.mem_of_mem_drop hx))
  rw [dot_step hl hk] at c
  exact ⟨⟨by omega, by omega, by omega⟩, h3, by omega, by omega, by omega⟩
theorem dt_end {st i : List Int} {T p : Int} (h : Dt st i T p st.length) (hl : st.length = i.length) : p = T := by
  obtain ⟨_, _, c⟩ := h
  rw [List.drop_length, hl, List.drop_length] at c
  simpa [dot] using c
theorem atl_nn {s : List Int} {n : Int} (h : pos s) (h0 : 0 ≤ n) (h1 : n < prod s) : ∀ x ∈ atl s n, 0 ≤ x := by
  intro x hx
  obtain ⟨i, hi, rfl⟩ := List.mem_iff_getElem.1 hx
  have hh := inx_iff.1 (atl_inx s n h h0 h1)
  have := hh.2 i (by rw [hh.1]; exact hi)
  simpa [List.getD, List.getElem?_eq_getElem hi] using this.1

/-- What a round of a loop over places must keep. -/
def KV (S : Nat → Prop) (W W' : World) : Prop := (∀ k, S k → W'.heap[k]? = W.heap[k]?) ∧ ∀ (k : Nat) (cs : Array Value) (t : TypeId) (fz : Nat × Nat), W.heap[k]? = some (Obj.cells cs t fz) → t = 3 ∨ t = 23 ∨ t = 91 → W'.heap[k]? = W.heap[k]?
theorem KV.trans {S : Nat → Prop} {a b c : World} (h : KV S a b) (k : KV S b c) : KV S a c :=
  ⟨fun i hi => (k.1 i hi).trans (h.1 i hi), fun i cs t fz e ht => (k.2 i cs t fz ((h.2 i cs t fz e ht).trans e) ht).trans (h.2 i cs t fz e ht)⟩
/-- The pair that is told. -/
def plc (sh st : List Int) (off : Int) (x : Nat) : Array Value := #[.int .i64 (x : Nat), .int .i64 (off + dot st (atl sh (x : Nat)))]
theorem ld_kept {W W' : World} {row : Option Nat} {v : Value} {ls : List Int} (h : Ld W v ls) (hg : W.grownBy W' row) (hr : ∀ r, row = some r → ∃ o : Obj, W.heap[r]? = some o ∧ o.isCells = false) : Ld W' v ls := by
  obtain ⟨o, c, rfl, hc, hx⟩ := h
  refine ⟨o, c, rfl, hc, fun i hi => ?_⟩
  obtain ⟨b, f, e, hb, hcell⟩ := hx i hi
  exact ⟨b, f, e, Nat.lt_of_lt_of_le hb hg.size, cell_kept hcell hg hr⟩
theorem own_kept {W W' : World} {row : Option Nat} {base n : Nat} {e : TypeId} {v : Value} {xs : List Value} (h : W.ownsRow base e 1 v n xs) (hg : W.grownBy W' row) (hr : ∀ r, row = some r → ∃ o : Obj, W.heap[r]? = some o ∧ o.isCells = false) : W'.ownsRow base e 1 v n xs := by
  refine h.kept hg ?_
  rcases h.2 with ⟨rfl, _⟩ | ⟨g, cap, cur, rfl, _, hh, _⟩
  · exact .inl rfl
  · right
    intro e2
    obtain ⟨o, ho, hc⟩ := hr g e2.symm
    rw [hh] at ho
    cases ho
    cases hc
theorem OwnFrom.mono {β : Type} {B B' : Nat} {I : β → World → Prop} (h : OwnFrom B I) (hb : B ≤ B') : OwnFrom B' I := fun s W W' row hs hg hr => h s W W' row hs hg (fun r e => ⟨Nat.le_trans hb (hr r e).1, (hr r e).2⟩)
/-- What the iterator of places keeps. -/
def Pl (W : World) (bV By : Nat) (l : Nat) (vs vt : Value) (off : Int) (st : List Int) (base B1 B2 : Nat) (N : Int) (o : Option Addr) (c : Nat) (sh : List Int) : Prop := Blk W bV 25 #[vs, vt, .int .i64 off] ∧ Ld W vt st ∧ Boxed W By 91 (.func (.yield l) #[] #[]) ∧ AllBox2 W base B1 B2 N o c sh
theorem pl_own {β : Type} (bV By l : Nat) (vs vt : Value) (off : Int) (st : List Int) (base B1 B2 : Nat) (N : Int) (o : Option Addr) (c : Nat) (sh : List Int) : Own (fun (_ : β) W => Pl W bV By l vs vt off st base B1 B2 N o c sh) := fun s X Y row hs hg hr =>
  ⟨blk_own (β := β) bV _ (fun _ => _) s X Y row hs.1 hg hr, ld_kept hs.2.1 hg hr, boxed_own (β := β) _ _ (fun _ => _) s X Y row hs.2.2.1 hg hr, boxed_own (β := β) _ _ (fun _ => _) s X Y row hs.2.2.2.1 hg hr, boxed_own (β := β) _ _ (fun _ => _) s X Y row hs.2.2.2.2.1 hg hr, own_kept hs.2.2.2.2.2 hg hr⟩
/-- A round keeps it. -/
theorem pl_kv {S : Nat → Prop} {W W' : World} {bV By l : Nat} {vs vt : Value} {off : Int} {st : List Int} {base B1 B2 : Nat} {N : Int} {o : Option Addr} {c : Nat} {sh : List Int} (h : Pl W bV By l vs vt off st base B1 B2 N o c sh) (hk : KV S W W') (hsz : W.heap.size ≤ W'.heap.size) (hV : S bV) (hT : ∀ i, i < st.length → ∃ b f c, vt = .slice (some ⟨b, f, none⟩) st.length c ∧ S b) :
    Pl W' bV By l vs vt off st base B1 B2 N o c sh ∧ Kp3 B1 B2 o W W' := by
  obtain ⟨h1, h2, h3, h4, h5, h6⟩ := h
  have k4 := hk.2 B1 _ _ _ h4 (.inl rfl)
  have k5 := hk.2 B2 _ _ _ h5 (.inr (.inl rfl))
  have k6 : ∀ g, o = some ⟨g, 0, none⟩ → W'.heap[g]? = W.heap[g]? := by
    intro g e
    rcases h6.2 with ⟨e1, _⟩ | ⟨g', cap, cur, e1, _, hh, _⟩
    · simp only [Value.slice.injEq] at e1
      rw [e1.1] at e; cases e
    · simp only [Value.slice.injEq] at e1
      rw [e1.1] at e
      simp only [Option.some.injEq, Addr.mk.injEq, and_true] at e
      subst e
      exact hk.2 _ _ _ _ hh (.inl rfl)
  have kp : Kp3 B1 B2 o W W' := ⟨k4, k5, k6⟩
  refine ⟨⟨(hk.1 bV hV).trans h1, ?_, (hk.2 By _ _ _ h3 (.inr (.inr rfl))).trans h3, k4.trans h4, k5.trans h5, kp.own h6⟩, kp⟩
  obtain ⟨o2, c2, rfl, hc, hx⟩ := h2
  refine ⟨o2, c2, rfl, hc, fun i hi => ?_⟩
  obtain ⟨b, f, e, hb, hcell⟩ := hx i hi
  obtain ⟨b', f', c', e2, hS⟩ := hT i hi
  simp only [Value.slice.injEq] at e2
  rw [e] at e2
  simp only [Option.some.injEq, Addr.mk.injEq, and_true] at e2
  refine ⟨b, f, e, by omega, ?_⟩
  rw [← hcell]
  simp [World.cell?, hk.1 b (by rw [e2.1.1]; exact hS)]

set_option maxRecDepth 100000 in
set_option maxHeartbeats 4000000 in
theorem places1_told (n : Nat) (h5 : 5 ≤ n) (S : Nat → Prop) (bV : Nat) (vs vt : Value) (sh st : List Int) (off : Int) (N : Nat) (w : World) (hbV : Blk w bV 25 #[vs, vt, .int .i64 off]) (hs : Ld w vs sh) (ht : Ld w vt st) (hm : may sh = true) (hl : st.length = sh.length) (hst : sts st) (ho : 0 ≤ off) (hfar : off + far st sh < 65536) (hN : (N : Int) = prod sh)
    (hV : S bV) (hT : ∀ i, i < st.length → ∃ b f c, vt = .slice (some ⟨b, f, none⟩) st.length c ∧ S b) :
    SeqTold2 Fence.wide n Try.prog 74 #[.pointer (some ⟨bV, 0, none⟩)] (plc sh st off) (KV S) (fun pre x _ => x = pre.length) (fun ys => ys.length = N) (fun pre => pre.length ≤ N) N w := by
  intro l J Jx W hW hlW hJ hJx hY h0
  have hN6 : N ≤ 65536 := by have := may_prod hm; omega
  have HW1 : Below W.heap.size W (W.alloc (.cells #[.func (.yield l) #[] #[]] 91)) := (Below.refl _ _).alloc (Nat.le_refl _) _
  have hsW := hs.below hW
  have htW := ht.below hW
  have bW := hbV.below hW hbV.lt
  have CA : Hid (∀ m, (W.alloc (.cells #[.func (.yield l) #[] #[]] 91)).heap.size = m → Calls Try.prog 75 #[vs] (W.alloc (.cells #[.func (.yield l) #[] #[]] 91)) fun e w' => ∃ B1 B2 o c, e = .returned (.func (.func 79) #[] #[.pointer (some ⟨B1, 0, none⟩), .pointer (some ⟨B2, 0, none⟩)]) ∧ AllBox2 w' m B1 B2 N o c sh ∧ m ≤ B1 ∧ m ≤ B2 ∧ Below m (W.alloc (.cells #[.func (.yield l) #[] #[]] 91)) w') := fun m hmm => by
    subst hmm
    have := all2_any vs sh _ (hsW.below HW1) (by have := may_len hm; omega)
    rw [hm, if_pos rfl, ← hN] at this
    exact this
  replace CA := Lib.hid (CA.out (W.heap.size + 1) (by simp))
  have BV1 := Lib.hid (bW.alloc (.cells #[.func (.yield l) #[] #[]] 91))
  obtain ⟨c0, c1, c2, _⟩ := blk3 BV1.out
  have l4 := may_len hm
  have HP := Lib.hid (And.intro hm (And.intro hl (And.intro hst (And.intro hfar hN))))
  obtain ⟨os, cs, rfl, _, _⟩ := hsW
  obtain ⟨ot, ct, rfl, _, _⟩ := id htW
  have HTW := Lib.hid htW
  clear hs ht hbV hst hfar hN htW
  refine callsIn_of_wp_marks Try.func74 rfl trivial ?_
  simp only [Try.ntmps74, List.size_toArray, List.length_cons, List.length_nil, Nat.reduceAdd, Nat.reduceSub, Array.replicate_succ, Array.replicate_zero, List.push_toArray, List.append_toArray, List.nil_append, List.cons_append]
  refine wpIn_wide.2 ?_
  go_wp2_with (go_at_call 75; (with_reducible refine CA.out.mono ?_); rintro e w3 ⟨B1, B2, o3, c3, rfl, hbox, hB1, hB2, hb3⟩)
  have by0 : Boxed w3 W.heap.size 91 (.func (.yield l) #[] #[]) := (hb3.block W.heap.size (by omega)).trans (Boxed.new W _ _)
  have P0 : Pl w3 bV W.heap.size l (.slice os sh.length cs) (.slice ot st.length ct) off st (W.heap.size + 1) B1 B2 N o3 c3 sh :=
    ⟨BV1.out.below hb3 (by have := bW.lt; omega), (HTW.out.below HW1).keep (by simp) hb3, by0, hbox⟩
  have BW3 : Below W.heap.size W w3 := HW1.trans (hb3.mono (by omega))
  have J3 : J [] w3 := hJ [] W w3 none h0 ⟨BW3.os, BW3.tape, BW3.output, BW3.size, fun k hk _ => BW3.block k hk⟩ (fun r e => by cases e)
  have s3 := BW3.size
  have TO := Lib.hid (all3_told (n - 1) (W.heap.size + 1) B1 B2 N (by omega) o3 c3 sh hN6 (fun _ => ⟨HP.out.1, HP.out.2.2.2.2.symm⟩) w3 hbox)
  have HPL := Lib.hid P0
  clear hbox by0 P0 hb3 CA
  refine (wpIn_wide (n := n)).1 ?_
  refine wpIn_rangeFunc_told (F := Fence.wide) (n := n) rfl (by omega) (gf := 79) (lb := #[.pointer (some ⟨B1, 0, none⟩), .pointer (some ⟨B2, 0, none⟩)]) rfl trivial (enters_of Try.func79 (by kernel_rfl) rfl)
    TO.out Kp3.trans ?keepb (fun _ => rfl)
    (fun pre W' => J (List.range pre.length) W' ∧ Pl W' bV W.heap.size l (.slice os sh.length cs) (.slice ot st.length ct) off st (W.heap.size + 1) B1 B2 N o3 c3 sh)
    (fun cd pre W' => cd = .ret ∧ Jx (List.range pre.length) W')
    ?ownI ?ownX ?ownT ⟨J3, HPL.out⟩ ?a1 ?assign ?body ?done ?stop
  case keepb =>
    intro X k o o' hk _ _ _
    have hb1 := HPL.out.2.2.2.1.lt
    have hb2 := HPL.out.2.2.2.2.1.lt
    refine ⟨World.putObj_heap_other (by omega), World.putObj_heap_other (by omega), fun g e => World.putObj_heap_other ?_⟩
    subst e
    have := (HPL.out.2.2.2.2.2.lt g rfl).2
    omega
  case ownI => exact OwnFrom.and (fun s X Y row hs hg hr => hJ _ X Y row hs hg (fun r e => ⟨Nat.le_trans s3 (hr r e).1, (hr r e).2⟩)) ((pl_own (β := List (Nat × Nat)) bV W.heap.size l (.slice os sh.length cs) (.slice ot st.length ct) off st (W.heap.size + 1) B1 B2 N o3 c3 sh).from _)
  case ownX => exact fun cd => OwnFrom.and (fun _ _ _ _ h _ _ => h) (fun s X Y row hs hg hr => hJx _ X Y row hs hg (fun r e => ⟨Nat.le_trans s3 (hr r e).1, (hr r e).2⟩))
  case ownT => exact fun pre x => OwnFrom.and (fun _ _ _ _ h _ _ => h) (Own.from (blk_own _ _ (fun _ => _)) _)
  case assign =>
    intro l2 x X K hK
    unfold apr
    gi_wp2
    exact hK
  case body =>
    rintro l2 pre x X ⟨hJs, hPl⟩ hlt ⟨hx1, hx2⟩
    obtain ⟨xn, xg⟩ := x
    simp only at hx1 hx2
    subst hx1
    obtain ⟨c0, c1, c2, _⟩ := blk3 hPl.1
    obtain ⟨hm', hl', hst', hfar', hN'⟩ := HP.out
    have hp := may_pos hm'
    have h0n : (0 : Int) ≤ (pre.length : Nat) := by omega
    have h1n : ((pre.length : Nat) : Int) < prod sh := by omega
    have hlen := atl_len sh (pre.length : Nat)
    have hinx := atl_inx sh (pre.length : Nat) hp h0n h1n
    have hdb := dot_bd hl' hst' hinx
    have hnn := atl_nn hp h0n h1n
    have HD := Lib.hid (And.intro hst' (And.intro hnn (And.intro hl' hlen)))
    have HXB := Lib.hid hx2
    have HPQ := Lib.hid hPl
    have hy0 := hY (List.range pre.length) pre.length X hJs (by simpa using hlt) (by simp)
    unfold plc at hy0
    obtain ⟨fn, tmps, assign, body, hy, hR⟩ := hy0
    have HR := Lib.hid hR
    have HLD := Lib.hid hPl.2.1
    have by1 := hPl.2.2.1.cell
    have EQ1 : Hid (List.range pre.length ++ [pre.length] = List.range (pre ++ [(pre.length, xg)]).length) := by
      rw [List.length_append, List.length_singleton, List.range_succ]; exact Lib.hid rfl
    generalize hT0 : off + dot st (atl sh (pre.length : Nat)) = T at *
    have hTT : 0 ≤ T ∧ T ≤ 65536 := by omega
    have DS : Hid (Dt st (atl sh (pre.length : Nat)) T off 0) := ⟨Nat.zero_le _, ho, by simpa using hT0⟩
    clear hx2 hPl hJs hm' hl' hst' hfar' hN' hp hinx hdb hnn hR hT0
    generalize atl sh (pre.length : Nat) = ix0 at *
    have hoff : off ≤ 65536 := by
      have := DS.out.2.2
      have h2 := dot_nn (st := st) (i := ix0) (fun s hs => (HD.out.1 s hs).1) HD.out.2.1
      simp at this
      omega
    gi_wp2
    gi_loopw [5, 18] (fun s5 s18 wr => ∃ (k : Nat) (p : Int), k ≤ st.length ∧ 0 ≤ p ∧ p ≤ 65536 ∧ s18 = .int .i64 k ∧ s5 = .int .i64 p ∧ Hid (Dt st ix0 T p k) ∧ X = wr) (fun _ s18 _ => st.length - (intOf s18).toNat)
    case atStart => exact ⟨0, off, Nat.zero_le _, ho, hoff, rfl, rfl, DS, rfl⟩
    case round =>
      obtain ⟨k, p, hk, p0, p1, rfl, rfl, HK, rfl⟩ := hrel
      by_cases hlt2 : k < st.length
      · obtain ⟨o2, c2', e2, _, hx⟩ := HLD.out
        simp only [Value.slice.injEq] at e2
        obtain ⟨rfl, _, rfl⟩ := e2
        obtain ⟨b2, f2, rfl, _, xc⟩ := hx k hlt2
        have kx := HXB.out.cell k
        have hi := HD.out.2.2.2
        have hl2 := HD.out.2.2.1
        rw [ints_at (by omega)] at kx
        obtain ⟨st1, t0, t1, t2, t3⟩ := dt_step HK.out (by omega) (fun s hs => (HD.out.1 s hs).1) HD.out.2.1 hlt2
        have ST := Lib.hid st1
        have klt : k < sh.length := by omega
        clear st1 hx hi hl2
        generalize ix0.getD k 0 = y at *
        generalize st.getD k 0 = s at *
        have q1 : y * s ≤ 65536 := by omega
        have q2 : p + y * s ≤ 65536 := by omega
        gi_wp2
        go_roundw
        case rel => exact ⟨k + 1, p + y * s, by omega, t3, q2, by go_num, rfl, ST, by first | trivial | rfl⟩
        case measure => simp [intOf]; omega
      · obtain rfl : k = st.length := by omega
        obtain rfl := dt_end HK.out (by have := HD.out.2.2; omega)
        gi_wp2
        refine ⟨(fun h => by cases h), (round_any HR.out).mono ?_⟩
        rintro e W3 ⟨hkf, (⟨rfl, hJ3, hk3⟩ | ⟨rfl, hJx3⟩)⟩
        · obtain ⟨hp3, hkp3⟩ := pl_kv HPQ.out hk3 hkf.size hV hT
          rw [EQ1.out] at hJ3
          have F3 := Lib.hid (And.intro (⟨hkf.size, fun i o hi hx hc => hkf.same i o (Nat.le_trans s3 hi) hx hc⟩ : KeepsFrom w3.heap.size X W3) (And.intro hkp3 (And.intro hJ3 hp3)))
          clear hkf hJ3 hk3 hp3 hkp3
          gi_wp2
          exact F3.out
        · rw [EQ1.out] at hJx3
          have F3 := Lib.hid (And.intro (⟨hkf.size, fun i o hi hx hc => hkf.same i o (Nat.le_trans s3 hi) hx hc⟩ : KeepsFrom w3.heap.size X W3) hJx3)
          clear hkf hJx3
          gi_wp2
          exact ⟨F3.out.1, rfl, F3.out.2⟩
  case done =>
    rintro D ys X hD hys ⟨hJs, _⟩ hK
    have hf := hJ.putObj (.deferred none) hJs (Nat.le_trans s3 hD) hK rfl
    go_wp2
    refine ⟨by simp, .inl ⟨_, _, rfl, run_takeDeferred hK, ?_⟩⟩
    refine ⟨_, results_none rfl _ _ _, ⟨_, rfl⟩, .inl ⟨List.range ys.length, by simp [hys], hf⟩⟩
  case stop =>
    rintro D cd pre X hD hpre ⟨rfl, hJs⟩ hK
    have hf := hJx.putObj (.deferred none) hJs (Nat.le_trans s3 hD) hK rfl
    gi_wp2
    go_wp2
    refine ⟨by simp, .inl ⟨_, _, rfl, run_takeDeferred hK, ?_⟩⟩
    refine ⟨_, results_none rfl _ _ _, ⟨_, rfl⟩, .inr ⟨List.range pre.length, by simpa using hpre, hf⟩⟩
end Go.Proofs.Ytdefgmkkkeemoaa
namespace Go.Proofs.Ytdefgmkkkeemoaa
open Go Go.RowKit

/-- No defer statement? -/
def nodf : Op → Bool
  | .defer _ => false
  | _ => true
theorem rows_in {P : Program} {n l : Nat} {row : String} {args : Array Value} {w : World} {R : Value → World → Prop} (h : Rows P row args w R) : RowsIn (Fence.wide.inRound l) n P row args w R := fun c cs _ =>
  let ⟨v, w', r, s⟩ := h c cs
  ⟨v, w', r, stepsIn_wide.2 s⟩
theorem oper_in {P : Program} {n l : Nat} {o : Oper} {a : Act} {w : World} {K : Act → World → Prop} {Q : Exit → Act → World → Prop} (hd : nodf o.op = true) (h : o.wp P a w K Q) : o.wpIn (Fence.wide.inRound l) n P a w K Q := by
  refine ⟨fun _ _ => trivial, ?_⟩
  rw [Oper.semAt_plain _ _ _ (fun c hc => by rw [hc] at hd; cases hd)]
  unfold Oper.wp at h
  generalize (execOp a.eval o).run P w = r at *
  cases r with
  | ok x w' =>
    cases x <;> simp only [Oper.uponIn, Oper.upon] at h ⊢ <;>
      first
        | exact h
        | exact ⟨(fun h0 => by cases h0), callsIn_wide.2 h⟩
        | exact ⟨(fun h0 => by cases h0), rows_in h⟩
  | halt x w' => cases x <;> simp only [Oper.uponIn, Oper.upon] at h ⊢ <;> exact h
theorem any_in {P : Program} {n l : Nat} {md : Region.Mode} {ops : Array Oper} {Q : Exit → Act → World → Prop} (hd : (ops.toList.all fun o => nodf o.op) = true) (hQ : ¬ LetsOut Q) :
    ∀ (fuel : Nat) (listed : Array Bool) (a : Act) (w : World), wpAny P md ops Q fuel listed a w → wpAnyIn (Fence.wide.inRound l) n P md ops Q fuel listed a w
  | 0, _, _, _, h => h
  | fuel + 1, listed, a, w, h => by
    refine ⟨h.1, fun i hi => ?_⟩
    have h1 := h.2 i hi
    unfold wpOp at h1
    unfold wpOpIn
    cases e : ops[i]? with
    | none =>
      simp only [e] at h1 ⊢
      exact any_in hd hQ fuel _ _ _ h1
    | some o =>
      have ho : nodf o.op = true := by
        have := List.all_eq_true.1 hd o (by
          have h2 := Array.getElem?_eq_some_iff.1 e
          rw [← h2.2]; simp)
        simpa using this
      simp only [e] at h1 ⊢
      split
      · rename_i hw
        simp only [hw, if_true] at h1
        rcases h1 with h1 | ⟨_, h1⟩
        · exact Oper.wpIn_mono (fun a' w' h' => any_in hd hQ fuel _ _ _ h') (oper_in ho h1)
        · exact absurd h1 hQ
      · rename_i hw
        simp only [hw] at h1
        exact ⟨fun _ _ => trivial, any_in hd hQ fuel _ _ _ h1⟩
theorem region_in {P : Program} {n l id : Nat} {ops : Array Oper} {R : World → Prop} {S : World → Prop} {a : Act} {W : World} (hd : (ops.toList.all fun o => nodf o.op) = true) (hm : P.follows .mixedOrders = true) (hS : S W.drew)
    (h : S W.drew → wpAnyH P .any ops (fun e _ W2 => e = .normal ∧ R W2) S ops.size (Array.replicate ops.size false) a W.drew) : (Code.region id ops true).wpIn (Fence.wide.inRound l) n P (fun e _ W2 => e = .normal ∧ R W2) a W :=
  wpIn_region_any hm (any_in hd (fun ⟨_, _, h⟩ => by cases h.1) _ _ _ _ (wpAny_of_held _ _ _ _ (h hS)))
end Go.Proofs.Ytdefgmkkkeemoaa
namespace Go.Proofs.Ytdefgmkkkeemoaa
open Go.RowKit

set_option maxRecDepth 100000 in
set_option maxHeartbeats 4000000 in
theorem eqw_any (va vb : Value) (a b : List Int) (w : World) (ha : Ld w va a) (hb : Ld w vb b) (la : a.length ≤ 17592186044416) (_lb : b.length ≤ 17592186044416) :
    Calls Try.prog 40 #[va, vb] w fun e w' => e = .returned (.bool (decide (a = b))) ∧ Below w.heap.size w w' := by
  obtain ⟨oa, ca, rfl, _, hxa⟩ := ha
  obtain ⟨ob, cb, rfl, _, hxb⟩ := hb
  have HA := Lib.hid hxa
  have HB := Lib.hid hxb
  clear hxa hxb
  by_cases hl : a.length = b.length
  · have HL := Lib.hid hl
    have HX : Hid ((∀ k, k < a.length → a.getD k 0 = b.getD k 0) → a = b) := ext_getD hl
    rw [← hl]
    clear hl _lb
    go_enter Try.func40, Try.ntmps40
    go_wp2
    go_loopw [5] (fun s5 wr => ∃ k : Nat, k ≤ a.length ∧ s5 = .int .i64 k ∧ Hid (∀ j, j < k → a.getD j 0 = b.getD j 0) ∧ Below w.heap.size w wr) (fun s5 _ => a.length - (intOf s5).toNat)
    case atStart => exact ⟨0, Nat.zero_le _, rfl, fun j hj => absurd hj (Nat.not_lt_zero _), Below.refl _ _⟩
    case round =>
      obtain ⟨k, hk, rfl, HK, hW⟩ := hrel
      by_cases hlt : k < a.length
      · obtain ⟨b1, f1, rfl, h1, c1⟩ := HA.out k hlt
        obtain ⟨b2, f2, rfl, h2, c2⟩ := HB.out k (by have := HL.out; omega)
        have c1' : wr.cell? ⟨b1, f1 + k, none⟩ = some (.int .i64 (a.getD k 0)) := (hW.cell (p := ⟨b1, f1 + k, none⟩) h1).trans c1
        have c2' : wr.cell? ⟨b2, f2 + k, none⟩ = some (.int .i64 (b.getD k 0)) := (hW.cell (p := ⟨b2, f2 + k, none⟩) h2).trans c2
        have HG : Hid (a.getD k 0 = b.getD k 0 → ∀ j, j < k + 1 → a.getD j 0 = b.getD j 0) := fun g j hj => by
          by_cases e : j = k
          · subst e; exact g
          · exact HK.out j (by omega)
        have HN : Hid (¬ a.getD k 0 = b.getD k 0 → decide (a = b) = false) := fun g => decide_eq_false (fun e => g (by rw [e]))
        clear c1 c2
        generalize a.getD k 0 = x at *
        generalize b.getD k 0 = y at *
        by_cases g : x = y
        · subst g
          have R := Lib.hid (HG.out rfl)
          go_wp2
          go_quiet (fail)
          go_wp2
          exact ⟨⟨k + 1, by omega, by go_num, R, by first | exact below_drw hW _ | exact hW⟩, by simp [intOf]; omega⟩
        · have R := Lib.hid (HN.out g)
          have g' : (x != y) = true := by rw [bne_iff_ne]; exact g
          clear g
          go_wp2
          go_quiet (fail)
          go_wp2
          go_ret
          exact ⟨by rw [R.out]; rfl, by first | exact below_drw hW _ | exact hW⟩
      · have e : Hid (decide (a = b) = true) := decide_eq_true (HX.out fun j hj => HK.out j (by omega))
        go_wp2
        go_ret
        exact ⟨by rw [e.out]; rfl, hW⟩
  · have e : Hid (decide (a = b) = false) := decide_eq_false (fun e => hl (by rw [e]))
    have hl2 : ((a.length : Int) != (b.length : Int)) = true := by rw [bne_iff_ne]; omega
    clear hl
    go_enter Try.func40, Try.ntmps40
    go_wp2
    go_ret
    exact ⟨by rw [e.out]; rfl, Below.refl _ _⟩

/-- Words alone? -/
def wds (l : List Int) : Bool := l.all fun x => decide (-140737488355328 < x) && decide (x < 140737488355328)
theorem wds_at {l : List Int} (h : wds l = true) {k : Nat} (hk : k < l.length) : -140737488355328 < l.getD k 0 ∧ l.getD k 0 < 140737488355328 := by
  unfold wds at h
  rw [List.all_eq_true] at h
  have := h (l.getD k 0) (getD_mem hk)
  simpa using this
theorem wds_no {l : List Int} {k : Nat} (hk : k < l.length) (h : ¬ (-140737488355328 < l.getD k 0 ∧ l.getD k 0 < 140737488355328)) : wds l = false := by
  cases e : wds l with
  | false => rfl
  | true => exact absurd (wds_at e hk) h
theorem wds_yes {l : List Int} (h : ∀ k, k < l.length → -140737488355328 < l.getD k 0 ∧ l.getD k 0 < 140737488355328) : wds l = true := by
  unfold wds
  rw [List.all_eq_true]
  intro x hx
  obtain ⟨i, hi, rfl⟩ := List.mem_iff_getElem.1 hx
  have := h i hi
  simp only [List.getD, List.getElem?_eq_getElem hi, Option.getD_some] at this
  simpa using this
set_option maxRecDepth 100000 in
set_option maxHeartbeats 4000000 in
theorem may2_any (x : Int) (w : World) : Calls Try.prog 59 #[.int .i64 x] w fun e w' => e = .returned (.bool (decide (-140737488355328 < x) && decide (x < 140737488355328))) ∧ w = w' := by
  by_cases g1 : -140737488355328 < x
  · by_cases g2 : x < 140737488355328
    · have b1 := decide_eq_true g1
      have b2 := decide_eq_true g2
      rw [b1, b2]
      go_enter Try.func59, Try.ntmps59
      go_wp2
      go_ret
      exact ⟨rfl, rfl⟩
    · have b1 := decide_eq_true g1
      have b2 := decide_eq_false g2
      rw [b1, b2]
      go_enter Try.func59, Try.ntmps59
      go_wp2
      go_ret
      exact ⟨rfl, rfl⟩
  · have b1 := decide_eq_false g1
    rw [b1]
    go_enter Try.func59, Try.ntmps59
    go_wp2
    go_ret
    exact ⟨rfl, rfl⟩

set_option maxRecDepth 100000 in
set_option maxHeartbeats 4000000 in
theorem words_any (v : Value) (l : List Int) (w : World) (h : Ld w v l) (hl : l.length ≤ 9223372036854775807) : Calls Try.prog 30 #[v] w fun e w' => e = .returned (.bool (wds l)) ∧ w = w' := by
  obtain ⟨o, c, rfl, _, hx⟩ := h
  have HX := Lib.hid hx
  clear hx
  go_enter Try.func30, Try.ntmps30
  go_wp2
  go_loop [3] (fun s3 => ∃ k : Nat, k ≤ l.length ∧ s3 = .int .i64 k ∧ Hid (∀ j, j < k → -140737488355328 < l.getD j 0 ∧ l.getD j 0 < 140737488355328)) (fun s3 => l.length - (intOf s3).toNat)
  case atStart => exact ⟨0, Nat.zero_le _, rfl, fun j hj => absurd hj (Nat.not_lt_zero _)⟩
  case round =>
    obtain ⟨k, hk, rfl, HK⟩ := hrel
    by_cases hlt : k < l.length
    · obtain ⟨b, f, rfl, _, hc⟩ := HX.out k hlt
      have HY : Hid ((decide (-140737488355328 < l.getD k 0) && decide (l.getD k 0 < 140737488355328)) = true → ∀ j, j < k + 1 → -140737488355328 < l.getD j 0 ∧ l.getD j 0 < 140737488355328) := fun g j hj => by
        by_cases e : j = k
        · subst e; simpa using g
        · exact HK.out j (by omega)
      have HN : Hid ((decide (-140737488355328 < l.getD k 0) && decide (l.getD k 0 < 140737488355328)) = false → wds l = false) := fun g => wds_no hlt (fun e => by rw [decide_eq_true e.1, decide_eq_true e.2] at g; cases g)
      generalize l.getD k 0 = x at *
      have KM := Lib.hid (fun (W : World) => may2_any x W)
      cases gg : (decide (-140737488355328 < x) && decide (x < 140737488355328)) with
      | true =>
        rw [gg] at KM
        have R := Lib.hid (HY.out gg)
        clear gg
        go_wp2_with (go_at_call 59; (with_reducible refine (KM.out _).mono ?_); rintro e w' ⟨rfl, rfl⟩)
        exact ⟨⟨k + 1, by omega, by go_num, R⟩, by simp [intOf]; omega⟩
      | false =>
        rw [gg] at KM
        have R := Lib.hid (HN.out gg)
        clear gg
        go_wp2_with (go_at_call 59; (with_reducible refine (KM.out _).mono ?_); rintro e w' ⟨rfl, rfl⟩)
        go_ret
        exact ⟨by rw [R.out]; rfl, rfl⟩
    · obtain rfl : k = l.length := by omega
      have R := Lib.hid (wds_yes HK.out)
      clear hlt
      go_wp2
      go_ret
      exact ⟨by rw [R.out]; rfl, rfl⟩
end Go.Proofs.Ytdefgmkkkeemoaa
namespace Go.Proofs.Ytdefgmkkkeemoaa
open Go.RowKit

/-- A word? -/
def wd1 (x : Int) : Bool := decide (-140737488355328 < x) && decide (x < 140737488355328)
set_option maxRecDepth 100000 in
set_option maxHeartbeats 2000000 in
theorem fxcheck_any (x : Int) (w : World) : Calls Try.prog 73 #[.int .i64 x] w fun e w' => e = .returned (.int .i64 (if wd1 x then 0 else 1)) ∧ w = w' := by
  by_cases g1 : x ≤ -140737488355328
  · have b1 : wd1 x = false := by unfold wd1; rw [decide_eq_false (by omega)]; rfl
    rw [b1]
    clear b1
    go_enter Try.func73, Try.ntmps73
    go_wp2
    go_ret
    exact ⟨rfl, rfl⟩
  · by_cases g2 : 140737488355328 ≤ x
    · have b1 : wd1 x = false := by unfold wd1; rw [decide_eq_false (show ¬ x < 140737488355328 by omega), Bool.and_false]
      rw [b1]
      clear b1
      go_enter Try.func73, Try.ntmps73
      go_wp2
      go_ret
      exact ⟨rfl, rfl⟩
    · have b1 : wd1 x = true := by unfold wd1; rw [decide_eq_true (by omega), decide_eq_true (by omega)]; rfl
      rw [b1]
      clear b1
      go_enter Try.func73, Try.ntmps73
      go_wp2
      go_ret
      exact ⟨rfl, rfl⟩

set_option maxRecDepth 100000 in
set_option maxHeartbeats 2000000 in
theorem noword_any (x : Int) (w : World) : Calls Try.prog 72 #[.int .i64 x] w fun e w' => e = .returned (.bool (!wd1 x)) ∧ w = w' := by
  have C := Lib.hid (fxcheck_any x)
  cases g : wd1 x with
  | true =>
    rw [g] at C
    go_enter Try.func72, Try.ntmps72
    go_wp2_with (go_at_call 73; (with_reducible refine (C.out _).mono ?_); rintro e w' ⟨rfl, rfl⟩)
    go_ret
    exact ⟨rfl, rfl⟩
  | false =>
    rw [g] at C
    go_enter Try.func72, Try.ntmps72
    go_wp2_with (go_at_call 73; (with_reducible refine (C.out _).mono ?_); rintro e w' ⟨rfl, rfl⟩)
    go_ret
    exact ⟨rfl, rfl⟩

set_option maxRecDepth 100000 in
set_option maxHeartbeats 2000000 in
theorem indexf_any (v : Value) (l : List Int) (w : World) (h : Ld w v l) (hl : l.length ≤ 9223372036854775807) :
    Calls Try.prog 78 #[v, .func (.func 72) #[] #[]] w fun e w' => ∃ r : Int, e = .returned (.int .i64 r) ∧ Hid (decide (0 ≤ r) = !wds l) ∧ w = w' := by
  obtain ⟨o, c, rfl, _, hx⟩ := h
  have HX := Lib.hid hx
  clear hx
  go_enter Try.func78, Try.ntmps78
  go_wp2
  go_loop [8] (fun s8 => ∃ k : Nat, k ≤ l.length ∧ s8 = .int .i64 k ∧ Hid (∀ j, j < k → -140737488355328 < l.getD j 0 ∧ l.getD j 0 < 140737488355328)) (fun s8 => l.length - (intOf s8).toNat)
  case atStart => exact ⟨0, Nat.zero_le _, rfl, fun j hj => absurd hj (Nat.not_lt_zero _)⟩
  case round =>
    obtain ⟨k, hk, rfl, HK⟩ := hrel
    by_cases hlt : k < l.length
    · obtain ⟨b, f, rfl, _, hc⟩ := HX.out k hlt
      have HY : Hid (wd1 (l.getD k 0) = true → ∀ j, j < k + 1 → -140737488355328 < l.getD j 0 ∧ l.getD j 0 < 140737488355328) := fun g j hj => by
        by_cases e : j = k
        · subst e; simpa [wd1] using g
        · exact HK.out j (by omega)
      have HN : Hid (wd1 (l.getD k 0) = false → wds l = false) := fun g => wds_no hlt (fun e => by unfold wd1 at g; rw [decide_eq_true e.1, decide_eq_true e.2] at g; cases g)
      generalize l.getD k 0 = x at *
      have KM := Lib.hid (fun (W : World) => noword_any x W)
      cases gg : wd1 x with
      | true =>
        rw [gg] at KM
        have R := Lib.hid (HY.out gg)
        clear gg
        go_wp2_with (go_at_call 72; (with_reducible refine (KM.out _).mono ?_); rintro e w' ⟨rfl, rfl⟩)
        exact ⟨⟨k + 1, by omega, by go_num, R⟩, by simp [intOf]; omega⟩
      | false =>
        rw [gg] at KM
        have R := Lib.hid (HN.out gg)
        clear gg
        go_wp2_with (go_at_call 72; (with_reducible refine (KM.out _).mono ?_); rintro e w' ⟨rfl, rfl⟩)
        go_ret
        exact ⟨k, rfl, by rw [Hid, R.out, decide_eq_true (by omega)]; rfl, rfl⟩
    · obtain rfl : k = l.length := by omega
      have R := Lib.hid (wds_yes HK.out)
      clear hlt
      go_wp2
      go_ret
      exact ⟨-1, rfl, by rw [Hid, R.out]; rfl, rfl⟩
set_option maxRecDepth 100000 in
set_option maxHeartbeats 2000000 in
theorem containsf_any (v : Value) (l : List Int) (w : World) (h : Ld w v l) (hl : l.length ≤ 9223372036854775807) :
    Calls Try.prog 71 #[v, .func (.func 72) #[] #[]] w fun e w' => e = .returned (.bool (!wds l)) ∧ w = w' := by
  have C := Lib.hid (indexf_any v l w h hl)
  clear h hl
  go_enter Try.func71, Try.ntmps71
  go_wp2_with (go_at_call 78; (with_reducible refine C.out.mono ?_); rintro e w' ⟨r, rfl, hr, rfl⟩)
  go_ret
  exact ⟨by rw [hr.out]; rfl, rfl⟩
set_option maxRecDepth 100000 in
set_option maxHeartbeats 2000000 in
theorem arewords_any (v : Value) (l : List Int) (w : World) (h : Ld w v l) (hl : l.length ≤ 9223372036854775807) :
    Calls Try.prog 61 #[v] w fun e w' => e = .returned (.bool (wds l)) ∧ w = w' := by
  have C := Lib.hid (containsf_any v l w h hl)
  clear h hl
  go_enter Try.func61, Try.ntmps61
  go_wp2_with (go_at_call 71; (with_reducible refine C.out.mono ?_); rintro e w' ⟨rfl, rfl⟩)
  go_ret
  exact ⟨by simp, rfl⟩

/-- A tensor? -/
def tnb (ts tds : List Int) : Bool := may ts && decide ((tds.length : Int) = prod ts) && wds tds
set_option maxRecDepth 100000 in
set_option maxHeartbeats 2000000 in
theorem istensor_any (vp vr : Value) (ts tds : List Int) (w : World) (hp : Ld w vp ts) (hr : Ld w vr tds) (_lp : ts.length ≤ 17592186044416) (lr : tds.length ≤ 17592186044416) :
    Calls Try.prog 63 #[.agg #[vp, vr]] w fun e w' => e = .returned (.bool (tnb ts tds)) ∧ Below w.heap.size w w' := by
  have B0 := Lib.hid ((Below.refl w.heap.size w).alloc (Nat.le_refl _) (.cells #[vp, vr] 28))
  obtain ⟨op, cp, rfl, _, _⟩ := id hp
  obtain ⟨od, cd, rfl, _, _⟩ := id hr
  have KW := Lib.hid (arewords_any _ tds _ (hr.below B0.out) (by omega))
  cases hm : may ts with
  | false =>
    have C := Lib.hid (count_no _ ts _ (hp.below B0.out) hm)
    have E : Hid (tnb ts tds = false) := by unfold tnb; rw [hm]; exact Lib.hid (by simp)
    clear hp hr hm
    go_enter Try.func63, Try.ntmps63
    go_wp2_with (go_at_call 68; (with_reducible refine C.out.mono ?_); rintro e w' ⟨rfl, rfl⟩)
    go_ret
    exact ⟨by rw [E.out]; rfl, B0.out⟩
  | true =>
    have C := Lib.hid (count_ok _ ts _ (hp.below B0.out) hm)
    have E : Hid (tnb ts tds = (decide ((tds.length : Int) = prod ts) && wds tds)) := by unfold tnb; rw [hm]; exact Lib.hid (by simp)
    clear hp hr hm
    generalize prod ts = n at *
    by_cases q : (tds.length : Int) = n
    · have b1 : ((tds.length : Int) == n) = true := by simpa using q
      have E2 : Hid (tnb ts tds = wds tds) := by rw [Hid, E.out, decide_eq_true q, Bool.true_and]
      clear q E
      go_enter Try.func63, Try.ntmps63
      go_wp2_with (first | (go_at_call 68; (with_reducible refine C.out.mono ?_); rintro e w' ⟨rfl, rfl⟩) | (go_at_call 61; (with_reducible refine KW.out.mono ?_); rintro e w' ⟨rfl, rfl⟩))
      go_ret
      exact ⟨by rw [E2.out]; rfl, B0.out⟩
    · have b1 : ((tds.length : Int) == n) = false := by simpa using q
      have E2 : Hid (tnb ts tds = false) := by rw [Hid, E.out, decide_eq_false q, Bool.false_and]
      clear q E
      go_enter Try.func63, Try.ntmps63
      go_wp2_with (go_at_call 68; (with_reducible refine C.out.mono ?_); rintro e w' ⟨rfl, rfl⟩)
      go_ret
      exact ⟨by rw [E2.out]; rfl, B0.out⟩
end Go.Proofs.Ytdefgmkkkeemoaa
