/-
  view.Copy.
  What each law of package view ends with: a transposed copy.
  A list of views, words, axes, shapes, numbers and tensors that came in, opened to the cells of its elements.
-/
import Derived.Deep.AppendLies
import Derived.Deep.Slices
import Derived.Deep.Fields
import Derived.ProofKit
import Derived.Carry
import Derived.SizedLaws
import Derived.Test.YtdefgmkkkeemoaaM07
import Derived.Test.YtdefgmkkkeemoaaM08
import Derived.Test.YtdefgmkkkeemoaaM09
import Derived.Test.YtdefgmkkkeemoaaM12
namespace Go.Proofs.Ytdefgmkkkeemoaa
open Go.RowKit Go.Shelf
attribute [local go_sem] Oper.semAt_some

/-- The words where the indexes stand. -/
def cps (sh st : List Int) (off : Int) (ls : List Int) (N : Nat) : List Int := (List.range N).map fun k => ls.getD (off + dot st (atl sh (k : Nat))).toNat 0
theorem cps_len (sh st : List Int) (off : Int) (ls : List Int) (N : Nat) : (cps sh st off ls N).length = N := by simp [cps]
theorem cps_getD {sh st : List Int} {off : Int} {ls : List Int} {N k : Nat} (h : k < N) : (cps sh st off ls N).getD k 0 = ls.getD (off + dot st (atl sh (k : Nat))).toNat 0 := by simp [cps, List.getD, h]
theorem cps_snoc {sh st : List Int} {off : Int} {ls : List Int} {N k P : Nat} (h : k < N) (e : off + dot st (atl sh (k : Nat)) = (P : Int)) : (cps sh st off ls N).take (k + 1) = (cps sh st off ls N).take k ++ [ls.getD P 0] := by
  have hk : k < (cps sh st off ls N).length := by rw [cps_len]; exact h
  have h1 := cps_getD (sh := sh) (st := st) (off := off) (ls := ls) h
  rw [e, Int.toNat_natCast] at h1
  rw [List.take_succ_eq_append_getElem hk]
  rw [List.getD_eq_getElem?_getD, List.getElem?_eq_getElem hk] at h1
  rw [← h1]; rfl
theorem blk2 {W : World} {b : Nat} {t : TypeId} {x y : Value} (h : Blk W b t #[x, y]) : W.cell? ⟨b, 0, none⟩ = some x ∧ W.cell? ⟨b, 1, none⟩ = some y ∧ W.frozen? ⟨b, 0, none⟩ = false ∧ W.frozen? ⟨b, 1, none⟩ = false :=
  ⟨h.cell 0, h.cell 1, h.frozen 0, h.frozen 1⟩
/-- A tensor in new memory, and an error. -/
def SomeT (w : World) (er : Int) (sh ds : List Int) (e : Ending) (w' : World) : Prop := ∃ os cs od cd, e = .returned (.tuple #[.agg #[.slice os sh.length cs, .slice od ds.length cd], .int .i64 er]) ∧ w'.ownsRow w.heap.size 3 1 (.slice os sh.length cs) sh.length (ints sh) ∧ w'.ownsRow w.heap.size 2 1 (.slice od ds.length cd) ds.length (ints ds) ∧ Below w.heap.size w w'
theorem infoW : (Try.prog.info? 2).map (fun i => (i.zero, i.size, i.bytes)) = some (some (.int .i64 0), 1, 8) := by kernel_rfl

set_option maxRecDepth 100000 in
theorem placesf_any (vs vt : Value) (off : Int) (w : World) : Calls Try.prog 62 #[.agg #[vs, vt, .int .i64 off]] w fun e w' => e = .returned (.func (.func 74) #[] #[.pointer (some ⟨w.heap.size, 0, none⟩)]) ∧
    w.alloc (.cells #[vs, vt, .int .i64 off] 25) = w' := by
  go_enter Try.func62, Try.ntmps62
  go_wp2
  refine bodyPost_ret (results_tmp rfl _ _ _) rfl ?_
  exact ⟨rfl, rfl⟩

theorem tens_not_row {w : World} {base n b : Nat} {v : Value} {xs : List Value} {cs : Array Value} {t u : TypeId} (h : w.ownsRow base t 1 v n xs) (hb : Blk w b u cs) (hne : t ≠ u) : ¬ v.ownBlock = some b := by
  intro e
  rcases h.2 with ⟨rfl, _⟩ | ⟨g, cap, cur, rfl, _, hh, _⟩
  · simp [Value.ownBlock] at e
  · simp only [Value.ownBlock, Option.some.injEq] at e
    subst e
    have := hh.symm.trans hb
    simp only [Option.some.injEq, Obj.cells.injEq] at this
    exact hne this.2.1
/-- A word is appended. -/
theorem cp_step {X w9 w5 : World} {T B g k : Nat} {y : Int} {dv : Value} {xs : List Value} {cs : Array Value} (hb : Blk X T 28 cs) (hu : X.ownsRow B 2 1 dv k xs) (hB : Below T w5 X)
    (hgrow : (X.alloc (.cells #[.int .i64 y] 2)).drew.grownBy w9 dv.ownBlock) (_hat : dv.ownBlock = some g ∨ g = X.heap.size + 1) (hTl : T < B) (hXs : B ≤ X.heap.size) :
    Blk w9 T 28 cs ∧ Below T w5 w9 := by
  refine ⟨((hb.alloc _).drew).kept hgrow (fun e => by have := (hu.lt T e.symm).1; omega), ?_⟩
  have h1 := below_drw (hB.alloc (by omega) (.cells #[.int .i64 y] 2)) 1
  exact h1.grown hgrow (by simp; omega) (fun j e => by have := (hu.lt j e).1; omega)
/-- What a round of Copy's loop leaves. -/
def CpI (T B : Nat) (w5 : World) (sv : Value) (ds : List Int) (k : Nat) (W : World) : Prop := ∃ dv, Blk W T 28 #[sv, dv] ∧ W.ownsRow B 2 1 dv k (ints (ds.take k)) ∧ Below T w5 W ∧ B ≤ W.heap.size
theorem cpi_own (T B : Nat) (w5 : World) (sv : Value) (ds : List Int) (hT : T < B) (_hs : w5.heap.size ≤ B) : OwnFrom B (fun (pre : List Nat) W => CpI T B w5 sv ds pre.length W) := by
  rintro s X Y row ⟨dv, h1, h2, h3, h4⟩ hg hr
  have hc : ∀ r, row = some r → ∃ o : Obj, X.heap[r]? = some o ∧ o.isCells = false := fun r e => (hr r e).2
  exact ⟨dv, blk_own (β := Unit) T _ (fun _ => _) () X Y row h1 hg hc, own_kept h2 hg hc, h3.grown hg (by omega) (fun k e => by have := (hr k e).1; omega), Nat.le_trans h4 hg.size⟩
theorem kv_alloc {S : Nat → Prop} {X : World} (o : Obj) (hS : ∀ k, S k → k < X.heap.size) : KV S X (X.alloc o) :=
  ⟨fun k hk => Below.heap_alloc _ _ _ (hS k hk), fun _k _ _ _ e _ => Below.heap_alloc _ _ _ (Array.getElem?_eq_some_iff.1 e).1⟩
theorem cp_done {X w9 w5 : World} {T B g k c : Nat} {y : Int} {dv sv : Value} {ds : List Int} (hown : w9.ownsRow B 2 1 (.slice (some ⟨g, 0, none⟩) (k + 1) c) (k + 1) (ints (ds.take k) ++ [.int .i64 y])) (hb9 : Blk w9 T 28 #[sv, dv]) (hB9 : Below T w5 w9) (hb : Blk X T 28 #[sv, dv]) (hu : X.ownsRow B 2 1 dv k (ints (ds.take k)))
    (hgrow : (X.alloc (.cells #[.int .i64 y] 2)).drew.grownBy w9 dv.ownBlock) (hE : ds.take (k + 1) = ds.take k ++ [y]) (hTl : T < B) (hXs : B ≤ X.heap.size) :
    KeepsFrom B X (w9.setCell ⟨T, 1, none⟩ (.slice (some ⟨g, 0, none⟩) (k + 1) c)) ∧ KV (fun j => j < B ∧ j ≠ T) X (w9.setCell ⟨T, 1, none⟩ (.slice (some ⟨g, 0, none⟩) (k + 1) c)) ∧ CpI T B w5 sv ds (k + 1) (w9.setCell ⟨T, 1, none⟩ (.slice (some ⟨g, 0, none⟩) (k + 1) c)) := by
  have hsz : X.heap.size ≤ w9.heap.size := Nat.le_trans (by simp) hgrow.size
  have same : ∀ j, j < X.heap.size → some j ≠ dv.ownBlock → j ≠ T → (w9.setCell ⟨T, 1, none⟩ (.slice (some ⟨g, 0, none⟩) (k + 1) c)).heap[j]? = X.heap[j]? := fun j h1 h2 h3 =>
    (Below.heap_setCell _ _ _ j h3).trans ((hgrow.block j (by simp; omega) h2).trans (Below.heap_alloc _ _ _ h1))
  have isrow : ∀ (j : Nat) (o : Obj), X.heap[j]? = some o → some j = dv.ownBlock → ∃ cur, o = .cells cur 2 (0, 0) := by
    intro j o ho e
    rcases hu.2 with ⟨rfl, _⟩ | ⟨g', cap, cur, rfl, _, hh, _⟩
    · simp [Value.ownBlock] at e
    · simp only [Value.ownBlock, Option.some.injEq] at e
      subst e
      exact ⟨cur, Option.some.inj (ho.symm.trans hh)⟩
  refine ⟨⟨by simpa using hsz, fun j o hj ho hc => ?_⟩, ⟨fun j hj => ?_, fun j cs t fz ho ht => ?_⟩, .slice (some ⟨g, 0, none⟩) (k + 1) c, hb9.set_ 1 _, ?_, hB9.setCell (Nat.le_refl _) _, by simp; omega⟩
  · refine (same j (Array.getElem?_eq_some_iff.1 ho).1 (fun e => ?_) (by omega)).trans ho
    obtain ⟨cur, rfl⟩ := isrow j o ho e
    cases hc
  · refine same j (by omega) (fun e => ?_) hj.2
    have := (hu.lt j e.symm).1
    omega
  · refine same j (Array.getElem?_eq_some_iff.1 ho).1 (fun e => ?_) (fun e => ?_)
    · obtain ⟨cur, h2⟩ := isrow j _ ho e
      simp only [Obj.cells.injEq] at h2
      rcases ht with rfl | rfl | rfl <;> simp at h2
    · subst e
      have h2 := ho.symm.trans hb
      simp only [Option.some.injEq, Obj.cells.injEq] at h2
      rcases ht with rfl | rfl | rfl <;> simp at h2
  · rw [hE, ints_snoc]
    exact hown.kept (grown_set w9 ⟨T, 1, none⟩ _) (.inr (tens_not_row hown hb9 (by decide)))

theorem cp_end {X : World} {b D base n : Nat} {e : TypeId} {v : Value} {xs : List Value} {cs : Array Value} {o : Obj} (hO : X.ownsRow base e 1 v n xs) (hb : Blk X b 28 cs) (hD : X.heap[D]? = some o) (hc : o.isCells = false) (hne : e ≠ 28) (u1 u2 : Value) (o' : Obj) :
    (((X.setCell ⟨b, 0, none⟩ u1).setCell ⟨b, 1, none⟩ u2).putObj D o').ownsRow base e 1 v n xs := by
  have h1 := hO.kept (grown_set X ⟨b, 0, none⟩ u1) (.inr (tens_not_row hO hb hne))
  have hb1 := hb.set_ 0 u1
  have h2 := h1.kept (grown_set _ ⟨b, 1, none⟩ u2) (.inr (tens_not_row h1 hb1 hne))
  have hne : D ≠ b := by rintro rfl; rw [show X.heap[D]? = _ from hb] at hD; cases hD; cases hc
  exact own_kept h2 (grownBy_putObj' _ D o') (fun r er => by cases er; exact ⟨o, ((Below.heap_setCell _ _ _ _ hne).trans (Below.heap_setCell _ _ _ _ hne)).trans hD, hc⟩)

set_option maxRecDepth 100000 in
set_option maxHeartbeats 8000000 in
theorem copy_ok (vs vt vd : Value) (sh st ls : List Int) (off : Int) (N : Nat) (w : World) (hs : Ld w vs sh) (ht : Ld w vt st) (hd : Ld w vd ls) (hv : vwb sh st off ls.length = true) (hwd : wds ls = true) (hN : (N : Int) = prod sh) :
    Calls Try.prog 37 #[.agg #[vs, vt, .int .i64 off], vd] w (SomeT w 0 sh (cps sh st off ls N)) := by
  obtain ⟨i0, hi0, hz0, hz1, hz2⟩ := info_parts infoW
  have hVw := vwb_iff.1 hv
  have l4 := may_len hVw.1
  have hls : ls.length ≤ 65536 := by have := hVw.2.2.2.2.1; omega
  have hN6 : N ≤ 65536 := by have := may_prod hVw.1; omega
  obtain ⟨w3, hw3⟩ : ∃ w3, w3 = ((w.alloc (.cells #[vs, vt, .int .i64 off] 25)).alloc (.cells #[vd] 26)).alloc (.cells #[.slice none 0 0, .slice none 0 0] 28) := ⟨_, rfl⟩
  have hsz : w3.heap.size = w.heap.size + 3 := by rw [hw3]; simp
  have B3 : Below w.heap.size w w3 := by rw [hw3]; exact (((Below.refl _ _).alloc (Nat.le_refl _) _).alloc (by simp) _).alloc (by simp; omega) _
  have K0 : Hid (Blk w3 w.heap.size 25 #[vs, vt, .int .i64 off]) := by rw [hw3]; exact ((Blk.new w _ _).alloc _).alloc _
  have K1 : Hid (Blk w3 (w.heap.size + 1) 26 #[vd]) := by rw [hw3]; exact (blk_new1 w _ _ _).alloc _
  have K2 : Hid (Blk w3 (w.heap.size + 2) 28 #[.slice none 0 0, .slice none 0 0]) := by
    rw [hw3]
    have q := Blk.new ((w.alloc (.cells #[vs, vt, .int .i64 off] 25)).alloc (.cells #[vd] 26)) 28 #[.slice none 0 0, .slice none 0 0]
    rwa [World.size_alloc, World.size_alloc] at q
  have C1 : Hid (∀ n, w3.heap.size = n → Calls Try.prog 28 #[.agg #[vs, vt, .int .i64 off], .int .i64 (ls.length : Int)] w3 fun e w' => e = .returned (.int .i64 0) ∧ Below n w3 w') := fun n hn => by
    subst hn
    have := vcheck_any vs vt sh st off ls.length w3 (hs.below B3) (ht.below B3) (by omega) (by have := hVw.2.1; omega)
    rwa [hv, frm_t] at this
  replace C1 := Lib.hid (C1.out (w.heap.size + 3) hsz)
  have C2 := Lib.hid (fun (W : World) (hW : Below w.heap.size w W) => cloned_any vs sh W (hs.below hW) (by omega))
  have C3 : Hid (∀ W, Below w.heap.size w W → Calls Try.prog 61 #[vd] W fun e w' => e = .returned (.bool true) ∧ W = w') := Lib.hid (fun W hW => by have := arewords_any vd ls W (hd.below hW) (by omega); rwa [hwd] at this)
  clear hwd
  have HSV := Lib.hid (And.intro hs (And.intro ht hd))
  obtain ⟨o1, n1, rfl, _, _⟩ := id hs
  obtain ⟨o2, n2, rfl, _, _⟩ := id ht
  obtain ⟨o3, n3, rfl, _, hxd⟩ := id hd
  have HXD := Lib.hid hxd
  have HW := Lib.hid hw3
  have HV := Lib.hid (And.intro hVw hN)
  rw [hw3] at C1
  have k0 := blk3 (show Blk w3 w.heap.size 25 _ from K0.out)
  clear hw3 hs ht hd hxd hv hVw hN k0
  refine (callsIn_wide (n := 9)).1 ?_
  refine callsIn_of_wp_marks Try.func37 rfl trivial ?_
  simp only [Try.ntmps37, List.size_toArray, List.length_cons, List.length_nil, Nat.reduceAdd, Nat.reduceSub, Array.replicate_succ, Array.replicate_zero, List.push_toArray, List.append_toArray, List.nil_append, List.cons_append]
  refine wpIn_wide.2 ?_
  go_wp2_with (first
    | (go_at_call 28; (with_reducible refine C1.out.mono ?_); rintro e w4 ⟨rfl, hb4⟩; rw [← HW.out] at hb4; have b4 := B3.trans (hb4.mono (by omega)); replace K0 := Lib.hid (K0.out.below hb4 (by omega)); replace K1 := Lib.hid (K1.out.below hb4 (by omega)); replace K2 := Lib.hid (K2.out.below hb4 (by omega)); obtain ⟨c0, c1, c2, _⟩ := blk3 K0.out; have c3 := K1.out.cell 0; have s4 := Nat.le_trans (Nat.le_of_eq hsz.symm) hb4.size; clear hb4)
    | (go_at_call 61; (with_reducible refine (C3.out _ b4).mono ?_); rintro e w' ⟨rfl, rfl⟩)
    | (go_at_call 51; (with_reducible refine (C2.out _ b4).mono ?_); rintro e w5 ⟨o5, c5, rfl, ho5, _, hb5⟩; have b5 := b4.trans (hb5.mono (by omega)); replace K0 := Lib.hid (K0.out.below hb5 (by omega)); replace K1 := Lib.hid (K1.out.below hb5 (by omega)); replace K2 := Lib.hid (K2.out.below hb5 (by omega)); obtain ⟨c0, c1, c2, _⟩ := blk3 K0.out; have c3 := K1.out.cell 0; have s5 := hb5.size; have O5 := Lib.hid (own_base (base' := w.heap.size) ho5 (by omega)); have k0l := K0.out.lt; clear ho5 hb5)
    | (go_at_call 62; (with_reducible refine (placesf_any _ _ _ _).mono ?_); rintro e w7 ⟨rfl, hw7⟩))
  have s7 : w7.heap.size = w5.heap.size + 2 := by rw [← hw7]; simp
  have HT7 : Hid (Blk w7 w5.heap.size 28 #[.slice o5 sh.length c5, .slice none 0 0]) := by rw [← hw7]; exact (Blk.new w5 _ _).alloc _
  have HV7 : Hid (Blk w7 (w5.heap.size + 1) 25 #[.slice o1 sh.length n1, .slice o2 st.length n2, .int .i64 off]) := by rw [← hw7]; exact blk_new1 w5 _ _ _
  have HB7 : Hid (Below w5.heap.size w5 w7) := by rw [← hw7]; exact ((Below.refl _ _).alloc (Nat.le_refl _) _).alloc (by simp) _
  have B7 := b5.trans (HB7.out.mono (by omega))
  have hsz5 : w.heap.size + 3 ≤ w5.heap.size := Nat.le_trans s4 s5
  have OLD : Hid (∀ W, Below w5.heap.size w5 W → W.cell? ⟨w.heap.size + 1, 0, none⟩ = some (.slice o3 ls.length n3) ∧ Below w.heap.size w W) := Lib.hid (fun W hW => ⟨(K1.out.below hW (by omega)).cell 0, b5.trans (hW.mono (by omega))⟩)
  refine (wpIn_wide (n := 9)).1 ?_
  refine wpIn_rangeFunc_told2 (F := Fence.wide) (n := 9) rfl (by decide) (gf := 74) (lb := #[.pointer (some ⟨w5.heap.size + 1, 0, none⟩)]) rfl trivial (enters_of Try.func74 (by kernel_rfl) rfl)
    (places1_told 8 (by decide) (fun j => j < w7.heap.size ∧ j ≠ w5.heap.size) (w5.heap.size + 1) (.slice o1 sh.length n1) (.slice o2 st.length n2) sh st off N w7 HV7.out (HSV.out.1.below B7) (HSV.out.2.1.below B7) HV.out.1.1 HV.out.1.2.1 HV.out.1.2.2.1 HV.out.1.2.2.2.1 (by have h1 := HV.out.1.2.2.2.2.1; have h2 := HV.out.1.2.2.2.2.2.2; omega) HV.out.2 ⟨by omega, by omega⟩ ?hTS)
    KV.trans ?keepb (fun _ => rfl)
    (fun pre W => CpI w5.heap.size w7.heap.size w5 (.slice o5 sh.length c5) (cps sh st off ls N) pre.length W) (fun _ _ _ => False)
    ?ownI (fun _ _ _ _ _ h _ _ => h) ?ownT ⟨.slice none 0 0, HT7.out, ⟨rfl, .inl ⟨rfl, rfl⟩⟩, HB7.out, Nat.le_refl _⟩ ?a1 ?assign ?body ?done ?stop
  case hTS =>
    intro i hi
    obtain ⟨o, c, e, _, hx⟩ := HSV.out.2.1
    obtain ⟨b, f, rfl, hb, _⟩ := hx i hi
    exact ⟨b, f, c, e, by omega, by omega⟩
  case keepb =>
    intro X k o o' hk ho hc _
    refine ⟨fun j hj => World.putObj_heap_other (by omega), fun j cs t fz e ht => World.putObj_heap_other (fun e2 => ?_)⟩
    subst e2
    rw [ho] at e
    cases e
    cases hc
  case ownI => exact cpi_own w5.heap.size w7.heap.size w5 _ _ (by omega) (by omega)
  case ownT => exact fun pre x _ _ _ _ h _ _ => h
  case assign =>
    intro l2 x X K hK
    unfold plc
    gi_wp2
    exact hK
  case body =>
    rintro l2 pre x X ⟨dv, hTb, hDv, hBX, hXs⟩ hlt hx
    obtain rfl : x = pre.length := hx
    have hp := may_pos HV.out.1.1
    have hN := HV.out.2
    have hat := vw_at HV.out.1 (atl_inx sh (pre.length : Nat) hp (by omega) (by omega))
    obtain ⟨P, hP⟩ := Int.eq_ofNat_of_zero_le hat.1
    rw [hP] at hat
    have hPl : P < ls.length := by omega
    have EA := Lib.hid (cps_snoc (ls := ls) (k := pre.length) (N := N) hlt hP)
    obtain ⟨o3', n3', e3, _, hx3⟩ := HSV.out.2.2
    simp only [Value.slice.injEq] at e3
    obtain ⟨rfl, _, rfl⟩ := e3
    obtain ⟨b3, f3, rfl, hb3, hc3⟩ := hx3 P hPl
    have OLD2 : Hid (∀ W, Below w5.heap.size w5 W → W.cell? ⟨w.heap.size + 1, 0, none⟩ = some (.slice (some ⟨b3, f3, none⟩) ls.length n3) ∧ W.cell? ⟨b3, f3 + P, none⟩ = some (.int .i64 (ls.getD P 0)) ∧ True) := Lib.hid (fun W hW => ⟨(OLD.out W hW).1, ((OLD.out W hW).2.cell hb3).trans hc3, trivial⟩)
    have hk6 : pre.length < 65536 := by omega
    obtain ⟨c0, c1, f0, f1⟩ := blk2 hTb
    obtain ⟨c2, c3, _⟩ := OLD2.out X hBX
    have ca := fun (o : Obj) => Lib.cell?_alloc_some o c1
    have HT := Lib.hid hTb
    have HO := Lib.hid hDv
    have HB := Lib.hid hBX
    have hTl : w5.heap.size < w7.heap.size := by omega
    rw [hP]
    generalize hy : ls.getD P 0 = y at *
    clear hTb hDv hBX hat hp hN hc3 hx3 s7
    replace OLD := OLD2
    gi_wp2
    refine wpIn_mono (region_in (S := fun W => W.cell? ⟨w.heap.size + 1, 0, none⟩ = some (.slice (some ⟨b3, f3, none⟩) ls.length n3) ∧ W.cell? ⟨b3, f3 + P, none⟩ = some (.int .i64 y)) (R := fun W => KeepsFrom w7.heap.size X W ∧ KV (fun j => j < w7.heap.size ∧ j ≠ w5.heap.size) X W ∧ CpI w5.heap.size w7.heap.size w5 (.slice o5 sh.length c5) (cps sh st off ls N) (pre.length + 1) W) (by kernel_rfl) (by kernel_rfl) ?_ (fun hHeld => ?_)) ?_
    · exact ⟨by simpa using c2, by simpa using c3⟩
    · have hHd := hHeld
      simp only [List.size_toArray, List.length_cons, List.length_nil, Nat.reduceAdd, Array.replicate_succ, Array.replicate_zero, List.push_toArray, List.nil_append, List.cons_append]
      (refine wpAnyH_take (i := 0) (oi := ⟨some 28, _, _, _, _, _⟩) (v := ?v0) rfl (by kernel_rfl) (by kernel_rfl) (by kernel_rfl) (fun _ _ _ h => h) (Or.inl ⟨by rfl, ?hy0⟩) (by assumption) ?rest0; (case hy0 => ((intro w hSw); (try dsimp only at hSw); go_simp; first | done | (with_reducible rfl))))
      (try simp only [Act.put, List.setIfInBounds_toArray, List.set_cons_zero, List.set_cons_succ])
      (refine wpAnyH_take (i := 3) (oi := ⟨some 31, _, _, _, _, _⟩) (v := ?v3) rfl (by kernel_rfl) (by kernel_rfl) (by kernel_rfl) (fun _ _ _ h => h) (Or.inl ⟨by rfl, ?hy3⟩) (by assumption) ?rest3; (case hy3 => ((intro w hSw); (try dsimp only at hSw); go_simp; first | done | (with_reducible rfl))))
      (try simp only [Act.put, List.setIfInBounds_toArray, List.set_cons_zero, List.set_cons_succ])
      (refine wpAnyH_take (i := 2) (oi := ⟨some 30, _, _, _, _, _⟩) (v := ?v2) rfl (by kernel_rfl) (by kernel_rfl) (by kernel_rfl) (fun _ _ _ h => h) (Or.inl ⟨by rfl, ?hy2⟩) (by assumption) ?rest2; (case hy2 => ((intro w hSw); (try dsimp only at hSw); go_simp; first | done | (with_reducible rfl))))
      (try simp only [Act.put, List.setIfInBounds_toArray, List.set_cons_zero, List.set_cons_succ])
      (refine wpAnyH_take (i := 4) (oi := ⟨some 32, _, _, _, _, _⟩) (v := ?v4) rfl (by kernel_rfl) (by kernel_rfl) (by kernel_rfl) (fun _ _ _ h => h) (Or.inl ⟨by rfl, ?hy4⟩) (by assumption) ?rest4; (case hy4 => ((intro w hSw); (try dsimp only at hSw); go_simp; first | done | (with_reducible rfl))))
      (try simp only [Act.put, List.setIfInBounds_toArray, List.set_cons_zero, List.set_cons_succ])
      (refine wpAnyH_take (i := 5) (oi := ⟨some 33, _, _, _, _, _⟩) (v := ?v5) rfl (by kernel_rfl) (by kernel_rfl) (by kernel_rfl) (fun _ _ _ h => h) (Or.inl ⟨by rfl, ?hy5⟩) (by assumption) ?rest5; (case hy5 => ((intro w hSw); (try dsimp only at hSw); go_simp; first | done | (with_reducible rfl))))
      (try simp only [Act.put, List.setIfInBounds_toArray, List.set_cons_zero, List.set_cons_succ])
      refine wpAnyH_ready (rs := [1, 6]) (by kernel_rfl) (by simp) ?_
      refine AllReadyH.cons (o := ⟨some 29, _, _, _, _, _⟩) rfl (fun K hK => ?_) (AllReadyH.cons (o := ⟨some 34, _, _, _, _, _⟩) rfl (fun K hK => ?_) AllReadyH.nil)
      · go_simp
        refine hK.out _ _ ?_ (fun hHeld => ?_)
        · (try dsimp only)
          first | assumption | (simp [go_sem, *]; done) | (simp [go_sem, World.cell?_alloc_some, *]; done) | exact ⟨(e9.out _).1, (e9.out _).2.1⟩
        clear hK K
        (try simp only [List.setIfInBounds_toArray, List.set_cons_zero, List.set_cons_succ])
        refine wpAnyH_ready (rs := [6]) (by kernel_rfl) (by simp) ?_
        refine AllReadyH.cons (o := ⟨some 34, _, _, _, _, _⟩) rfl (fun K hK => ?_) AllReadyH.nil
        go_simp
        refine hK.out _ _ ?_ (fun hHeld => ?_)
        · (try dsimp only)
          first | assumption | (simp [go_sem, *]; done) | (simp [go_sem, World.cell?_alloc_some, *]; done) | exact ⟨(e9.out _).1, (e9.out _).2.1⟩
        clear hK K
        (try simp only [List.setIfInBounds_toArray, List.set_cons_zero, List.set_cons_succ])
        refine wpAnyH_ready (rs := [7]) (by kernel_rfl) (by simp) ?_
        refine AllReadyH.cons (o := ⟨some 35, _, _, _, _, _⟩) rfl (fun K hK => ?_) AllReadyH.nil
        refine step_append_lies _ (by rfl) (.tmp 29) (.tmp 34) 26 (by rfl) w7.heap.size 2 i0 (.int .i64 0) 1 8 Try.underlying26 hi0 hz0 hz1 hz2 rfl (by decide) dv pre.length (ints ((cps sh st off ls N).take pre.length)) (by rfl) (HO.out.alloc _) ⟨X.heap.size, 0, none⟩ 1 1 [.int .i64 y] (by rfl) rfl (cell_one_new _ _ _) (by simp [Value.oneCell']) (by decide) (by unfold maxLen; omega) (by omega) (by simp; omega) (X.heap.size + 1) (by simp) ?_
        intro g9 cp9 w9 hown hgrow hat _
        have Q9 := Lib.hid (And.intro hown (cp_step HT.out HO.out HB.out hgrow hat hTl hXs))
        obtain ⟨_, p0, h0, h1⟩ := blk2 Q9.out.2.1
        have e9 := Lib.hid (fun (z : Value) => OLD.out _ (Q9.out.2.2.setCell (p := ⟨w5.heap.size, 1, none⟩) (Nat.le_refl _) z))
        obtain ⟨q0, q1, _⟩ := OLD.out w9 Q9.out.2.2
        have R9 := Lib.hid (cp_done Q9.out.1 Q9.out.2.1 Q9.out.2.2 HT.out HO.out hgrow EA.out hTl hXs)
        clear hown hgrow hat
        refine hK.out _ _ ?_ (fun hHeld => ?_)
        · (try dsimp only)
          first | assumption | (simp [go_sem, *]; done) | (simp [go_sem, World.cell?_alloc_some, *]; done) | exact ⟨(e9.out _).1, (e9.out _).2.1⟩
        clear hK K
        (try simp only [Act.put, List.setIfInBounds_toArray, List.set_cons_zero, List.set_cons_succ])
        refine wpAnyH_ready (rs := [8]) (by kernel_rfl) (by simp) ?_
        refine AllReadyH.cons (o := ⟨some 36, _, _, _, _, _⟩) rfl (fun K hK => ?_) AllReadyH.nil
        go_simp
        refine hK.out _ _ ?_ (fun hHeld => ?_)
        · (try dsimp only)
          first | assumption | (simp [go_sem, *]; done) | (simp [go_sem, World.cell?_alloc_some, *]; done) | exact ⟨(e9.out _).1, (e9.out _).2.1⟩
        clear hK K
        (try simp only [List.setIfInBounds_toArray, List.set_cons_zero, List.set_cons_succ])
        refine wpAnyH_ready (rs := [9]) (by kernel_rfl) (by simp) ?_
        refine AllReadyH.cons (o := ⟨none, _, _, _, _, _⟩) rfl (fun K hK => ?_) AllReadyH.nil
        go_simp
        refine hK.out _ _ ?_ (fun hHeld => ?_)
        · (try dsimp only)
          first | assumption | (simp [go_sem, *]; done) | (simp [go_sem, World.cell?_alloc_some, *]; done) | exact ⟨(e9.out _).1, (e9.out _).2.1⟩
        clear hK K
        (try simp only [List.setIfInBounds_toArray, List.set_cons_zero, List.set_cons_succ])
        refine wpAnyH_done (by kernel_rfl) ?_ _
        exact ⟨rfl, R9.out⟩
      · go_simp
        refine hK.out _ _ ?_ (fun hHeld => ?_)
        · (try dsimp only)
          first | assumption | (simp [go_sem, *]; done) | (simp [go_sem, World.cell?_alloc_some, *]; done) | exact ⟨(e9.out _).1, (e9.out _).2.1⟩
        clear hK K
        (try simp only [List.setIfInBounds_toArray, List.set_cons_zero, List.set_cons_succ])
        refine wpAnyH_ready (rs := [1]) (by kernel_rfl) (by simp) ?_
        refine AllReadyH.cons (o := ⟨some 29, _, _, _, _, _⟩) rfl (fun K hK => ?_) AllReadyH.nil
        go_simp
        refine hK.out _ _ ?_ (fun hHeld => ?_)
        · (try dsimp only)
          first | assumption | (simp [go_sem, *]; done) | (simp [go_sem, World.cell?_alloc_some, *]; done) | exact ⟨(e9.out _).1, (e9.out _).2.1⟩
        clear hK K
        (try simp only [List.setIfInBounds_toArray, List.set_cons_zero, List.set_cons_succ])
        refine wpAnyH_ready (rs := [7]) (by kernel_rfl) (by simp) ?_
        refine AllReadyH.cons (o := ⟨some 35, _, _, _, _, _⟩) rfl (fun K hK => ?_) AllReadyH.nil
        refine step_append_lies _ (by rfl) (.tmp 29) (.tmp 34) 26 (by rfl) w7.heap.size 2 i0 (.int .i64 0) 1 8 Try.underlying26 hi0 hz0 hz1 hz2 rfl (by decide) dv pre.length (ints ((cps sh st off ls N).take pre.length)) (by rfl) (HO.out.alloc _) ⟨X.heap.size, 0, none⟩ 1 1 [.int .i64 y] (by rfl) rfl (cell_one_new _ _ _) (by simp [Value.oneCell']) (by decide) (by unfold maxLen; omega) (by omega) (by simp; omega) (X.heap.size + 1) (by simp) ?_
        intro g9 cp9 w9 hown hgrow hat _
        have Q9 := Lib.hid (And.intro hown (cp_step HT.out HO.out HB.out hgrow hat hTl hXs))
        obtain ⟨_, p0, h0, h1⟩ := blk2 Q9.out.2.1
        have e9 := Lib.hid (fun (z : Value) => OLD.out _ (Q9.out.2.2.setCell (p := ⟨w5.heap.size, 1, none⟩) (Nat.le_refl _) z))
        obtain ⟨q0, q1, _⟩ := OLD.out w9 Q9.out.2.2
        have R9 := Lib.hid (cp_done Q9.out.1 Q9.out.2.1 Q9.out.2.2 HT.out HO.out hgrow EA.out hTl hXs)
        clear hown hgrow hat
        refine hK.out _ _ ?_ (fun hHeld => ?_)
        · (try dsimp only)
          first | assumption | (simp [go_sem, *]; done) | (simp [go_sem, World.cell?_alloc_some, *]; done) | exact ⟨(e9.out _).1, (e9.out _).2.1⟩
        clear hK K
        (try simp only [Act.put, List.setIfInBounds_toArray, List.set_cons_zero, List.set_cons_succ])
        refine wpAnyH_ready (rs := [8]) (by kernel_rfl) (by simp) ?_
        refine AllReadyH.cons (o := ⟨some 36, _, _, _, _, _⟩) rfl (fun K hK => ?_) AllReadyH.nil
        go_simp
        refine hK.out _ _ ?_ (fun hHeld => ?_)
        · (try dsimp only)
          first | assumption | (simp [go_sem, *]; done) | (simp [go_sem, World.cell?_alloc_some, *]; done) | exact ⟨(e9.out _).1, (e9.out _).2.1⟩
        clear hK K
        (try simp only [List.setIfInBounds_toArray, List.set_cons_zero, List.set_cons_succ])
        refine wpAnyH_ready (rs := [9]) (by kernel_rfl) (by simp) ?_
        refine AllReadyH.cons (o := ⟨none, _, _, _, _, _⟩) rfl (fun K hK => ?_) AllReadyH.nil
        go_simp
        refine hK.out _ _ ?_ (fun hHeld => ?_)
        · (try dsimp only)
          first | assumption | (simp [go_sem, *]; done) | (simp [go_sem, World.cell?_alloc_some, *]; done) | exact ⟨(e9.out _).1, (e9.out _).2.1⟩
        clear hK K
        (try simp only [List.setIfInBounds_toArray, List.set_cons_zero, List.set_cons_succ])
        refine wpAnyH_done (by kernel_rfl) ?_ _
        exact ⟨rfl, R9.out⟩
    · rintro e a3 W3 ⟨rfl, hR⟩
      have e1 : (pre ++ [pre.length]).length = pre.length + 1 := by simp
      exact ⟨hR.1, hR.2.1, by show CpI _ _ _ _ _ (pre ++ [pre.length]).length _; rw [e1]; exact hR.2.2⟩
  case done =>
    rintro D ys X hD hys ⟨dv, hTb, hDv, hBX, hXs⟩ hK
    obtain ⟨c0, c1, f0, f1⟩ := blk2 hTb
    have R2 := K2.out.below hBX (by omega)
    obtain ⟨d0, d1, g0, g1⟩ := blk2 R2
    have hDv2 : X.ownsRow w7.heap.size 2 1 dv (cps sh st off ls N).length (ints (cps sh st off ls N)) := by
      have h := hDv
      rw [show ys.length = N from hys, List.take_of_length_le (by rw [cps_len]; exact Nat.le_refl _)] at h
      rw [cps_len]
      exact h
    clear hDv hys
    generalize cps sh st off ls N = ds at *
    obtain ⟨od, cd, rfl, _⟩ := Ld.of_owns hDv2
    have hDb : w.heap.size ≤ D := by omega
    have hb2 : w.heap.size + 2 < w5.heap.size := by omega
    have e1 := cp_end (Below.keepOwn O5.out hBX (Nat.le_refl _)) R2 hK rfl (by decide) (.slice o5 sh.length c5) (.slice od ds.length cd) (.deferred none)
    have e2 := cp_end (own_base hDv2 (show w.heap.size ≤ w7.heap.size by omega)) R2 hK rfl (by decide) (.slice o5 sh.length c5) (.slice od ds.length cd) (.deferred none)
    have hK2 : ((X.setCell ⟨w.heap.size + 2, 0, none⟩ (.slice o5 sh.length c5)).setCell ⟨w.heap.size + 2, 1, none⟩ (.slice od ds.length cd)).heap[D]? = some (.deferred (some [])) := ((Below.heap_setCell _ _ _ _ (by show D ≠ w.heap.size + 2; omega)).trans (Below.heap_setCell _ _ _ _ (by show D ≠ w.heap.size + 2; omega))).trans hK
    have e3 : Below w.heap.size w ((((X.setCell ⟨w.heap.size + 2, 0, none⟩ (.slice o5 sh.length c5)).setCell ⟨w.heap.size + 2, 1, none⟩ (.slice od ds.length cd))).putObj D (.deferred none)) := (((b5.trans (hBX.mono (by omega))).setCell (p := ⟨w.heap.size + 2, 0, none⟩) (by show w.heap.size ≤ w.heap.size + 2; omega) _).setCell (p := ⟨w.heap.size + 2, 1, none⟩) (by show w.heap.size ≤ w.heap.size + 2; omega) _).trans (belowK_b (w := w) (Nat.le_refl _) _ D _ (.deferred none) hDb hK2 rfl rfl)
    have R3 : Blk ((((X.setCell ⟨w.heap.size + 2, 0, none⟩ (.slice o5 sh.length c5)).setCell ⟨w.heap.size + 2, 1, none⟩ (.slice od ds.length cd))).putObj D (.deferred none)) (w.heap.size + 2) 28 #[.slice o5 sh.length c5, .slice od ds.length cd] := ((R2.set_ 0 _).set_ 1 _).kept (grownBy_putObj' _ D _) (by intro e; cases e; omega)
    obtain ⟨p0, p1, _⟩ := blk2 R3
    have EN := Lib.hid (And.intro e1 (And.intro e2 e3))
    have HK2 := Lib.hid hK2
    have P0 := Lib.hid (And.intro p0 p1)
    clear e1 e2 e3 hK2 R3 p0 p1 hDv2
    go_wp2
    refine ⟨by simp, .inl ⟨_, _, rfl, run_takeDeferred HK2.out, ?_⟩⟩
    have p0 := P0.out.1
    have p1 := P0.out.2
    refine ⟨.tuple #[.agg #[.slice o5 sh.length c5, .slice od ds.length cd], .int .i64 0], by simp [results, Try.results37, go_sem, p0, p1], ?_⟩
    exact ⟨o5, c5, od, cd, rfl, EN.out⟩
  case stop =>
    rintro D cd pre X hD hpre hf hK
    exact hf.elim

/-- Copy's error. -/
def cpe (sh st ls : List Int) (off : Int) : Int := if vwb sh st off ls.length && wds ls then 0 else 1
set_option maxRecDepth 100000 in
set_option maxHeartbeats 8000000 in
theorem copy_no (vs vt vd : Value) (sh st ls : List Int) (off : Int) (w : World) (hs : Ld w vs sh) (ht : Ld w vt st) (hd : Ld w vd ls) (l1 : sh.length ≤ 17592186044416) (l2 : st.length ≤ 17592186044416) (l3 : ls.length ≤ 17592186044416) (hv : (vwb sh st off ls.length && wds ls) = false) :
    Calls Try.prog 37 #[.agg #[vs, vt, .int .i64 off], vd] w (SomeT w 1 [] []) := by
  obtain ⟨w3, hw3⟩ : ∃ w3, w3 = ((w.alloc (.cells #[vs, vt, .int .i64 off] 25)).alloc (.cells #[vd] 26)).alloc (.cells #[.slice none 0 0, .slice none 0 0] 28) := ⟨_, rfl⟩
  have hsz : w3.heap.size = w.heap.size + 3 := by rw [hw3]; simp
  have B3 : Below w.heap.size w w3 := by rw [hw3]; exact (((Below.refl _ _).alloc (Nat.le_refl _) _).alloc (by simp) _).alloc (by simp; omega) _
  have K1 : Hid (Blk w3 (w.heap.size + 1) 26 #[vd]) := by rw [hw3]; exact (blk_new1 w _ _ _).alloc _
  have K2 : Hid (Blk w3 (w.heap.size + 2) 28 #[.slice none 0 0, .slice none 0 0]) := by
    rw [hw3]
    have q := Blk.new ((w.alloc (.cells #[vs, vt, .int .i64 off] 25)).alloc (.cells #[vd] 26)) 28 #[.slice none 0 0, .slice none 0 0]
    rwa [World.size_alloc, World.size_alloc] at q
  have C1 : Hid (∀ n, w3.heap.size = n → Calls Try.prog 28 #[.agg #[vs, vt, .int .i64 off], .int .i64 (ls.length : Int)] w3 fun e w' => e = .returned (.int .i64 (frm (vwb sh st off ls.length))) ∧ Below n w3 w') := fun n hn => by
    subst hn
    exact vcheck_any vs vt sh st off ls.length w3 (hs.below B3) (ht.below B3) l1 l2
  replace C1 := Lib.hid (C1.out (w.heap.size + 3) hsz)
  have C3 := Lib.hid (fun (W : World) (hW : Below w.heap.size w W) => arewords_any vd ls W (hd.below hW) (by omega))
  obtain ⟨o1, n1, rfl, _, _⟩ := id hs
  obtain ⟨o2, n2, rfl, _, _⟩ := id ht
  obtain ⟨o3, n3, rfl, _, _⟩ := id hd
  have HW := Lib.hid hw3
  rw [hw3] at C1
  clear hw3 hs ht hd
  have END : ∀ W, Below w.heap.size w W → ∀ T, Blk W T 28 #[.slice none 0 0, .slice none 0 0] → w.heap.size ≤ T → SomeT w 1 [] [] (.returned (.tuple #[.agg #[.slice none 0 0, .slice none 0 0], .int .i64 1])) W := fun W hW T _ _ => ⟨none, 0, none, 0, rfl, World.ownsRow_nil _ _ _ _, World.ownsRow_nil _ _ _ _, hW⟩
  have HE := Lib.hid END
  clear END
  cases hvw : vwb sh st off ls.length with
  | false =>
    rw [hvw, frm_f] at C1
    clear hv hvw
    go_enter Try.func37, Try.ntmps37
    go_wp2_with (go_at_call 28; (with_reducible refine C1.out.mono ?_); rintro e w4 ⟨rfl, hb4⟩; rw [← HW.out] at hb4; have b4 := B3.trans (hb4.mono (by omega)); replace K2 := Lib.hid (K2.out.below hb4 (by omega)); obtain ⟨d0, d1, f0, f1⟩ := blk2 K2.out; clear hb4)
    have K3 := (K2.out.set_ 0 (.slice none 0 0)).set_ 1 (.slice none 0 0)
    obtain ⟨p0, p1, _, _⟩ := blk2 K3
    refine bodyPost_ret (v := .tuple #[.agg #[.slice none 0 0, .slice none 0 0], .int .i64 1]) (by simp [results, Try.results37, go_sem, p0, p1]) rfl ?_
    exact HE.out _ ((b4.setCell (by show w.heap.size ≤ w.heap.size + 1 + 1; omega) _).setCell (by show w.heap.size ≤ w.heap.size + 1 + 1; omega) _) _ K3 (by omega)
  | true =>
    have hw0 : wds ls = false := by rw [hvw, Bool.true_and] at hv; exact hv
    rw [hvw, frm_t] at C1
    rw [hw0] at C3
    clear hv hvw hw0
    go_enter Try.func37, Try.ntmps37
    go_wp2_with (first
      | (go_at_call 28; (with_reducible refine C1.out.mono ?_); rintro e w4 ⟨rfl, hb4⟩; rw [← HW.out] at hb4; have b4 := B3.trans (hb4.mono (by omega)); replace K2 := Lib.hid (K2.out.below hb4 (by omega)); obtain ⟨d0, d1, f0, f1⟩ := blk2 K2.out; have c3 := (K1.out.below hb4 (by omega)).cell 0; clear hb4)
      | (go_at_call 61; (with_reducible refine (C3.out _ b4).mono ?_); rintro e w' ⟨rfl, rfl⟩))
    have K3 := (K2.out.set_ 0 (.slice none 0 0)).set_ 1 (.slice none 0 0)
    obtain ⟨p0, p1, _, _⟩ := blk2 K3
    refine bodyPost_ret (v := .tuple #[.agg #[.slice none 0 0, .slice none 0 0], .int .i64 1]) (by simp [results, Try.results37, go_sem, p0, p1]) rfl ?_
    exact HE.out _ ((b4.setCell (by show w.heap.size ≤ w.heap.size + 1 + 1; omega) _).setCell (by show w.heap.size ≤ w.heap.size + 1 + 1; omega) _) _ K3 (by omega)
end Go.Proofs.Ytdefgmkkkeemoaa
namespace Go.Proofs.Ytdefgmkkkeemoaa
open Go.RowKit Go.Shelf

theorem of7 (W : World) (v : Value) (h : Ld W v [2, 2]) : Calls Try.prog 24 #[v] W fun e w' => ∃ os cs ot ct, e = .returned (.tuple #[.agg #[.slice os 2 cs, .slice ot 2 ct, .int .i64 0], .int .i64 0]) ∧ Ld w' (.slice os 2 cs) [2, 2] ∧ Ld w' (.slice ot 2 ct) [2, 1] ∧ Below W.heap.size W w' := by
  have C1 := of_any v [2, 2] W h (by decide)
  rw [show ofe [2, 2] = 0 by decide] at C1
  refine C1.mono ?_
  rintro e w' ⟨os, cs, ot, ct, rfl, ho, hb⟩
  exact ⟨os, cs, ot, ct, rfl, (ov_ld ho).1, (ov_ld ho).2, hb⟩
theorem tr7 (W : World) (vs vt va : Value) (hs : Ld W vs [2, 2]) (ht : Ld W vt [2, 1]) (ha : Ld W va [1, 0]) : Calls Try.prog 19 #[.agg #[vs, vt, .int .i64 0], va] W fun e w' => ∃ os cs ot ct, e = .returned (.tuple #[.agg #[.slice os 2 cs, .slice ot 2 ct, .int .i64 0], .int .i64 0]) ∧ Ld w' (.slice os 2 cs) [2, 2] ∧ Ld w' (.slice ot 2 ct) [1, 2] ∧ Below W.heap.size W w' := by
  have C2 := transpose_any vs vt va [2, 2] [2, 1] [1, 0] 0 W hs ht ha (by decide) (by decide) (by decide)
  rw [show tre [2, 2] [2, 1] 0 [1, 0] = 0 by decide, show trl [2, 2] [1, 0] = [2, 2] by decide, show trl [2, 1] [1, 0] = [1, 2] by decide] at C2
  refine C2.mono ?_
  rintro e w' ⟨os, cs, ot, ct, rfl, ho, hb⟩
  exact ⟨os, cs, ot, ct, rfl, (ov_ld ho).1, (ov_ld ho).2, hb⟩
theorem cp7 (W : World) (vs vt vd : Value) (hs : Ld W vs [2, 2]) (ht : Ld W vt [1, 2]) (hd : Ld W vd [1, 2, 3, 4]) : Calls Try.prog 37 #[.agg #[vs, vt, .int .i64 0], vd] W fun e w' => ∃ os cs od cd, e = .returned (.tuple #[.agg #[.slice os 2 cs, .slice od 4 cd], .int .i64 0]) ∧ Ld w' (.slice od 4 cd) [1, 3, 2, 4] ∧ Below W.heap.size W w' := by
  have C3 := copy_ok vs vt vd [2, 2] [1, 2] [1, 2, 3, 4] 0 4 W hs ht hd (by decide) (by decide) (by decide)
  rw [show cps [2, 2] [1, 2] 0 [1, 2, 3, 4] 4 = [1, 3, 2, 4] by decide] at C3
  refine C3.mono ?_
  rintro e w' ⟨os, cs, od, cd, rfl, h1, h2, hb⟩
  obtain ⟨_, _, e, h⟩ := Ld.of_owns h2
  simp only [Value.slice.injEq] at e
  obtain ⟨rfl, _, rfl⟩ := e
  exact ⟨os, cs, od, cd, rfl, h, hb⟩
theorem eq7 (W : World) (va vb : Value) (ha : Ld W va [1, 3, 2, 4]) (hb : Ld W vb [1, 3, 2, 4]) : Calls Try.prog 40 #[va, vb] W fun e w' => e = .returned (.bool true) ∧ Below W.heap.size W w' := by
  have C4 := eqw_any va vb [1, 3, 2, 4] [1, 3, 2, 4] W ha hb (by decide) (by decide)
  rwa [show decide ([(1 : Int), 3, 2, 4] = [1, 3, 2, 4]) = true by decide] at C4

theorem ld2 {W : World} {n : Nat} {t : TypeId} {x y : Int} (h : W.heap.size = n) : Ld (W.alloc (.cells #[.int .i64 x, .int .i64 y] t)) (.slice (some ⟨n, 0, none⟩) 2 2) [x, y] := by
  subst h; exact Ld.of_blk (ls := [x, y]) (Blk.new W t _) (Nat.le_refl _)
theorem ld4 {W : World} {n : Nat} {t : TypeId} {x y z u : Int} (h : W.heap.size = n) : Ld (W.alloc (.cells #[.int .i64 x, .int .i64 y, .int .i64 z, .int .i64 u] t)) (.slice (some ⟨n, 0, none⟩) 4 4) [x, y, z, u] := by
  subst h; exact Ld.of_blk (ls := [x, y, z, u]) (Blk.new W t _) (Nat.le_refl _)

theorem two_al {w W : World} {B : Nat} (h : Below B w W) (hB : B ≤ W.heap.size) (x y : Obj) : Below B w ((W.alloc x).alloc y) := (h.alloc hB x).alloc (by simp; omega) y
set_option maxRecDepth 100000 in
set_option maxHeartbeats 8000000 in
theorem wakes7_any (w : World) : Calls Try.prog 29 #[] w fun e w' => e = .returned (.bool true) ∧ Below w.heap.size w w' := by
  have K1 := Lib.hid ((Below.refl w.heap.size w).alloc (Nat.le_refl _) (.cells #[.int .i64 2, .int .i64 2] 3))
  go_enter Try.func29, Try.ntmps29
  go_wp2_with (first
    | (go_at_call 24; (with_reducible refine (of7 _ _ (ld2 rfl)).mono ?_); rintro e w1 ⟨o1, c1, o2, c2, rfl, h1, h2, hb1⟩; have B1 := K1.out.trans (hb1.mono (by simp)); have H1 := Lib.hid (And.intro h1 h2); clear h1 h2 hb1)
    | (go_at_call 19; (with_reducible refine (tr7 _ _ _ _ (H1.out.1.below (two_al (Below.refl _ _) (Nat.le_refl _) _ _)) (H1.out.2.below (two_al (Below.refl _ _) (Nat.le_refl _) _ _)) (ld2 (World.size_alloc _ _))).mono ?_); rintro e w2 ⟨o3, c3, o4, c4, rfl, h1, h2, hb2⟩; have B2 := (two_al B1 B1.size _ _).trans (hb2.mono (by have := B1.size; simp; omega)); have H2 := Lib.hid (And.intro h1 h2); clear h1 h2 hb2)
    | (go_at_call 37; (with_reducible refine (cp7 _ _ _ _ (H2.out.1.below (two_al (Below.refl _ _) (Nat.le_refl _) _ _)) (H2.out.2.below (two_al (Below.refl _ _) (Nat.le_refl _) _ _)) (ld4 (World.size_alloc _ _))).mono ?_); rintro e w3 ⟨o6, c6, o5, c5, rfl, h1, hb3⟩; have B3 := (two_al B2 B2.size _ _).trans (hb3.mono (by have := B2.size; simp; omega)); have H3 := Lib.hid h1; clear h1 hb3)
    | (go_at_call 40; (with_reducible refine (eq7 _ _ _ (H3.out.below (two_al (Below.refl _ _) (Nat.le_refl _) _ _)) (ld4 (World.size_alloc _ _))).mono ?_); rintro e w4 ⟨rfl, hb4⟩; have B4 := (two_al B3 B3.size _ _).trans (hb4.mono (by have := B3.size; simp; omega)); clear hb4)
    | (go_at_call 27; (with_reducible refine (num7_any _ _).mono ?_); rintro e w' ⟨rfl, rfl⟩))
  go_ret
  exact ⟨rfl, B4⟩
end Go.Proofs.Ytdefgmkkkeemoaa
namespace Go.Proofs.Ytdefgmkkkeemoaa
open Go.ChangeShapes Go.WideShapes Go.ChangeAt Go.RowKit Go.Deep

theorem Try.own : ownKnob Try.prog.godebug = none := by kernel_rfl
theorem Try.laidOut : laidOutB Try.prog = true := by kernel_rfl
theorem s_i64 {x : Int} (h : (Lit.int .i64 x).wf = true) : -9223372036854775808 ≤ x ∧ x ≤ 9223372036854775807 := by
  simp [Lit.wf, IntKind.min, IntKind.max, IntKind.signed, IntKind.bits] at h
  exact ⟨by omega, by omega⟩
theorem cS1 : Try.prog.cellsOf 23 = 1 := by kernel_rfl
theorem cS2 : Try.prog.cellsOf 3 = 1 := by kernel_rfl
theorem cS3 : Try.prog.cellsOf 25 = 3 := by kernel_rfl
theorem cS5 : Try.prog.cellsOf 26 = 1 := by kernel_rfl
theorem cS6 : Try.prog.cellsOf 2 = 1 := by kernel_rfl
theorem cS7 : Try.prog.cellsOf 28 = 2 := by kernel_rfl
theorem cS11 : Try.prog.cellsOf 30 = 11 := by kernel_rfl
theorem bS2 : Try.prog.bytesOf 3 = 8 := by kernel_rfl
theorem bS6 : Try.prog.bytesOf 2 = 8 := by kernel_rfl
theorem reach_is : reachBytes = 140737488351232 := rfl

/-- All that it weighs is within reach. -/
def Lite {H : Type} (t : TypeId) (d : DataW H) : Prop := ∀ n ∈ d.weights Try.prog t, n ≤ reachBytes
theorem lite_all {H : Type} {e : TypeId} : ∀ {l : List (DataW H)} {d : DataW H}, d ∈ l → ∀ n ∈ d.weights Try.prog e, n ∈ DataW.weightsAll Try.prog e l
  | d' :: r, d, hd, n, hn => by
    simp only [DataW.weightsAll, List.mem_append]
    rcases List.mem_cons.1 hd with rfl | h
    · exact .inl hn
    · exact .inr (lite_all h n hn)
theorem lite_in {H : Type} {t e : TypeId} {elems spare : List (DataW H)} {d : DataW H} (hu : Try.prog.underlying t = some (.slice e)) (h : Lite t (.slice elems spare)) (hd : d ∈ elems) : Lite e d := fun n hn =>
  h n (by simp only [DataW.weights, hu, List.mem_cons, List.mem_append]; exact .inr (.inl (lite_all hd n hn)))
theorem lite_len {H : Type} {t e : TypeId} {elems spare : List (DataW H)} (hu : Try.prog.underlying t = some (.slice e)) (hb : Try.prog.bytesOf e = 8) (h : Lite t (.slice elems spare)) : elems.length ≤ 17592186043904 := by
  have := h ((elems.length + spare.length) * Try.prog.bytesOf e) (by simp [DataW.weights, hu])
  rw [hb, reach_is] at this
  omega
theorem lite_part {H : Type} {t : TypeId} {fs : Array Field} {parts : List (DataW H)} {j : Nat} {d : DataW H} {u : TypeId} (hu : Try.prog.underlying t = some (.struct fs)) (h : Lite t (.agg parts)) (hj : (fs.toList.map (·.type))[j]? = some u) (hd : parts[j]? = some d) : Lite u d := fun n hn =>
  h n (by simp only [DataW.weights, hu]; exact DataW.weights_mem_each hj hd n hn)

section
variable {H : Type} {enc : TypeId × Value → H} {w : World} {base : Nat} {spare : Nat → Bool} {held : Bool}
set_option maxRecDepth 100000 in
theorem open_nums {t e : TypeId} {fuel : Nat} {v : Value} {x : DataW H × List MemPlace} (hu : Try.prog.underlying t = some (.slice e)) (hc : Try.prog.cellsOf e = 1) (hb : Try.prog.bytesOf e = 8) (hi : Try.prog.underlying e = some (.int .i64))
    (h : DataW.trod enc Try.prog w base spare held fuel t [v] = some x) (hz : Lite t x.1) : ∃ ls, Ld w v ls ∧ ls.length ≤ 17592186043904 := by
  rcases open_slice1 hu hc h with ⟨hcs, _⟩ | ⟨a, len, cap, m, n, V, D, Pl, hcs, _, hl, hm, hmm, hx, hia⟩
  · simp only [List.cons.injEq, and_true] at hcs
    subst hcs
    exact ⟨[], Ld.nil w, by simp⟩
  · simp only [List.cons.injEq, and_true] at hcs
    subst hcs
    have hle : len ≤ m := by rw [hmm]; split <;> omega
    have hlen2 : len ≤ 17592186043904 := by
      rw [hx] at hz
      have := lite_len hu hb hz
      simpa using this
    have hall : ∀ i, i < len → ∃ y : Int, w.cell? (a.add i) = some (.int .i64 y) := by
      intro i hik
      obtain ⟨hc, ht⟩ := hia i (by omega)
      obtain ⟨y, e0, _, _⟩ := DataW.trod_int hi ht
      simp only [List.cons.injEq, and_true] at e0
      exact ⟨y, by rw [hc, e0]⟩
    let ys : Nat → Int := fun i => if h : i < len then (hall i h).choose else 0
    have hys : ∀ i, i < len → w.cell? (a.add i) = some (.int .i64 (ys i)) := by
      intro i hik
      have := (hall i hik).choose_spec
      simp only [ys, dif_pos hik]
      exact this
    have hlen : ((List.range len).map ys).length = len := by simp
    refine ⟨(List.range len).map ys, ⟨some a, cap, by rw [hlen], by rw [hlen]; exact hl, fun i hi2 => ?_⟩, by rw [hlen]; exact hlen2⟩
    rw [hlen] at hi2
    obtain ⟨b, off, spot⟩ := a
    have hc := hys i hi2
    have hspot : spot = none := by simpa [Addr.add] using World.cell?_spot (hys 0 (by omega))
    subst hspot
    rw [Go.WideShapes.add_plain] at hc
    have hg : ((List.range len).map ys).getD i 0 = ys i := by simp [List.getD, hi2]
    exact ⟨b, off, rfl, World.block_lt_of_cell? w _ hc, by rw [hg]; exact hc⟩

set_option maxRecDepth 100000 in
theorem open_view {fuel : Nat} {v0 v1 v2 : Value} {x : DataW H × List MemPlace} (h : DataW.trod enc Try.prog w base spare held fuel 25 [v0, v1, v2] = some x) (hz : Lite 25 x.1) :
    ∃ sh st off, Ld w v0 sh ∧ Ld w v1 st ∧ v2 = .int .i64 off ∧ sh.length ≤ 17592186043904 ∧ st.length ≤ 17592186043904 ∧ -9223372036854775808 ≤ off ∧ off ≤ 9223372036854775807 := by
  obtain ⟨xs, n, _, hx, _, hxl, hf⟩ := DataW.trod_struct Try.underlying25 h
  have hxl2 : xs.length = 3 := hxl
  match xs, hxl2 with
  | [x0, x1, x2], _ =>
    have h0 : DataW.trod enc Try.prog w base spare held n 23 ((([v0, v1, v2] : List Value).drop 0).take (Try.prog.cellsOf 23)) = some x0 := hf 0 _ rfl
    have h1 : DataW.trod enc Try.prog w base spare held n 23 ((([v0, v1, v2] : List Value).drop 1).take (Try.prog.cellsOf 23)) = some x1 := hf 1 _ rfl
    have h2 : DataW.trod enc Try.prog w base spare held n 3 ((([v0, v1, v2] : List Value).drop 2).take (Try.prog.cellsOf 3)) = some x2 := hf 2 _ rfl
    simp only [cS1, cS2, List.drop_zero, List.drop_succ_cons, List.take_succ_cons, List.take_zero] at h0 h1 h2
    rw [hx] at hz
    obtain ⟨s, hs, ls⟩ := open_nums Try.underlying23 cS2 bS2 Try.underlying3 h0 (lite_part (j := 0) Try.underlying25 hz rfl rfl)
    obtain ⟨t, ht, lt⟩ := open_nums Try.underlying23 cS2 bS2 Try.underlying3 h1 (lite_part (j := 1) Try.underlying25 hz rfl rfl)
    obtain ⟨y, e3, _, wy⟩ := DataW.trod_int Try.underlying3 h2
    simp only [List.cons.injEq, and_true] at e3
    exact ⟨s, t, y, hs, ht, e3, ls, lt, s_i64 wy⟩
set_option maxRecDepth 100000 in
theorem open_tens {fuel : Nat} {v0 v1 : Value} {x : DataW H × List MemPlace} (h : DataW.trod enc Try.prog w base spare held fuel 28 [v0, v1] = some x) (hz : Lite 28 x.1) :
    ∃ ts tds, Ld w v0 ts ∧ Ld w v1 tds ∧ ts.length ≤ 17592186043904 ∧ tds.length ≤ 17592186043904 := by
  obtain ⟨xs, n, _, hx, _, hxl, hf⟩ := DataW.trod_struct Try.underlying28 h
  have hxl2 : xs.length = 2 := hxl
  match xs, hxl2 with
  | [x0, x1], _ =>
    have h0 : DataW.trod enc Try.prog w base spare held n 23 ((([v0, v1] : List Value).drop 0).take (Try.prog.cellsOf 23)) = some x0 := hf 0 _ rfl
    have h1 : DataW.trod enc Try.prog w base spare held n 26 ((([v0, v1] : List Value).drop 1).take (Try.prog.cellsOf 26)) = some x1 := hf 1 _ rfl
    simp only [cS1, cS5, List.drop_zero, List.drop_succ_cons, List.take_succ_cons, List.take_zero] at h0 h1
    rw [hx] at hz
    obtain ⟨s, hs, ls⟩ := open_nums Try.underlying23 cS2 bS2 Try.underlying3 h0 (lite_part (j := 0) Try.underlying28 hz rfl rfl)
    obtain ⟨t, ht, lt⟩ := open_nums Try.underlying26 cS6 bS6 Try.underlying2 h1 (lite_part (j := 1) Try.underlying28 hz rfl rfl)
    exact ⟨s, t, hs, ht, ls, lt⟩
set_option maxRecDepth 100000 in
set_option maxHeartbeats 2000000 in
theorem open_ask {fuel : Nat} {cs : List Value} {x : DataW H × List MemPlace} (h : DataW.trod enc Try.prog w base spare held fuel 30 cs = some x) (hz : Lite 30 x.1) :
    ∃ e : Ak, e.ok w ∧ cs = [e.U, e.T, .int .i64 e.off, e.D, e.X, e.V, .int .i64 e.A, .int .i64 e.B, .int .i64 e.C, e.P, e.R] := by
  obtain ⟨xs, n, _, hx, hl, hxl, hf⟩ := DataW.trod_struct Try.underlying30 h
  rw [cS11] at hl
  match cs, hl with
  | [v0, v1, v2, v3, v4, v5, v6, v7, v8, v9, v10], _ =>
    have hxl2 : xs.length = 8 := hxl
    match xs, hxl2 with
    | [x0, x1, x2, x3, x4, x5, x6, x7], _ =>
      have h0 : DataW.trod enc Try.prog w base spare held n 25 ((([v0, v1, v2, v3, v4, v5, v6, v7, v8, v9, v10] : List Value).drop 0).take (Try.prog.cellsOf 25)) = some x0 := hf 0 _ rfl
      have h1 : DataW.trod enc Try.prog w base spare held n 26 ((([v0, v1, v2, v3, v4, v5, v6, v7, v8, v9, v10] : List Value).drop 3).take (Try.prog.cellsOf 26)) = some x1 := hf 1 _ rfl
      have h2 : DataW.trod enc Try.prog w base spare held n 23 ((([v0, v1, v2, v3, v4, v5, v6, v7, v8, v9, v10] : List Value).drop 4).take (Try.prog.cellsOf 23)) = some x2 := hf 2 _ rfl
      have h3 : DataW.trod enc Try.prog w base spare held n 23 ((([v0, v1, v2, v3, v4, v5, v6, v7, v8, v9, v10] : List Value).drop 5).take (Try.prog.cellsOf 23)) = some x3 := hf 3 _ rfl
      have h4 : DataW.trod enc Try.prog w base spare held n 3 ((([v0, v1, v2, v3, v4, v5, v6, v7, v8, v9, v10] : List Value).drop 6).take (Try.prog.cellsOf 3)) = some x4 := hf 4 _ rfl
      have h5 : DataW.trod enc Try.prog w base spare held n 3 ((([v0, v1, v2, v3, v4, v5, v6, v7, v8, v9, v10] : List Value).drop 7).take (Try.prog.cellsOf 3)) = some x5 := hf 5 _ rfl
      have h6 : DataW.trod enc Try.prog w base spare held n 3 ((([v0, v1, v2, v3, v4, v5, v6, v7, v8, v9, v10] : List Value).drop 8).take (Try.prog.cellsOf 3)) = some x6 := hf 6 _ rfl
      have h7 : DataW.trod enc Try.prog w base spare held n 28 ((([v0, v1, v2, v3, v4, v5, v6, v7, v8, v9, v10] : List Value).drop 9).take (Try.prog.cellsOf 28)) = some x7 := hf 7 _ rfl
      simp only [cS1, cS2, cS3, cS5, cS7, List.drop_zero, List.drop_succ_cons, List.take_succ_cons, List.take_zero] at h0 h1 h2 h3 h4 h5 h6 h7
      rw [hx] at hz
      have q := fun (j : Nat) (u : TypeId) (d : DataW H) => lite_part (j := j) (u := u) (d := d) Try.underlying30 hz
      obtain ⟨sh, st, off, hs, ht, rfl, l0, l1, o0, o1⟩ := open_view h0 (q 0 _ _ rfl rfl)
      obtain ⟨ds, hd, l2⟩ := open_nums Try.underlying26 cS6 bS6 Try.underlying2 h1 (q 1 _ _ rfl rfl)
      obtain ⟨ax, hax, l3⟩ := open_nums Try.underlying23 cS2 bS2 Try.underlying3 h2 (q 2 _ _ rfl rfl)
      obtain ⟨s, hs2, l4⟩ := open_nums Try.underlying23 cS2 bS2 Try.underlying3 h3 (q 3 _ _ rfl rfl)
      obtain ⟨a, ea, _, wa⟩ := DataW.trod_int Try.underlying3 h4
      obtain ⟨b, eb, _, wb⟩ := DataW.trod_int Try.underlying3 h5
      obtain ⟨c, ec, _, wc⟩ := DataW.trod_int Try.underlying3 h6
      obtain ⟨ts, tds, hts, htd, l5, l6⟩ := open_tens h7 (q 7 _ _ rfl rfl)
      simp only [List.cons.injEq, and_true] at ea eb ec
      subst ea; subst eb; subst ec
      exact ⟨⟨v0, v1, v3, v4, v5, v9, v10, sh, st, ds, ax, s, ts, tds, off, a, b, c⟩, ⟨⟨hs, ht, hd, hax, hs2, hts, htd⟩, ⟨by simp only; omega, by simp only; omega, by simp only; omega, by simp only; omega, by simp only; omega, by simp only; omega, by simp only; omega⟩, s_i64 wa, s_i64 wb, s_i64 wc, o0, o1⟩, rfl⟩

set_option maxRecDepth 100000 in
set_option maxHeartbeats 2000000 in
/-- The list: nil or empty, or its elements' cells. -/
theorem open_asks {fuel : Nat} {v : Value} {x : DataW H × List MemPlace} (h : DataW.trod enc Try.prog w base spare held fuel 22 [v] = some x) (hz : Lite 22 x.1) :
    (∃ o cap, v = .slice o 0 cap) ∨ ∃ (b off len cap : Nat) (es : Nat → Ak), v = .slice (some ⟨b, off, none⟩) len cap ∧ len ≤ 9223372036854775807 ∧ b < w.heap.size ∧
      (∀ i, i < len → AkAt w b (off + i * 11) (es i)) ∧ (∀ i, i < len → (es i).ok w) := by
  rcases open_slice Try.underlying22 h with ⟨hcs, _⟩ | ⟨a, len, cap, m, n, D, Pl, hcs, _, hl, hm, hmm, hx, hi⟩
  · left
    simp only [List.cons.injEq, and_true] at hcs
    exact ⟨_, _, hcs⟩
  · simp only [List.cons.injEq, and_true] at hcs
    subst hcs
    by_cases h0 : len = 0
    · subst h0; exact .inl ⟨_, _, rfl⟩
    right
    have hle : len ≤ m := by rw [hmm]; split <;> omega
    rw [cS11] at hi
    rw [hx] at hz
    have hall : ∀ i, i < len → ∃ e : Ak, e.ok w ∧ ∀ j, j < 11 → w.cell? ((a.add (i * 11)).add j) = ([e.U, e.T, .int .i64 e.off, e.D, e.X, e.V, .int .i64 e.A, .int .i64 e.B, .int .i64 e.C, e.P, e.R] : List Value)[j]? := by
      intro i hik
      obtain ⟨cs', hc, ht⟩ := hi i (by omega)
      obtain ⟨e, he, rfl⟩ := open_ask ht (lite_in Try.underlying22 hz (List.mem_map.2 ⟨i, List.mem_range.2 hik, rfl⟩))
      exact ⟨e, he, (World.cells?_some hc).2.2⟩
    let es : Nat → Ak := fun i => if h : i < len then (hall i h).choose else ⟨.bool false, .bool false, .bool false, .bool false, .bool false, .bool false, .bool false, [], [], [], [], [], [], [], 0, 0, 0, 0⟩
    have hes : ∀ i, i < len → (es i).ok w ∧ ∀ j, j < 11 → w.cell? ((a.add (i * 11)).add j) = ([(es i).U, (es i).T, .int .i64 (es i).off, (es i).D, (es i).X, (es i).V, .int .i64 (es i).A, .int .i64 (es i).B, .int .i64 (es i).C, (es i).P, (es i).R] : List Value)[j]? := by
      intro i hik
      have := (hall i hik).choose_spec
      simp only [es, dif_pos hik]
      exact this
    obtain ⟨b, off, spot⟩ := a
    have hspot : spot = none := by
      have := (hes 0 (by omega)).2 0 (by decide)
      simpa [Addr.add] using World.cell?_spot this
    subst hspot
    have cell : ∀ i, i < len → ∀ j, j < 11 → w.cell? ⟨b, off + i * 11 + j, none⟩ = ([(es i).U, (es i).T, .int .i64 (es i).off, (es i).D, (es i).X, (es i).V, .int .i64 (es i).A, .int .i64 (es i).B, .int .i64 (es i).C, (es i).P, (es i).R] : List Value)[j]? := by
      intro i hik j hj
      rw [← (hes i hik).2 j hj, Go.WideShapes.add_plain, Go.WideShapes.add_plain]
    refine ⟨b, off, len, cap, es, rfl, by unfold maxLen at hm; omega, ?_, fun i hik => ?_, fun i hik => (hes i hik).1⟩
    · exact World.block_lt_of_cell? w _ (by have := cell 0 (by omega) 0 (by decide); simpa using this)
    · exact ⟨cell i hik 0 (by decide), cell i hik 1 (by decide), cell i hik 2 (by decide), cell i hik 3 (by decide), cell i hik 4 (by decide), cell i hik 5 (by decide), cell i hik 6 (by decide), cell i hik 7 (by decide), cell i hik 8 (by decide), cell i hik 9 (by decide), cell i hik 10 (by decide)⟩
end
end Go.Proofs.Ytdefgmkkkeemoaa
