/-
  view.Copy.
  Whole numbers of 128 bits, as a wide number's two halves: hi a and lo a of a whole number a.
  What the calls of package wide do, said of whole numbers: the small ones.
  Words: what the calls of package fx do, said of whole numbers.
  package elem: Check.
  package reduce: are these axes? what words go where.
  package reduce: where the words of a tensor go (reduced), and the place under an index.
-/
import Derived.Deep.AppendLies
import Derived.Test.YtlidkeabadioeaaRows
import Derived.WalkKit
import Derived.WalkSpells
import Derived.StillTactics
import Derived.Laws.Pointers
import Derived.Laws.Externs
import Derived.Deep.RegionHeld3
import Derived.Shelf.Spec.BitsCarry
import Derived.RowKit3
import Derived.Lib.Hide
import Derived.BigQuiet
import Derived.Deep.DeepCutAuto
import Derived.Test.YtlidkeabadioeaaM02
import Derived.Test.YtlidkeabadioeaaM03
import Derived.Test.YtlidkeabadioeaaM06
namespace Go.Proofs.Ytlidkeabadioeaa
open Go.RowKit Go.Shelf
attribute [local go_sem] Oper.semAt_some

/-- The words where the indexes stand. -/
def cps (sh st : List Int) (off : Int) (ls : List Int) (N : Nat) : List Int := (List.range N).map fun k => ls.getD (off + dot st (atl sh (k : Nat))).toNat 0
theorem cps_len (sh st : List Int) (off : Int) (ls : List Int) (N : Nat) : (cps sh st off ls N).length = N := by simp [cps]
theorem cps_getD {sh st : List Int} {off : Int} {ls : List Int} {N k : Nat} (h : k < N) : (cps sh st off ls N).getD k 0 = ls.getD (off + dot st (atl sh (k : Nat))).toNat 0 := by simp [cps, List.getD, h]
theorem cps_snoc {sh st : List Int} {off : Int} {ls : List Int} {N k P : Nat} (h : k < N) (e : off + dot st (atl sh (k : Nat)) = (P : Int)) : (cps sh st off ls N).take (k + 1) = (cps sh st off ls N).take k ++ [ls.getD P 0] := by
  have hk : k < (cps sh st off ls N).length := by rw [cps_len]; exact h
  have h1 := cps_getD (sh := sh) (st := st) (off := off) (ls := ls) h
  rw [e, Int.toNat_natCast] at h1
  rw [List.take_succ_eq_append_getElem hk]
  rw [List.getD_eq_getElem?_getD, List.getElem?_eq_getElem hk] at h1
  rw [← h1]; rfl
theorem blk2 {W : World} {b : Nat} {t : TypeId} {x y : Value} (h : Blk W b t #[x, y]) : W.cell? ⟨b, 0, none⟩ = some x ∧ W.cell? ⟨b, 1, none⟩ = some y ∧ W.frozen? ⟨b, 0, none⟩ = false ∧ W.frozen? ⟨b, 1, none⟩ = false :=
  ⟨h.cell 0, h.cell 1, h.frozen 0, h.frozen 1⟩
/-- A tensor in new memory, and an error. -/
def SomeT (w : World) (er : Int) (sh ds : List Int) (e : Ending) (w' : World) : Prop := ∃ os cs od cd, e = .returned (.tuple #[.agg #[.slice os sh.length cs, .slice od ds.length cd], .int .i64 er]) ∧ w'.ownsRow w.heap.size 3 1 (.slice os sh.length cs) sh.length (ints sh) ∧ w'.ownsRow w.heap.size 2 1 (.slice od ds.length cd) ds.length (ints ds) ∧ Below w.heap.size w w'
theorem infoW : (Try.prog.info? 2).map (fun i => (i.zero, i.size, i.bytes)) = some (some (.int .i64 0), 1, 8) := by kernel_rfl

set_option maxRecDepth 100000 in
theorem placesf_any (vs vt : Value) (off : Int) (w : World) : Calls Try.prog 82 #[.agg #[vs, vt, .int .i64 off]] w fun e w' => e = .returned (.func (.func 106) #[] #[.pointer (some ⟨w.heap.size, 0, none⟩)]) ∧
    w.alloc (.cells #[vs, vt, .int .i64 off] 69) = w' := by
  go_enter Try.func82, Try.ntmps82
  go_wp2
  refine bodyPost_ret (results_tmp rfl _ _ _) rfl ?_
  exact ⟨rfl, rfl⟩

theorem tens_not_row {w : World} {base n b : Nat} {v : Value} {xs : List Value} {cs : Array Value} {t u : TypeId} (h : w.ownsRow base t 1 v n xs) (hb : Blk w b u cs) (hne : t ≠ u) : ¬ v.ownBlock = some b := by
  intro e
  rcases h.2 with ⟨rfl, _⟩ | ⟨g, cap, cur, rfl, _, hh, _⟩
  · simp [Value.ownBlock] at e
  · simp only [Value.ownBlock, Option.some.injEq] at e
    subst e
    have := hh.symm.trans hb
    simp only [Option.some.injEq, Obj.cells.injEq] at this
    exact hne this.2.1
/-- A word is appended. -/
theorem cp_step {X w9 w5 : World} {T B g k : Nat} {y : Int} {dv : Value} {xs : List Value} {cs : Array Value} (hb : Blk X T 26 cs) (hu : X.ownsRow B 2 1 dv k xs) (hB : Below T w5 X)
    (hgrow : (X.alloc (.cells #[.int .i64 y] 2)).drew.grownBy w9 dv.ownBlock) (_hat : dv.ownBlock = some g ∨ g = X.heap.size + 1) (hTl : T < B) (hXs : B ≤ X.heap.size) :
    Blk w9 T 26 cs ∧ Below T w5 w9 := by
  refine ⟨((hb.alloc _).drew).kept hgrow (fun e => by have := (hu.lt T e.symm).1; omega), ?_⟩
  have h1 := below_drw (hB.alloc (by omega) (.cells #[.int .i64 y] 2)) 1
  exact h1.grown hgrow (by simp; omega) (fun j e => by have := (hu.lt j e).1; omega)
/-- What a round of Copy's loop leaves. -/
def CpI (T B : Nat) (w5 : World) (sv : Value) (ds : List Int) (k : Nat) (W : World) : Prop := ∃ dv, Blk W T 26 #[sv, dv] ∧ W.ownsRow B 2 1 dv k (ints (ds.take k)) ∧ Below T w5 W ∧ B ≤ W.heap.size
theorem cpi_own (T B : Nat) (w5 : World) (sv : Value) (ds : List Int) (hT : T < B) (_hs : w5.heap.size ≤ B) : OwnFrom B (fun (pre : List Nat) W => CpI T B w5 sv ds pre.length W) := by
  rintro s X Y row ⟨dv, h1, h2, h3, h4⟩ hg hr
  have hc : ∀ r, row = some r → ∃ o : Obj, X.heap[r]? = some o ∧ o.isCells = false := fun r e => (hr r e).2
  exact ⟨dv, blk_own (β := Unit) T _ (fun _ => _) () X Y row h1 hg hc, own_kept h2 hg hc, h3.grown hg (by omega) (fun k e => by have := (hr k e).1; omega), Nat.le_trans h4 hg.size⟩
theorem kv_alloc {S : Nat → Prop} {X : World} (o : Obj) (hS : ∀ k, S k → k < X.heap.size) : KV S X (X.alloc o) :=
  ⟨fun k hk => Below.heap_alloc _ _ _ (hS k hk), fun _k _ _ _ e _ => Below.heap_alloc _ _ _ (Array.getElem?_eq_some_iff.1 e).1⟩
theorem cp_done {X w9 w5 : World} {T B g k c : Nat} {y : Int} {dv sv : Value} {ds : List Int} (hown : w9.ownsRow B 2 1 (.slice (some ⟨g, 0, none⟩) (k + 1) c) (k + 1) (ints (ds.take k) ++ [.int .i64 y])) (hb9 : Blk w9 T 26 #[sv, dv]) (hB9 : Below T w5 w9) (hb : Blk X T 26 #[sv, dv]) (hu : X.ownsRow B 2 1 dv k (ints (ds.take k)))
    (hgrow : (X.alloc (.cells #[.int .i64 y] 2)).drew.grownBy w9 dv.ownBlock) (hE : ds.take (k + 1) = ds.take k ++ [y]) (hTl : T < B) (hXs : B ≤ X.heap.size) :
    KeepsFrom B X (w9.setCell ⟨T, 1, none⟩ (.slice (some ⟨g, 0, none⟩) (k + 1) c)) ∧ KV (fun j => j < B ∧ j ≠ T) X (w9.setCell ⟨T, 1, none⟩ (.slice (some ⟨g, 0, none⟩) (k + 1) c)) ∧ CpI T B w5 sv ds (k + 1) (w9.setCell ⟨T, 1, none⟩ (.slice (some ⟨g, 0, none⟩) (k + 1) c)) := by
  have hsz : X.heap.size ≤ w9.heap.size := Nat.le_trans (by simp) hgrow.size
  have same : ∀ j, j < X.heap.size → some j ≠ dv.ownBlock → j ≠ T → (w9.setCell ⟨T, 1, none⟩ (.slice (some ⟨g, 0, none⟩) (k + 1) c)).heap[j]? = X.heap[j]? := fun j h1 h2 h3 =>
    (Below.heap_setCell _ _ _ j h3).trans ((hgrow.block j (by simp; omega) h2).trans (Below.heap_alloc _ _ _ h1))
  have isrow : ∀ (j : Nat) (o : Obj), X.heap[j]? = some o → some j = dv.ownBlock → ∃ cur, o = .cells cur 2 (0, 0) := by
    intro j o ho e
    rcases hu.2 with ⟨rfl, _⟩ | ⟨g', cap, cur, rfl, _, hh, _⟩
    · simp [Value.ownBlock] at e
    · simp only [Value.ownBlock, Option.some.injEq] at e
      subst e
      exact ⟨cur, Option.some.inj (ho.symm.trans hh)⟩
  refine ⟨⟨by simpa using hsz, fun j o hj ho hc => ?_⟩, ⟨fun j hj => ?_, fun j cs t fz ho ht => ?_⟩, .slice (some ⟨g, 0, none⟩) (k + 1) c, hb9.set_ 1 _, ?_, hB9.setCell (Nat.le_refl _) _, by simp; omega⟩
  · refine (same j (Array.getElem?_eq_some_iff.1 ho).1 (fun e => ?_) (by omega)).trans ho
    obtain ⟨cur, rfl⟩ := isrow j o ho e
    cases hc
  · refine same j (by omega) (fun e => ?_) hj.2
    have := (hu.lt j e.symm).1
    omega
  · refine same j (Array.getElem?_eq_some_iff.1 ho).1 (fun e => ?_) (fun e => ?_)
    · obtain ⟨cur, h2⟩ := isrow j _ ho e
      simp only [Obj.cells.injEq] at h2
      rcases ht with rfl | rfl | rfl <;> simp at h2
    · subst e
      have h2 := ho.symm.trans hb
      simp only [Option.some.injEq, Obj.cells.injEq] at h2
      rcases ht with rfl | rfl | rfl <;> simp at h2
  · rw [hE, ints_snoc]
    exact hown.kept (grown_set w9 ⟨T, 1, none⟩ _) (.inr (tens_not_row hown hb9 (by decide)))

theorem cp_end {X : World} {b D base n : Nat} {e : TypeId} {v : Value} {xs : List Value} {cs : Array Value} {o : Obj} (hO : X.ownsRow base e 1 v n xs) (hb : Blk X b 26 cs) (hD : X.heap[D]? = some o) (hc : o.isCells = false) (hne : e ≠ 26) (u1 u2 : Value) (o' : Obj) :
    (((X.setCell ⟨b, 0, none⟩ u1).setCell ⟨b, 1, none⟩ u2).putObj D o').ownsRow base e 1 v n xs := by
  have h1 := hO.kept (grown_set X ⟨b, 0, none⟩ u1) (.inr (tens_not_row hO hb hne))
  have hb1 := hb.set_ 0 u1
  have h2 := h1.kept (grown_set _ ⟨b, 1, none⟩ u2) (.inr (tens_not_row h1 hb1 hne))
  have hne : D ≠ b := by rintro rfl; rw [show X.heap[D]? = _ from hb] at hD; cases hD; cases hc
  exact own_kept h2 (grownBy_putObj' _ D o') (fun r er => by cases er; exact ⟨o, ((Below.heap_setCell _ _ _ _ hne).trans (Below.heap_setCell _ _ _ _ hne)).trans hD, hc⟩)

set_option maxRecDepth 100000 in
set_option maxHeartbeats 8000000 in
theorem copy_ok (vs vt vd : Value) (sh st ls : List Int) (off : Int) (N : Nat) (w : World) (hs : Ld w vs sh) (ht : Ld w vt st) (hd : Ld w vd ls) (hv : vwb sh st off ls.length = true) (hwd : wds ls = true) (hN : (N : Int) = prod sh) :
    Calls Try.prog 44 #[.agg #[vs, vt, .int .i64 off], vd] w (SomeT w 0 sh (cps sh st off ls N)) := by
  obtain ⟨i0, hi0, hz0, hz1, hz2⟩ := info_parts infoW
  have hVw := vwb_iff.1 hv
  have l4 := may_len hVw.1
  have hls : ls.length ≤ 65536 := by have := hVw.2.2.2.2.1; omega
  have hN6 : N ≤ 65536 := by have := may_prod hVw.1; omega
  obtain ⟨w3, hw3⟩ : ∃ w3, w3 = ((w.alloc (.cells #[vs, vt, .int .i64 off] 69)).alloc (.cells #[vd] 24)).alloc (.cells #[.slice none 0 0, .slice none 0 0] 26) := ⟨_, rfl⟩
  have hsz : w3.heap.size = w.heap.size + 3 := by rw [hw3]; simp
  have B3 : Below w.heap.size w w3 := by rw [hw3]; exact (((Below.refl _ _).alloc (Nat.le_refl _) _).alloc (by simp) _).alloc (by simp; omega) _
  have K0 : Hid (Blk w3 w.heap.size 69 #[vs, vt, .int .i64 off]) := by rw [hw3]; exact ((Blk.new w _ _).alloc _).alloc _
  have K1 : Hid (Blk w3 (w.heap.size + 1) 24 #[vd]) := by rw [hw3]; exact (blk_new1 w _ _ _).alloc _
  have K2 : Hid (Blk w3 (w.heap.size + 2) 26 #[.slice none 0 0, .slice none 0 0]) := by
    rw [hw3]
    have q := Blk.new ((w.alloc (.cells #[vs, vt, .int .i64 off] 69)).alloc (.cells #[vd] 24)) 26 #[.slice none 0 0, .slice none 0 0]
    rwa [World.size_alloc, World.size_alloc] at q
  have C1 : Hid (∀ n, w3.heap.size = n → Calls Try.prog 79 #[.agg #[vs, vt, .int .i64 off], .int .i64 (ls.length : Int)] w3 fun e w' => e = .returned (.int .i64 0) ∧ Below n w3 w') := fun n hn => by
    subst hn
    have := vcheck_any vs vt sh st off ls.length w3 (hs.below B3) (ht.below B3) (by omega) (by have := hVw.2.1; omega)
    rwa [hv, frm_t] at this
  replace C1 := Lib.hid (C1.out (w.heap.size + 3) hsz)
  have C2 := Lib.hid (fun (W : World) (hW : Below w.heap.size w W) => cloned_any vs sh W (hs.below hW) (by omega))
  have C3 : Hid (∀ W, Below w.heap.size w W → Calls Try.prog 81 #[vd] W fun e w' => e = .returned (.bool true) ∧ W = w') := Lib.hid (fun W hW => by have := arewords_any vd ls W (hd.below hW) (by omega); rwa [hwd] at this)
  clear hwd
  have HSV := Lib.hid (And.intro hs (And.intro ht hd))
  obtain ⟨o1, n1, rfl, _, _⟩ := id hs
  obtain ⟨o2, n2, rfl, _, _⟩ := id ht
  obtain ⟨o3, n3, rfl, _, hxd⟩ := id hd
  have HXD := Lib.hid hxd
  have HW := Lib.hid hw3
  have HV := Lib.hid (And.intro hVw hN)
  rw [hw3] at C1
  have k0 := blk3 (show Blk w3 w.heap.size 69 _ from K0.out)
  clear hw3 hs ht hd hxd hv hVw hN k0
  refine (callsIn_wide (n := 9)).1 ?_
  refine callsIn_of_wp_marks Try.func44 rfl trivial ?_
  simp only [Try.ntmps44, List.size_toArray, List.length_cons, List.length_nil, Nat.reduceAdd, Nat.reduceSub, Array.replicate_succ, Array.replicate_zero, List.push_toArray, List.append_toArray, List.nil_append, List.cons_append]
  refine wpIn_wide.2 ?_
  go_wp2_with (first
    | (go_at_call 79; (with_reducible refine C1.out.mono ?_); rintro e w4 ⟨rfl, hb4⟩; rw [← HW.out] at hb4; have b4 := B3.trans (hb4.mono (by omega)); replace K0 := Lib.hid (K0.out.below hb4 (by omega)); replace K1 := Lib.hid (K1.out.below hb4 (by omega)); replace K2 := Lib.hid (K2.out.below hb4 (by omega)); obtain ⟨c0, c1, c2, _⟩ := blk3 K0.out; have c3 := K1.out.cell 0; have s4 := Nat.le_trans (Nat.le_of_eq hsz.symm) hb4.size; clear hb4)
    | (go_at_call 81; (with_reducible refine (C3.out _ b4).mono ?_); rintro e w' ⟨rfl, rfl⟩)
    | (go_at_call 78; (with_reducible refine (C2.out _ b4).mono ?_); rintro e w5 ⟨o5, c5, rfl, ho5, _, hb5⟩; have b5 := b4.trans (hb5.mono (by omega)); replace K0 := Lib.hid (K0.out.below hb5 (by omega)); replace K1 := Lib.hid (K1.out.below hb5 (by omega)); replace K2 := Lib.hid (K2.out.below hb5 (by omega)); obtain ⟨c0, c1, c2, _⟩ := blk3 K0.out; have c3 := K1.out.cell 0; have s5 := hb5.size; have O5 := Lib.hid (own_base (base' := w.heap.size) ho5 (by omega)); have k0l := K0.out.lt; clear ho5 hb5)
    | (go_at_call 82; (with_reducible refine (placesf_any _ _ _ _).mono ?_); rintro e w7 ⟨rfl, hw7⟩))
  have s7 : w7.heap.size = w5.heap.size + 2 := by rw [← hw7]; simp
  have HT7 : Hid (Blk w7 w5.heap.size 26 #[.slice o5 sh.length c5, .slice none 0 0]) := by rw [← hw7]; exact (Blk.new w5 _ _).alloc _
  have HV7 : Hid (Blk w7 (w5.heap.size + 1) 69 #[.slice o1 sh.length n1, .slice o2 st.length n2, .int .i64 off]) := by rw [← hw7]; exact blk_new1 w5 _ _ _
  have HB7 : Hid (Below w5.heap.size w5 w7) := by rw [← hw7]; exact ((Below.refl _ _).alloc (Nat.le_refl _) _).alloc (by simp) _
  have B7 := b5.trans (HB7.out.mono (by omega))
  have hsz5 : w.heap.size + 3 ≤ w5.heap.size := Nat.le_trans s4 s5
  have OLD : Hid (∀ W, Below w5.heap.size w5 W → W.cell? ⟨w.heap.size + 1, 0, none⟩ = some (.slice o3 ls.length n3) ∧ Below w.heap.size w W) := Lib.hid (fun W hW => ⟨(K1.out.below hW (by omega)).cell 0, b5.trans (hW.mono (by omega))⟩)
  refine (wpIn_wide (n := 9)).1 ?_
  refine wpIn_rangeFunc_told2 (F := Fence.wide) (n := 9) rfl (by decide) (gf := 106) (lb := #[.pointer (some ⟨w5.heap.size + 1, 0, none⟩)]) rfl trivial (enters_of Try.func106 (by kernel_rfl) rfl)
    (places1_told 8 (by decide) (fun j => j < w7.heap.size ∧ j ≠ w5.heap.size) (w5.heap.size + 1) (.slice o1 sh.length n1) (.slice o2 st.length n2) sh st off N w7 HV7.out (HSV.out.1.below B7) (HSV.out.2.1.below B7) HV.out.1.1 HV.out.1.2.1 HV.out.1.2.2.1 HV.out.1.2.2.2.1 (by have h1 := HV.out.1.2.2.2.2.1; have h2 := HV.out.1.2.2.2.2.2.2; omega) HV.out.2 ⟨by omega, by omega⟩ ?hTS)
    KV.trans ?keepb (fun _ => rfl)
    (fun pre W => CpI w5.heap.size w7.heap.size w5 (.slice o5 sh.length c5) (cps sh st off ls N) pre.length W) (fun _ _ _ => False)
    ?ownI (fun _ _ _ _ _ h _ _ => h) ?ownT ⟨.slice none 0 0, HT7.out, ⟨rfl, .inl ⟨rfl, rfl⟩⟩, HB7.out, Nat.le_refl _⟩ ?a1 ?assign ?body ?done ?stop
  case hTS =>
    intro i hi
    obtain ⟨o, c, e, _, hx⟩ := HSV.out.2.1
    obtain ⟨b, f, rfl, hb, _⟩ := hx i hi
    exact ⟨b, f, c, e, by omega, by omega⟩
  case keepb =>
    intro X k o o' hk ho hc _
    refine ⟨fun j hj => World.putObj_heap_other (by omega), fun j cs t fz e ht => World.putObj_heap_other (fun e2 => ?_)⟩
    subst e2
    rw [ho] at e
    cases e
    cases hc
  case ownI => exact cpi_own w5.heap.size w7.heap.size w5 _ _ (by omega) (by omega)
  case ownT => exact fun pre x _ _ _ _ h _ _ => h
  case assign =>
    intro l2 x X K hK
    unfold plc
    gi_wp2
    exact hK
  case body =>
    rintro l2 pre x X ⟨dv, hTb, hDv, hBX, hXs⟩ hlt hx
    obtain rfl : x = pre.length := hx
    have hp := may_pos HV.out.1.1
    have hN := HV.out.2
    have hat := vw_at HV.out.1 (atl_inx sh (pre.length : Nat) hp (by omega) (by omega))
    obtain ⟨P, hP⟩ := Int.eq_ofNat_of_zero_le hat.1
    rw [hP] at hat
    have hPl : P < ls.length := by omega
    have EA := Lib.hid (cps_snoc (ls := ls) (k := pre.length) (N := N) hlt hP)
    obtain ⟨o3', n3', e3, _, hx3⟩ := HSV.out.2.2
    simp only [Value.slice.injEq] at e3
    obtain ⟨rfl, _, rfl⟩ := e3
    obtain ⟨b3, f3, rfl, hb3, hc3⟩ := hx3 P hPl
    have OLD2 : Hid (∀ W, Below w5.heap.size w5 W → W.cell? ⟨w.heap.size + 1, 0, none⟩ = some (.slice (some ⟨b3, f3, none⟩) ls.length n3) ∧ W.cell? ⟨b3, f3 + P, none⟩ = some (.int .i64 (ls.getD P 0)) ∧ True) := Lib.hid (fun W hW => ⟨(OLD.out W hW).1, ((OLD.out W hW).2.cell hb3).trans hc3, trivial⟩)
    have hk6 : pre.length < 65536 := by omega
    obtain ⟨c0, c1, f0, f1⟩ := blk2 hTb
    obtain ⟨c2, c3, _⟩ := OLD2.out X hBX
    have ca := fun (o : Obj) => Lib.cell?_alloc_some o c1
    have HT := Lib.hid hTb
    have HO := Lib.hid hDv
    have HB := Lib.hid hBX
    have hTl : w5.heap.size < w7.heap.size := by omega
    rw [hP]
    generalize hy : ls.getD P 0 = y at *
    clear hTb hDv hBX hat hp hN hc3 hx3 s7
    replace OLD := OLD2
    gi_wp2
    refine wpIn_mono (region_in (S := fun W => W.cell? ⟨w.heap.size + 1, 0, none⟩ = some (.slice (some ⟨b3, f3, none⟩) ls.length n3) ∧ W.cell? ⟨b3, f3 + P, none⟩ = some (.int .i64 y)) (R := fun W => KeepsFrom w7.heap.size X W ∧ KV (fun j => j < w7.heap.size ∧ j ≠ w5.heap.size) X W ∧ CpI w5.heap.size w7.heap.size w5 (.slice o5 sh.length c5) (cps sh st off ls N) (pre.length + 1) W) (by kernel_rfl) (by kernel_rfl) ?_ (fun hHeld => ?_)) ?_
    · exact ⟨by simpa using c2, by simpa using c3⟩
    · have hHd := hHeld
      simp only [List.size_toArray, List.length_cons, List.length_nil, Nat.reduceAdd, Array.replicate_succ, Array.replicate_zero, List.push_toArray, List.nil_append, List.cons_append]
      (refine wpAnyH_take (i := 0) (oi := ⟨some 28, _, _, _, _, _⟩) (v := ?v0) rfl (by kernel_rfl) (by kernel_rfl) (by kernel_rfl) (fun _ _ _ h => h) (Or.inl ⟨by rfl, ?hy0⟩) (by assumption) ?rest0; (case hy0 => ((intro w hSw); (try dsimp only at hSw); go_simp; first | done | (with_reducible rfl))))
      (try simp only [Act.put, List.setIfInBounds_toArray, List.set_cons_zero, List.set_cons_succ])
      (refine wpAnyH_take (i := 3) (oi := ⟨some 31, _, _, _, _, _⟩) (v := ?v3) rfl (by kernel_rfl) (by kernel_rfl) (by kernel_rfl) (fun _ _ _ h => h) (Or.inl ⟨by rfl, ?hy3⟩) (by assumption) ?rest3; (case hy3 => ((intro w hSw); (try dsimp only at hSw); go_simp; first | done | (with_reducible rfl))))
      (try simp only [Act.put, List.setIfInBounds_toArray, List.set_cons_zero, List.set_cons_succ])
      (refine wpAnyH_take (i := 2) (oi := ⟨some 30, _, _, _, _, _⟩) (v := ?v2) rfl (by kernel_rfl) (by kernel_rfl) (by kernel_rfl) (fun _ _ _ h => h) (Or.inl ⟨by rfl, ?hy2⟩) (by assumption) ?rest2; (case hy2 => ((intro w hSw); (try dsimp only at hSw); go_simp; first | done | (with_reducible rfl))))
      (try simp only [Act.put, List.setIfInBounds_toArray, List.set_cons_zero, List.set_cons_succ])
      (refine wpAnyH_take (i := 4) (oi := ⟨some 32, _, _, _, _, _⟩) (v := ?v4) rfl (by kernel_rfl) (by kernel_rfl) (by kernel_rfl) (fun _ _ _ h => h) (Or.inl ⟨by rfl, ?hy4⟩) (by assumption) ?rest4; (case hy4 => ((intro w hSw); (try dsimp only at hSw); go_simp; first | done | (with_reducible rfl))))
      (try simp only [Act.put, List.setIfInBounds_toArray, List.set_cons_zero, List.set_cons_succ])
      (refine wpAnyH_take (i := 5) (oi := ⟨some 33, _, _, _, _, _⟩) (v := ?v5) rfl (by kernel_rfl) (by kernel_rfl) (by kernel_rfl) (fun _ _ _ h => h) (Or.inl ⟨by rfl, ?hy5⟩) (by assumption) ?rest5; (case hy5 => ((intro w hSw); (try dsimp only at hSw); go_simp; first | done | (with_reducible rfl))))
      (try simp only [Act.put, List.setIfInBounds_toArray, List.set_cons_zero, List.set_cons_succ])
      refine wpAnyH_ready (rs := [1, 6]) (by kernel_rfl) (by simp) ?_
      refine AllReadyH.cons (o := ⟨some 29, _, _, _, _, _⟩) rfl (fun K hK => ?_) (AllReadyH.cons (o := ⟨some 34, _, _, _, _, _⟩) rfl (fun K hK => ?_) AllReadyH.nil)
      · go_simp
        refine hK.out _ _ ?_ (fun hHeld => ?_)
        · (try dsimp only)
          first | assumption | (simp [go_sem, *]; done) | (simp [go_sem, World.cell?_alloc_some, *]; done) | exact ⟨(e9.out _).1, (e9.out _).2.1⟩
        clear hK K
        (try simp only [List.setIfInBounds_toArray, List.set_cons_zero, List.set_cons_succ])
        refine wpAnyH_ready (rs := [6]) (by kernel_rfl) (by simp) ?_
        refine AllReadyH.cons (o := ⟨some 34, _, _, _, _, _⟩) rfl (fun K hK => ?_) AllReadyH.nil
        go_simp
        refine hK.out _ _ ?_ (fun hHeld => ?_)
        · (try dsimp only)
          first | assumption | (simp [go_sem, *]; done) | (simp [go_sem, World.cell?_alloc_some, *]; done) | exact ⟨(e9.out _).1, (e9.out _).2.1⟩
        clear hK K
        (try simp only [List.setIfInBounds_toArray, List.set_cons_zero, List.set_cons_succ])
        refine wpAnyH_ready (rs := [7]) (by kernel_rfl) (by simp) ?_
        refine AllReadyH.cons (o := ⟨some 35, _, _, _, _, _⟩) rfl (fun K hK => ?_) AllReadyH.nil
        refine step_append_lies _ (by rfl) (.tmp 29) (.tmp 34) 24 (by rfl) w7.heap.size 2 i0 (.int .i64 0) 1 8 Try.underlying24 hi0 hz0 hz1 hz2 rfl (by decide) dv pre.length (ints ((cps sh st off ls N).take pre.length)) (by rfl) (HO.out.alloc _) ⟨X.heap.size, 0, none⟩ 1 1 [.int .i64 y] (by rfl) rfl (cell_one_new _ _ _) (by simp [Value.oneCell']) (by decide) (by unfold maxLen; omega) (by omega) (by simp; omega) (X.heap.size + 1) (by simp) ?_
        intro g9 cp9 w9 hown hgrow hat _
        have Q9 := Lib.hid (And.intro hown (cp_step HT.out HO.out HB.out hgrow hat hTl hXs))
        obtain ⟨_, p0, h0, h1⟩ := blk2 Q9.out.2.1
        have e9 := Lib.hid (fun (z : Value) => OLD.out _ (Q9.out.2.2.setCell (p := ⟨w5.heap.size, 1, none⟩) (Nat.le_refl _) z))
        obtain ⟨q0, q1, _⟩ := OLD.out w9 Q9.out.2.2
        have R9 := Lib.hid (cp_done Q9.out.1 Q9.out.2.1 Q9.out.2.2 HT.out HO.out hgrow EA.out hTl hXs)
        clear hown hgrow hat
        refine hK.out _ _ ?_ (fun hHeld => ?_)
        · (try dsimp only)
          first | assumption | (simp [go_sem, *]; done) | (simp [go_sem, World.cell?_alloc_some, *]; done) | exact ⟨(e9.out _).1, (e9.out _).2.1⟩
        clear hK K
        (try simp only [Act.put, List.setIfInBounds_toArray, List.set_cons_zero, List.set_cons_succ])
        refine wpAnyH_ready (rs := [8]) (by kernel_rfl) (by simp) ?_
        refine AllReadyH.cons (o := ⟨some 36, _, _, _, _, _⟩) rfl (fun K hK => ?_) AllReadyH.nil
        go_simp
        refine hK.out _ _ ?_ (fun hHeld => ?_)
        · (try dsimp only)
          first | assumption | (simp [go_sem, *]; done) | (simp [go_sem, World.cell?_alloc_some, *]; done) | exact ⟨(e9.out _).1, (e9.out _).2.1⟩
        clear hK K
        (try simp only [List.setIfInBounds_toArray, List.set_cons_zero, List.set_cons_succ])
        refine wpAnyH_ready (rs := [9]) (by kernel_rfl) (by simp) ?_
        refine AllReadyH.cons (o := ⟨none, _, _, _, _, _⟩) rfl (fun K hK => ?_) AllReadyH.nil
        go_simp
        refine hK.out _ _ ?_ (fun hHeld => ?_)
        · (try dsimp only)
          first | assumption | (simp [go_sem, *]; done) | (simp [go_sem, World.cell?_alloc_some, *]; done) | exact ⟨(e9.out _).1, (e9.out _).2.1⟩
        clear hK K
        (try simp only [List.setIfInBounds_toArray, List.set_cons_zero, List.set_cons_succ])
        refine wpAnyH_done (by kernel_rfl) ?_ _
        exact ⟨rfl, R9.out⟩
      · go_simp
        refine hK.out _ _ ?_ (fun hHeld => ?_)
        · (try dsimp only)
          first | assumption | (simp [go_sem, *]; done) | (simp [go_sem, World.cell?_alloc_some, *]; done) | exact ⟨(e9.out _).1, (e9.out _).2.1⟩
        clear hK K
        (try simp only [List.setIfInBounds_toArray, List.set_cons_zero, List.set_cons_succ])
        refine wpAnyH_ready (rs := [1]) (by kernel_rfl) (by simp) ?_
        refine AllReadyH.cons (o := ⟨some 29, _, _, _, _, _⟩) rfl (fun K hK => ?_) AllReadyH.nil
        go_simp
        refine hK.out _ _ ?_ (fun hHeld => ?_)
        · (try dsimp only)
          first | assumption | (simp [go_sem, *]; done) | (simp [go_sem, World.cell?_alloc_some, *]; done) | exact ⟨(e9.out _).1, (e9.out _).2.1⟩
        clear hK K
        (try simp only [List.setIfInBounds_toArray, List.set_cons_zero, List.set_cons_succ])
        refine wpAnyH_ready (rs := [7]) (by kernel_rfl) (by simp) ?_
        refine AllReadyH.cons (o := ⟨some 35, _, _, _, _, _⟩) rfl (fun K hK => ?_) AllReadyH.nil
        refine step_append_lies _ (by rfl) (.tmp 29) (.tmp 34) 24 (by rfl) w7.heap.size 2 i0 (.int .i64 0) 1 8 Try.underlying24 hi0 hz0 hz1 hz2 rfl (by decide) dv pre.length (ints ((cps sh st off ls N).take pre.length)) (by rfl) (HO.out.alloc _) ⟨X.heap.size, 0, none⟩ 1 1 [.int .i64 y] (by rfl) rfl (cell_one_new _ _ _) (by simp [Value.oneCell']) (by decide) (by unfold maxLen; omega) (by omega) (by simp; omega) (X.heap.size + 1) (by simp) ?_
        intro g9 cp9 w9 hown hgrow hat _
        have Q9 := Lib.hid (And.intro hown (cp_step HT.out HO.out HB.out hgrow hat hTl hXs))
        obtain ⟨_, p0, h0, h1⟩ := blk2 Q9.out.2.1
        have e9 := Lib.hid (fun (z : Value) => OLD.out _ (Q9.out.2.2.setCell (p := ⟨w5.heap.size, 1, none⟩) (Nat.le_refl _) z))
        obtain ⟨q0, q1, _⟩ := OLD.out w9 Q9.out.2.2
        have R9 := Lib.hid (cp_done Q9.out.1 Q9.out.2.1 Q9.out.2.2 HT.out HO.out hgrow EA.out hTl hXs)
        clear hown hgrow hat
        refine hK.out _ _ ?_ (fun hHeld => ?_)
        · (try dsimp only)
          first | assumption | (simp [go_sem, *]; done) | (simp [go_sem, World.cell?_alloc_some, *]; done) | exact ⟨(e9.out _).1, (e9.out _).2.1⟩
        clear hK K
        (try simp only [Act.put, List.setIfInBounds_toArray, List.set_cons_zero, List.set_cons_succ])
        refine wpAnyH_ready (rs := [8]) (by kernel_rfl) (by simp) ?_
        refine AllReadyH.cons (o := ⟨some 36, _, _, _, _, _⟩) rfl (fun K hK => ?_) AllReadyH.nil
        go_simp
        refine hK.out _ _ ?_ (fun hHeld => ?_)
        · (try dsimp only)
          first | assumption | (simp [go_sem, *]; done) | (simp [go_sem, World.cell?_alloc_some, *]; done) | exact ⟨(e9.out _).1, (e9.out _).2.1⟩
        clear hK K
        (try simp only [List.setIfInBounds_toArray, List.set_cons_zero, List.set_cons_succ])
        refine wpAnyH_ready (rs := [9]) (by kernel_rfl) (by simp) ?_
        refine AllReadyH.cons (o := ⟨none, _, _, _, _, _⟩) rfl (fun K hK => ?_) AllReadyH.nil
        go_simp
        refine hK.out _ _ ?_ (fun hHeld => ?_)
        · (try dsimp only)
          first | assumption | (simp [go_sem, *]; done) | (simp [go_sem, World.cell?_alloc_some, *]; done) | exact ⟨(e9.out _).1, (e9.out _).2.1⟩
        clear hK K
        (try simp only [List.setIfInBounds_toArray, List.set_cons_zero, List.set_cons_succ])
        refine wpAnyH_done (by kernel_rfl) ?_ _
        exact ⟨rfl, R9.out⟩
    · rintro e a3 W3 ⟨rfl, hR⟩
      have e1 : (pre ++ [pre.length]).length = pre.length + 1 := by simp
      exact ⟨hR.1, hR.2.1, by show CpI _ _ _ _ _ (pre ++ [pre.length]).length _; rw [e1]; exact hR.2.2⟩
  case done =>
    rintro D ys X hD hys ⟨dv, hTb, hDv, hBX, hXs⟩ hK
    obtain ⟨c0, c1, f0, f1⟩ := blk2 hTb
    have R2 := K2.out.below hBX (by omega)
    obtain ⟨d0, d1, g0, g1⟩ := blk2 R2
    have hDv2 : X.ownsRow w7.heap.size 2 1 dv (cps sh st off ls N).length (ints (cps sh st off ls N)) := by
      have h := hDv
      rw [show ys.length = N from hys, List.take_of_length_le (by rw [cps_len]; exact Nat.le_refl _)] at h
      rw [cps_len]
      exact h
    clear hDv hys
    generalize cps sh st off ls N = ds at *
    obtain ⟨od, cd, rfl, _⟩ := Ld.of_owns hDv2
    have hDb : w.heap.size ≤ D := by omega
    have hb2 : w.heap.size + 2 < w5.heap.size := by omega
    have e1 := cp_end (Below.keepOwn O5.out hBX (Nat.le_refl _)) R2 hK rfl (by decide) (.slice o5 sh.length c5) (.slice od ds.length cd) (.deferred none)
    have e2 := cp_end (own_base hDv2 (show w.heap.size ≤ w7.heap.size by omega)) R2 hK rfl (by decide) (.slice o5 sh.length c5) (.slice od ds.length cd) (.deferred none)
    have hK2 : ((X.setCell ⟨w.heap.size + 2, 0, none⟩ (.slice o5 sh.length c5)).setCell ⟨w.heap.size + 2, 1, none⟩ (.slice od ds.length cd)).heap[D]? = some (.deferred (some [])) := ((Below.heap_setCell _ _ _ _ (by show D ≠ w.heap.size + 2; omega)).trans (Below.heap_setCell _ _ _ _ (by show D ≠ w.heap.size + 2; omega))).trans hK
    have e3 : Below w.heap.size w ((((X.setCell ⟨w.heap.size + 2, 0, none⟩ (.slice o5 sh.length c5)).setCell ⟨w.heap.size + 2, 1, none⟩ (.slice od ds.length cd))).putObj D (.deferred none)) := (((b5.trans (hBX.mono (by omega))).setCell (p := ⟨w.heap.size + 2, 0, none⟩) (by show w.heap.size ≤ w.heap.size + 2; omega) _).setCell (p := ⟨w.heap.size + 2, 1, none⟩) (by show w.heap.size ≤ w.heap.size + 2; omega) _).trans (belowK_b (w := w) (Nat.le_refl _) _ D _ (.deferred none) hDb hK2 rfl rfl)
    have R3 : Blk ((((X.setCell ⟨w.heap.size + 2, 0, none⟩ (.slice o5 sh.length c5)).setCell ⟨w.heap.size + 2, 1, none⟩ (.slice od ds.length cd))).putObj D (.deferred none)) (w.heap.size + 2) 26 #[.slice o5 sh.length c5, .slice od ds.length cd] := ((R2.set_ 0 _).set_ 1 _).kept (grownBy_putObj' _ D _) (by intro e; cases e; omega)
    obtain ⟨p0, p1, _⟩ := blk2 R3
    have EN := Lib.hid (And.intro e1 (And.intro e2 e3))
    have HK2 := Lib.hid hK2
    have P0 := Lib.hid (And.intro p0 p1)
    clear e1 e2 e3 hK2 R3 p0 p1 hDv2
    go_wp2
    refine ⟨by simp, .inl ⟨_, _, rfl, run_takeDeferred HK2.out, ?_⟩⟩
    have p0 := P0.out.1
    have p1 := P0.out.2
    refine ⟨.tuple #[.agg #[.slice o5 sh.length c5, .slice od ds.length cd], .int .i64 0], by simp [results, Try.results44, go_sem, p0, p1], ?_⟩
    exact ⟨o5, c5, od, cd, rfl, EN.out⟩
  case stop =>
    rintro D cd pre X hD hpre hf hK
    exact hf.elim

/-- Copy's error. -/
def cpe (sh st ls : List Int) (off : Int) : Int := if vwb sh st off ls.length && wds ls then 0 else 1
set_option maxRecDepth 100000 in
set_option maxHeartbeats 8000000 in
theorem copy_no (vs vt vd : Value) (sh st ls : List Int) (off : Int) (w : World) (hs : Ld w vs sh) (ht : Ld w vt st) (hd : Ld w vd ls) (l1 : sh.length ≤ 17592186044416) (l2 : st.length ≤ 17592186044416) (l3 : ls.length ≤ 17592186044416) (hv : (vwb sh st off ls.length && wds ls) = false) :
    Calls Try.prog 44 #[.agg #[vs, vt, .int .i64 off], vd] w (SomeT w 1 [] []) := by
  obtain ⟨w3, hw3⟩ : ∃ w3, w3 = ((w.alloc (.cells #[vs, vt, .int .i64 off] 69)).alloc (.cells #[vd] 24)).alloc (.cells #[.slice none 0 0, .slice none 0 0] 26) := ⟨_, rfl⟩
  have hsz : w3.heap.size = w.heap.size + 3 := by rw [hw3]; simp
  have B3 : Below w.heap.size w w3 := by rw [hw3]; exact (((Below.refl _ _).alloc (Nat.le_refl _) _).alloc (by simp) _).alloc (by simp; omega) _
  have K1 : Hid (Blk w3 (w.heap.size + 1) 24 #[vd]) := by rw [hw3]; exact (blk_new1 w _ _ _).alloc _
  have K2 : Hid (Blk w3 (w.heap.size + 2) 26 #[.slice none 0 0, .slice none 0 0]) := by
    rw [hw3]
    have q := Blk.new ((w.alloc (.cells #[vs, vt, .int .i64 off] 69)).alloc (.cells #[vd] 24)) 26 #[.slice none 0 0, .slice none 0 0]
    rwa [World.size_alloc, World.size_alloc] at q
  have C1 : Hid (∀ n, w3.heap.size = n → Calls Try.prog 79 #[.agg #[vs, vt, .int .i64 off], .int .i64 (ls.length : Int)] w3 fun e w' => e = .returned (.int .i64 (frm (vwb sh st off ls.length))) ∧ Below n w3 w') := fun n hn => by
    subst hn
    exact vcheck_any vs vt sh st off ls.length w3 (hs.below B3) (ht.below B3) l1 l2
  replace C1 := Lib.hid (C1.out (w.heap.size + 3) hsz)
  have C3 := Lib.hid (fun (W : World) (hW : Below w.heap.size w W) => arewords_any vd ls W (hd.below hW) (by omega))
  obtain ⟨o1, n1, rfl, _, _⟩ := id hs
  obtain ⟨o2, n2, rfl, _, _⟩ := id ht
  obtain ⟨o3, n3, rfl, _, _⟩ := id hd
  have HW := Lib.hid hw3
  rw [hw3] at C1
  clear hw3 hs ht hd
  have END : ∀ W, Below w.heap.size w W → ∀ T, Blk W T 26 #[.slice none 0 0, .slice none 0 0] → w.heap.size ≤ T → SomeT w 1 [] [] (.returned (.tuple #[.agg #[.slice none 0 0, .slice none 0 0], .int .i64 1])) W := fun W hW T _ _ => ⟨none, 0, none, 0, rfl, World.ownsRow_nil _ _ _ _, World.ownsRow_nil _ _ _ _, hW⟩
  have HE := Lib.hid END
  clear END
  cases hvw : vwb sh st off ls.length with
  | false =>
    rw [hvw, frm_f] at C1
    clear hv hvw
    go_enter Try.func44, Try.ntmps44
    go_wp2_with (go_at_call 79; (with_reducible refine C1.out.mono ?_); rintro e w4 ⟨rfl, hb4⟩; rw [← HW.out] at hb4; have b4 := B3.trans (hb4.mono (by omega)); replace K2 := Lib.hid (K2.out.below hb4 (by omega)); obtain ⟨d0, d1, f0, f1⟩ := blk2 K2.out; clear hb4)
    have K3 := (K2.out.set_ 0 (.slice none 0 0)).set_ 1 (.slice none 0 0)
    obtain ⟨p0, p1, _, _⟩ := blk2 K3
    refine bodyPost_ret (v := .tuple #[.agg #[.slice none 0 0, .slice none 0 0], .int .i64 1]) (by simp [results, Try.results44, go_sem, p0, p1]) rfl ?_
    exact HE.out _ ((b4.setCell (by show w.heap.size ≤ w.heap.size + 1 + 1; omega) _).setCell (by show w.heap.size ≤ w.heap.size + 1 + 1; omega) _) _ K3 (by omega)
  | true =>
    have hw0 : wds ls = false := by rw [hvw, Bool.true_and] at hv; exact hv
    rw [hvw, frm_t] at C1
    rw [hw0] at C3
    clear hv hvw hw0
    go_enter Try.func44, Try.ntmps44
    go_wp2_with (first
      | (go_at_call 79; (with_reducible refine C1.out.mono ?_); rintro e w4 ⟨rfl, hb4⟩; rw [← HW.out] at hb4; have b4 := B3.trans (hb4.mono (by omega)); replace K2 := Lib.hid (K2.out.below hb4 (by omega)); obtain ⟨d0, d1, f0, f1⟩ := blk2 K2.out; have c3 := (K1.out.below hb4 (by omega)).cell 0; clear hb4)
      | (go_at_call 81; (with_reducible refine (C3.out _ b4).mono ?_); rintro e w' ⟨rfl, rfl⟩))
    have K3 := (K2.out.set_ 0 (.slice none 0 0)).set_ 1 (.slice none 0 0)
    obtain ⟨p0, p1, _, _⟩ := blk2 K3
    refine bodyPost_ret (v := .tuple #[.agg #[.slice none 0 0, .slice none 0 0], .int .i64 1]) (by simp [results, Try.results44, go_sem, p0, p1]) rfl ?_
    exact HE.out _ ((b4.setCell (by show w.heap.size ≤ w.heap.size + 1 + 1; omega) _).setCell (by show w.heap.size ≤ w.heap.size + 1 + 1; omega) _) _ K3 (by omega)
end Go.Proofs.Ytlidkeabadioeaa
namespace Go.Proofs.Ytlidkeabadioeaa

def hi (a : Int) : Int := a / 18446744073709551616
def lo (a : Int) : Int := a % 18446744073709551616
/-- a is a wide number. -/
def R (a : Int) : Prop := -9223372036854775808 ≤ hi a ∧ hi a ≤ 9223372036854775807
instance (a : Int) : Decidable (R a) := inferInstanceAs (Decidable (_ ∧ _))
/-- a is below 0. -/
def ng (a : Int) : Bool := decide (a < 0)

theorem lo_bd (a : Int) : 0 ≤ lo a ∧ lo a ≤ 18446744073709551615 := by unfold lo; omega
theorem hi_lo (a : Int) : a = hi a * 18446744073709551616 + lo a := by unfold hi lo; omega
theorem hi_mk (h l : Int) (l0 : 0 ≤ l) (l1 : l ≤ 18446744073709551615) : hi (h * 18446744073709551616 + l) = h := by unfold hi; omega
theorem lo_mk (h l : Int) (l0 : 0 ≤ l) (l1 : l ≤ 18446744073709551615) : lo (h * 18446744073709551616 + l) = l := by unfold lo; omega
theorem hi_neg (a : Int) : decide (hi a < 0) = ng a := by unfold hi ng; rw [Bool.eq_iff_iff]; simp only [decide_eq_true_eq]; omega
theorem hl_inj {a b : Int} (h : hi a = hi b) (l : lo a = lo b) : a = b := by rw [hi_lo a, hi_lo b, h, l]

end Go.Proofs.Ytlidkeabadioeaa
namespace Go.Proofs.Ytlidkeabadioeaa
open Go.RowKit

abbrev Wv (a : Int) : Value := .agg #[.int .i64 (hi a), .int .u64 (lo a)]

theorem below_any (a : Int) (w : World) :
    Calls Try.prog 109 #[Wv a] w fun e w' => e = .returned (.bool (ng a)) ∧ w.alloc (.cells #[.int .i64 (hi a), .int .u64 (lo a)] 89) = w' := by
  have H := Lib.hid (hi_neg a)
  go_enter Try.func109, Try.ntmps109
  go_wp2
  go_ret
  exact ⟨by rw [H.out]; rfl, rfl⟩

theorem isNaN_i64 (a : Int) (w : World) : Calls Try.prog 142 #[.int .i64 a] w fun e w' => e = .returned (.bool false) ∧ w = w' := by
  go_enter Try.func142, Try.ntmps142
  go_wp2
  go_ret
  exact ⟨by simp, rfl⟩
theorem isNaN_u64 (a : Int) (w : World) : Calls Try.prog 141 #[.int .u64 a] w fun e w' => e = .returned (.bool false) ∧ w = w' := by
  go_enter Try.func141, Try.ntmps141
  go_wp2
  go_ret
  exact ⟨by simp, rfl⟩

/-- -1, 0, 1: as cmp.Compare tells it. -/
def sg (a b : Int) : Int := if a < b then -1 else if a > b then 1 else 0
theorem sg_lt {a b : Int} (h : a < b) : sg a b = -1 := by unfold sg; rw [if_pos h]
theorem sg_gt {a b : Int} (h : b < a) : sg a b = 1 := by unfold sg; rw [if_neg (by omega), if_pos h]
theorem sg_eq (a : Int) : sg a a = 0 := by unfold sg; rw [if_neg (by omega), if_neg (by omega)]

theorem compare_i64 (a b : Int) (w : World) : Calls Try.prog 140 #[.int .i64 a, .int .i64 b] w fun e w' => e = .returned (.int .i64 (sg a b)) ∧ w = w' := by
  rcases Int.lt_trichotomy a b with h | rfl | h
  · have H := Lib.hid (sg_lt h)
    go_enter Try.func140, Try.ntmps140
    go_wp2_with (go_at_call 142; refine (isNaN_i64 _ _).mono ?_; rintro e w' ⟨rfl, rfl⟩)
    go_ret
    exact ⟨by rw [H.out]; rfl, rfl⟩
  · have H := Lib.hid (sg_eq a)
    go_enter Try.func140, Try.ntmps140
    go_wp2_with (go_at_call 142; refine (isNaN_i64 _ _).mono ?_; rintro e w' ⟨rfl, rfl⟩)
    go_ret
    exact ⟨by rw [H.out]; rfl, rfl⟩
  · have H := Lib.hid (sg_gt h)
    go_enter Try.func140, Try.ntmps140
    go_wp2_with (go_at_call 142; refine (isNaN_i64 _ _).mono ?_; rintro e w' ⟨rfl, rfl⟩)
    go_ret
    exact ⟨by rw [H.out]; rfl, rfl⟩

theorem compare_u64 (a b : Int) (w : World) : Calls Try.prog 139 #[.int .u64 a, .int .u64 b] w fun e w' => e = .returned (.int .i64 (sg a b)) ∧ w = w' := by
  rcases Int.lt_trichotomy a b with h | rfl | h
  · have H := Lib.hid (sg_lt h)
    go_enter Try.func139, Try.ntmps139
    go_wp2_with (go_at_call 141; refine (isNaN_u64 _ _).mono ?_; rintro e w' ⟨rfl, rfl⟩)
    go_ret
    exact ⟨by rw [H.out]; rfl, rfl⟩
  · have H := Lib.hid (sg_eq a)
    go_enter Try.func139, Try.ntmps139
    go_wp2_with (go_at_call 141; refine (isNaN_u64 _ _).mono ?_; rintro e w' ⟨rfl, rfl⟩)
    go_ret
    exact ⟨by rw [H.out]; rfl, rfl⟩
  · have H := Lib.hid (sg_gt h)
    go_enter Try.func139, Try.ntmps139
    go_wp2_with (go_at_call 141; refine (isNaN_u64 _ _).mono ?_; rintro e w' ⟨rfl, rfl⟩)
    go_ret
    exact ⟨by rw [H.out]; rfl, rfl⟩

theorem sg_hi {a b : Int} (h : hi a ≠ hi b) : sg (hi a) (hi b) = sg a b := by
  unfold sg hi at *
  repeat' split <;> try omega
theorem sg_lo {a b : Int} (h : hi a = hi b) : sg (lo a) (lo b) = sg a b := by
  unfold sg lo hi at *
  repeat' split <;> try omega

/-- wide.Cmp -/
theorem cmp_any (a b : Int) (w : World) : Calls Try.prog 137 #[Wv a, Wv b] w fun e w' => e = .returned (.int .i64 (sg a b)) ∧ Below w.heap.size w w' := by
  by_cases h : hi a = hi b
  · have H := Lib.hid (sg_lo h)
    have g : (hi a != hi b) = false := by simp [h]
    have K := Lib.hid h
    clear h
    go_enter Try.func137, Try.ntmps137
    go_wp2_with (go_at_call 139; refine (compare_u64 _ _ _).mono ?_; rintro e w' ⟨rfl, rfl⟩)
    go_ret
    exact ⟨by rw [H.out]; rfl, ((Below.refl _ _).alloc (Nat.le_refl _) _).alloc (by simp) _⟩
  · have H := Lib.hid (sg_hi h)
    have g : (hi a != hi b) = true := by simp [h]
    clear h
    go_enter Try.func137, Try.ntmps137
    go_wp2_with (go_at_call 140; refine (compare_i64 _ _ _).mono ?_; rintro e w' ⟨rfl, rfl⟩)
    go_ret
    exact ⟨by rw [H.out]; rfl, ((Below.refl _ _).alloc (Nat.le_refl _) _).alloc (by simp) _⟩

theorem wv0 : Wv 0 = .agg #[.int .i64 0, .int .u64 0] := rfl
/-- wide.Sign -/
theorem sign_any (a : Int) (w : World) : Calls Try.prog 130 #[Wv a] w fun e w' => e = .returned (.int .i64 (sg a 0)) ∧ Below w.heap.size w w' := by
  have C := Lib.hid (fun W => cmp_any a 0 W)
  rw [wv0] at C
  go_enter Try.func130, Try.ntmps130
  go_wp2_with (go_at_call 137; refine (C.out _).mono ?_; rintro e w' ⟨rfl, hb⟩)
  go_ret
  exact ⟨rfl, ((Below.refl _ _).alloc (Nat.le_refl _) _).trans (hb.mono (by simp))⟩
end Go.Proofs.Ytlidkeabadioeaa
namespace Go.Proofs.Ytlidkeabadioeaa
open Go.RowKit

/-- Is v a word? -/
def wd (v : Int) : Bool := decide (-140737488355328 < v ∧ v < 140737488355328)
/-- Are these counts of fraction bits? -/
def fb (f : Int) : Bool := decide (8 ≤ f ∧ f ≤ 32)
/-- A number told as a word; and the error beside it. -/
def tw (v : Int) : Int := if wd v = true then v else 0
def te (v : Int) : Int := if wd v = true then 0 else 3
theorem wd_bd {v : Int} (h : wd v = true) : -140737488355328 < v ∧ v < 140737488355328 := of_decide_eq_true h
theorem wd_mk {v : Int} (h : -140737488355328 < v ∧ v < 140737488355328) : wd v = true := decide_eq_true h
theorem wd_no {v : Int} (h : wd v = false) : v ≤ -140737488355328 ∨ 140737488355328 ≤ v := by have := of_decide_eq_false h; omega
theorem fb_bd {f : Int} (h : fb f = true) : 8 ≤ f ∧ f ≤ 32 := of_decide_eq_true h
theorem fb_mk {f : Int} (h : 8 ≤ f ∧ f ≤ 32) : fb f = true := decide_eq_true h
theorem fb_no {f : Int} (h : fb f = false) : f < 8 ∨ 32 < f := by have := of_decide_eq_false h; omega
theorem tw_in {v : Int} (h : wd v = true) : tw v = v := if_pos h
theorem te_in {v : Int} (h : wd v = true) : te v = 0 := if_pos h
theorem tw_out {v : Int} (h : wd v = false) : tw v = 0 := if_neg (by simp [h])
theorem te_out {v : Int} (h : wd v = false) : te v = 3 := if_neg (by simp [h])
theorem wd_tw (v : Int) : wd (tw v) = true := by unfold tw; split; assumption; rfl

/-- fx.Check -/
theorem check_any (v : Int) (w : World) : Calls Try.prog 76 #[.int .i64 v] w fun e w' => e = .returned (.int .i64 (if wd v = true then 0 else 1)) ∧ w = w' := by
  cases g : wd v with
  | true =>
    obtain ⟨g1, g2⟩ := wd_bd g
    clear g
    go_enter Try.func76, Try.ntmps76
    go_wp2
    go_ret
    exact ⟨rfl, rfl⟩
  | false =>
    have h := wd_no g
    clear g
    by_cases g1 : v ≤ -140737488355328
    · clear h
      go_enter Try.func76, Try.ntmps76
      go_wp2
      go_ret
      exact ⟨rfl, rfl⟩
    · have g2 : 140737488355328 ≤ v := by omega
      clear h
      go_enter Try.func76, Try.ntmps76
      go_wp2
      go_ret
      exact ⟨rfl, rfl⟩
/-- fx.CheckF -/
theorem checkf_any (v : Int) (w : World) : Calls Try.prog 47 #[.int .i64 v] w fun e w' => e = .returned (.int .i64 (if fb v = true then 0 else 1)) ∧ w = w' := by
  cases g : fb v with
  | true =>
    obtain ⟨g1, g2⟩ := fb_bd g
    clear g
    go_enter Try.func47, Try.ntmps47
    go_wp2
    go_ret
    exact ⟨rfl, rfl⟩
  | false =>
    have h := fb_no g
    clear g
    by_cases g1 : v < 8
    · clear h
      go_enter Try.func47, Try.ntmps47
      go_wp2
      go_ret
      exact ⟨rfl, rfl⟩
    · have g2 : 32 < v := by omega
      clear h
      go_enter Try.func47, Try.ntmps47
      go_wp2
      go_ret
      exact ⟨rfl, rfl⟩
/-- fx.told -/
theorem told_any (v : Int) (w : World) : Calls Try.prog 117 #[.int .i64 v] w fun e w' => e = .returned (.tuple #[.int .i64 (tw v), .int .i64 (te v)]) ∧ w = w' := by
  have C := Lib.hid (fun W : World => check_any v W)
  cases g : wd v with
  | true =>
    rw [g] at C
    have H := Lib.hid (And.intro (tw_in g) (te_in g))
    clear g
    go_enter Try.func117, Try.ntmps117
    go_wp2_with (go_at_call 76; (with_reducible refine (C.out _).mono ?_); rintro e w' ⟨rfl, rfl⟩)
    go_ret2
    exact ⟨by rw [H.out.1, H.out.2] <;> rfl, rfl⟩
  | false =>
    rw [g] at C
    have H := Lib.hid (And.intro (tw_out g) (te_out g))
    clear g
    go_enter Try.func117, Try.ntmps117
    go_wp2_with (go_at_call 76; (with_reducible refine (C.out _).mono ?_); rintro e w' ⟨rfl, rfl⟩)
    go_ret2
    exact ⟨by rw [H.out.1, H.out.2] <;> rfl, rfl⟩
end Go.Proofs.Ytlidkeabadioeaa
namespace Go.Proofs.Ytlidkeabadioeaa
open Go Go.RowKit Go.Shelf

theorem tnb_parts {sh ds : List Int} (h : tnb sh ds = true) : may sh = true ∧ (ds.length : Int) = prod sh ∧ wds ds = true := by
  unfold tnb at h
  simp only [Bool.and_eq_true, decide_eq_true_eq] at h
  exact ⟨h.1.1, h.1.2, h.2⟩
theorem wds_wd {l : List Int} {k : Nat} (h : wds l = true) (hk : k < l.length) : wd (l.getD k 0) = true := wd_mk (wds_at h hk)

set_option maxRecDepth 100000 in
set_option maxHeartbeats 4000000 in
theorem echeck_any (vs vd : Value) (sh ds : List Int) (w : World) (hs : Ld w vs sh) (hd : Ld w vd ds) (_ls : sh.length ≤ 17592186044416) (ld : ds.length ≤ 17592186044416) :
    Calls Try.prog 40 #[.agg #[vs, vd]] w fun e w' => e = .returned (.int .i64 (if tnb sh ds = true then 0 else 1)) ∧ Below w.heap.size w w' := by
  obtain ⟨RR, hRR⟩ : ∃ RR : Int, RR = if tnb sh ds = true then 0 else 1 := ⟨_, rfl⟩
  rw [← hRR]
  have HRR := Lib.hid hRR
  clear hRR
  have B0 := Lib.hid ((Below.refl w.heap.size w).alloc (Nat.le_refl _) (.cells #[vs, vd] 26))
  obtain ⟨op, cp, rfl, _, _⟩ := id hs
  obtain ⟨od, cd, rfl, _, hx⟩ := id hd
  have HX := Lib.hid hx
  have WC := Lib.hid (fun (v : Int) (W : World) => check_any v W)
  cases hm : may sh with
  | false =>
    have C := Lib.hid (count_no _ sh _ (hs.below B0.out) hm)
    have E : Hid (tnb sh ds = false) := by unfold tnb; rw [hm]; exact Lib.hid (by simp)
    clear hs hd hm hx
    go_enter Try.func40, Try.ntmps40
    go_wp2_with (go_at_call 75; (with_reducible refine C.out.mono ?_); rintro e w' ⟨rfl, rfl⟩)
    go_ret
    exact ⟨by rw [HRR.out, E.out]; rfl, B0.out⟩
  | true =>
    have C := Lib.hid (count_ok _ sh _ (hs.below B0.out) hm)
    have E : Hid (tnb sh ds = (decide ((ds.length : Int) = prod sh) && wds ds)) := by unfold tnb; rw [hm]; exact Lib.hid (by simp)
    clear hs hd hm hx
    generalize prod sh = n at *
    by_cases q : (ds.length : Int) = n
    · have b1 : ((ds.length : Int) != n) = false := by simpa using q
      have E2 : Hid (tnb sh ds = wds ds) := by rw [Hid, E.out, decide_eq_true q, Bool.true_and]
      clear q E
      go_enter Try.func40, Try.ntmps40
      go_wp2_with (go_at_call 75; (with_reducible refine C.out.mono ?_); rintro e w' ⟨rfl, rfl⟩)
      go_loopw [25] (fun s25 wr => ∃ k : Nat, k ≤ ds.length ∧ s25 = .int .i64 k ∧ Hid (∀ j, j < k → wd (ds.getD j 0) = true) ∧ Hid (Below w.heap.size w wr)) (fun s25 _ => ds.length - (intOf s25).toNat)
      case atStart => exact ⟨0, Nat.zero_le _, rfl, fun j hj => absurd hj (Nat.not_lt_zero _), B0⟩
      case round =>
        obtain ⟨k, hk, rfl, HK, HB⟩ := hrel
        by_cases hlt : k < ds.length
        · obtain ⟨b, f, rfl, h1, c1⟩ := HX.out k hlt
          have c2 : wr.cell? ⟨b, f + k, none⟩ = some (.int .i64 (ds.getD k 0)) := (HB.out.cell (p := ⟨b, f + k, none⟩) h1).trans c1
          clear c1
          cases g : wd (ds.getD k 0) with
          | true =>
            have HG : Hid (∀ j, j < k + 1 → wd (ds.getD j 0) = true) := fun j hj => by
              by_cases e : j = k
              · rw [e]; exact g
              · exact HK.out j (by omega)
            have W1 := WC.out (ds.getD k 0)
            rw [g, if_pos rfl] at W1
            replace W1 := Lib.hid W1
            clear g
            generalize ds.getD k 0 = x at *
            go_wp2_with (go_at_call 76; (with_reducible refine (W1.out _).mono ?_); rintro e w' ⟨rfl, rfl⟩)
            exact ⟨⟨k + 1, by omega, by go_num, HG, HB⟩, by simp [intOf]; omega⟩
          | false =>
            have HG : Hid (wds ds = false) := wds_no hlt (fun h => by rw [wd_mk h] at g; cases g)
            have W1 := WC.out (ds.getD k 0)
            rw [g, if_neg (by decide)] at W1
            replace W1 := Lib.hid W1
            clear g
            generalize ds.getD k 0 = x at *
            go_wp2_with (go_at_call 76; (with_reducible refine (W1.out _).mono ?_); rintro e w' ⟨rfl, rfl⟩)
            go_ret
            exact ⟨by rw [HRR.out, E2.out, HG.out]; rfl, HB.out⟩
        · have HG : Hid (wds ds = true) := wds_yes (fun j hj => wd_bd (HK.out j (by omega)))
          go_wp2
          go_ret
          exact ⟨by rw [HRR.out, E2.out, HG.out]; rfl, HB.out⟩
    · have b1 : ((ds.length : Int) != n) = true := by simpa using q
      have E2 : Hid (tnb sh ds = false) := by rw [Hid, E.out, decide_eq_false q, Bool.false_and]
      clear q E
      go_enter Try.func40, Try.ntmps40
      go_wp2_with (go_at_call 75; (with_reducible refine C.out.mono ?_); rintro e w' ⟨rfl, rfl⟩)
      go_ret
      exact ⟨by rw [HRR.out, E2.out]; rfl, B0.out⟩
end Go.Proofs.Ytlidkeabadioeaa
namespace Go.Proofs.Ytlidkeabadioeaa
open Go Go.RowKit Go.Shelf

end Go.Proofs.Ytlidkeabadioeaa
namespace Go.Proofs.Ytlidkeabadioeaa
open Go Go.RowKit Go.Shelf

theorem blk4 {W : World} {b : Nat} {t : TypeId} {v0 v1 v2 v3 : Value} (h : Blk W b t #[v0, v1, v2, v3]) : W.cell? ⟨b, 0, none⟩ = some v0 ∧ W.cell? ⟨b, 1, none⟩ = some v1 ∧ W.cell? ⟨b, 2, none⟩ = some v2 ∧ W.cell? ⟨b, 3, none⟩ = some v3 :=
  ⟨h.cell 0, h.cell 1, h.cell 2, h.cell 3⟩
theorem frz4 {W : World} {b : Nat} {t : TypeId} {v0 v1 v2 v3 : Value} (h : Blk W b t #[v0, v1, v2, v3]) : W.frozen? ⟨b, 0, none⟩ = false ∧ W.frozen? ⟨b, 1, none⟩ = false ∧ W.frozen? ⟨b, 2, none⟩ = false ∧ W.frozen? ⟨b, 3, none⟩ = false :=
  ⟨h.frozen 0, h.frozen 1, h.frozen 2, h.frozen 3⟩
/-- Where the words go, in new memory. -/
def SomeG (w : World) (vs : Value) (sh ax : List Int) (e : Ending) (w' : World) : Prop := ∃ o1 c1 o2 c2, e = .returned (.tuple #[.agg #[vs, .slice o1 sh.length c1, .slice o2 (lf sh ax 0).length c2, .int .i64 (prod (lf sh ax 0))], .int .i64 0]) ∧
  Hid (Ld w' (.slice o1 sh.length c1) (ons sh ax 0)) ∧ Hid (w'.ownsRow w.heap.size 3 1 (.slice o2 (lf sh ax 0).length c2) (lf sh ax 0).length (ints (lf sh ax 0))) ∧ Below w.heap.size w w'
theorem own_ld {W : World} {base n c : Nat} {o : Option Addr} {e : TypeId} {ls : List Int} (h : W.ownsRow base e 1 (.slice o n c) n (ints ls)) (hn : ls.length = n) : Ld W (.slice o n c) ls := by
  subst hn
  obtain ⟨_, _, e1, h3⟩ := Ld.of_owns h
  simp only [Value.slice.injEq] at e1
  obtain ⟨rfl, _, rfl⟩ := e1
  exact h3
theorem own_at {W : World} {base g n c i : Nat} {ls : List Int} {e : TypeId} (h : W.ownsRow base e 1 (.slice (some ⟨g, 0, none⟩) n c) n (ints ls)) (hl : ls.length = n) (hi : i < n) : W.cell? ⟨g, i, none⟩ = some (.int .i64 (ls.getD i 0)) := by
  subst hl; exact own_cell h hi
theorem own_setn {w : World} {base g c i n : Nat} {ls : List Int} {e : TypeId} (h : w.ownsRow base e 1 (.slice (some ⟨g, 0, none⟩) n c) n (ints ls)) (hl : ls.length = n) (hi : i < n) (v : Int) : (w.setCell ⟨g, i, none⟩ (.int .i64 v)).ownsRow base e 1 (.slice (some ⟨g, 0, none⟩) n c) n (ints (ls.set i v)) := by
  subst hl
  have := own_put h hi v
  rwa [List.length_set] at this
theorem own_form1 {w : World} {base n : Nat} {e : TypeId} {v : Value} {xs : List Value} (h : w.ownsRow base e 1 v n xs) : ∃ o c, v = .slice o n c := by
  rcases h.2 with ⟨rfl, h0⟩ | ⟨g, cap, cur, rfl, _⟩
  · exact ⟨none, 0, by rw [h0]⟩
  · exact ⟨_, _, rfl⟩
theorem own_setx {W : World} {T base n i : Nat} {t u : TypeId} {v z : Value} {xs : List Value} {cs : Array Value} (h : W.ownsRow base t 1 v n xs) (hb : Blk W T u cs) (hne : t ≠ u) : (W.setCell ⟨T, i, none⟩ z).ownsRow base t 1 v n xs :=
  h.kept (grown_set W ⟨T, i, none⟩ z) (.inr (tens_not_row h hb hne))
theorem own_lift {W : World} {b1 b2 n : Nat} {e : TypeId} {v : Value} {xs : List Value} (h : W.ownsRow b1 e 1 v n xs) (hb : ∀ g, v.ownBlock = some g → b2 ≤ g) : W.ownsRow b2 e 1 v n xs := by
  refine ⟨h.1, ?_⟩
  rcases h.2 with h0 | ⟨g, cap, cur, rfl, h1, h2⟩
  · exact .inl h0
  · exact .inr ⟨g, cap, cur, rfl, hb g rfl, h2⟩



end Go.Proofs.Ytlidkeabadioeaa
