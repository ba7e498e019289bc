/-
  package reduce: sums by where words go.
  A row of whole numbers with signs, in memory.
  elem.each: the words of a shape's places in order, whatever is asked of each; the first one's error.
  Roots of whole numbers: Newton's steps, and the nearest word to a root.
  The nearest whole number to the root of a rational number, by its half; odd numbers over 2 and 4.
  FxLaws' arithmetic: whole quotients; a quotient's half, a product's half over a power of 2, in lowest terms.
-/
import Derived.OwnWalkIn
import Derived.Deep.AppendLies
import Derived.Test.YtmafgdinegboeaaGreatM03
import Derived.Test.YtmafgdinegboeaaGreatM07
import Derived.Test.YtmafgdinegboeaaGreatM11
import Derived.Test.YtmafgdinegboeaaGreatM14
import Derived.Test.YtmafgdinegboeaaGreatM15
import Derived.Test.YtmafgdinegboeaaGreatM17
import Derived.Test.YtmafgdinegboeaaGreatM18
namespace Go.Proofs.YtmafgdinegboeaaGreat
open Go Go.RowKit Go.Shelf
attribute [local go_sem] Oper.semAt_some

/-- The cells of a row of wide numbers. -/
def wcl (f : Nat → Int) : Nat → List Value
  | 0 => []
  | m + 1 => wcl f m ++ [.int .i64 (hi (f m)), .int .u64 (lo (f m))]
theorem wcl_len (f : Nat → Int) : ∀ m, (wcl f m).length = m * 2
  | 0 => rfl
  | m + 1 => by simp [wcl, wcl_len f m]; omega
theorem wcl_at (f : Nat → Int) : ∀ m k : Nat, k < m → (wcl f m)[k * 2]? = some (.int .i64 (hi (f k))) ∧ (wcl f m)[k * 2 + 1]? = some (.int .u64 (lo (f k)))
  | 0, k, h => absurd h (Nat.not_lt_zero _)
  | m + 1, k, h => by
    have hl := wcl_len f m
    by_cases e : k = m
    · subst e
      unfold wcl
      rw [List.getElem?_append_right (by omega), List.getElem?_append_right (by omega), hl, Nat.sub_self, show k * 2 + 1 - k * 2 = 1 by omega]
      exact ⟨rfl, rfl⟩
    · have ih := wcl_at f m k (by omega)
      unfold wcl
      rw [List.getElem?_append_left (by omega), List.getElem?_append_left (by omega)]
      exact ih
theorem wcl_same {f g : Nat → Int} : ∀ {m : Nat}, (∀ k, k < m → f k = g k) → wcl f m = wcl g m
  | 0, _ => rfl
  | m + 1, h => by
    unfold wcl
    rw [wcl_same (fun k hk => h k (by omega)), h m (by omega)]
theorem wcl_set (f : Nat → Int) (v : Int) : ∀ m k : Nat, k < m → ((wcl f m).set (k * 2) (.int .i64 (hi v))).set (k * 2 + 1) (.int .u64 (lo v)) = wcl (fun j => if j = k then v else f j) m
  | 0, k, h => absurd h (Nat.not_lt_zero _)
  | m + 1, k, h => by
    have hl := wcl_len f m
    by_cases e : k = m
    · subst e
      unfold wcl
      rw [List.set_append_right _ _ (by omega), hl, Nat.sub_self, List.set_append_right _ _ (by omega), hl, show k * 2 + 1 - k * 2 = 1 by omega]
      rw [wcl_same (f := f) (g := fun j => if j = k then v else f j) (fun j hj => by rw [if_neg (by omega)]), if_pos rfl]
      rfl
    · have ih := wcl_set f v m k (by omega)
      unfold wcl
      rw [List.set_append_left _ _ (by omega), List.set_append_left _ _ (by rw [List.length_set]; omega), ih, if_neg (show ¬ m = k by omega)]
def wcs (f : Nat → Int) (m : Nat) : Array Value := (wcl f m).toArray
theorem wcs_at {f : Nat → Int} {m k : Nat} (h : k < m) : (wcs f m)[k * 2]? = some (.int .i64 (hi (f k))) ∧ (wcs f m)[k * 2 + 1]? = some (.int .u64 (lo (f k))) := by
  have := wcl_at f m k h
  unfold wcs
  simpa using this
theorem wcs_set {f : Nat → Int} {m k : Nat} (h : k < m) (v : Int) : ((wcs f m).setIfInBounds (k * 2) (.int .i64 (hi v))).setIfInBounds (k * 2 + 1) (.int .u64 (lo v)) = wcs (fun j => if j = k then v else f j) m := by
  unfold wcs
  rw [List.setIfInBounds_toArray, List.setIfInBounds_toArray, wcl_set f v m k h]
theorem made_wides (m : Nat) : madeCells #[.int .i64 0, .int .u64 0] (m * 2) = wcs (fun _ => 0) m := by
  apply Array.ext'
  unfold wcs madeCells
  refine List.ext_getElem? (fun i => ?_)
  by_cases h : i < m * 2
  · obtain ⟨k, hk⟩ : ∃ k, k = i / 2 := ⟨_, rfl⟩
    have hm := wcl_at (fun _ => 0) m k (by omega)
    rcases (show i = k * 2 ∨ i = k * 2 + 1 by omega) with e | e
    · have e2 : i % 2 = 0 := by omega
      subst e
      simp [hm.1, h, e2]; rfl
    · have e2 : i % 2 = 1 := by omega
      subst e
      simp [hm.2, h, e2]; rfl
  · rw [List.getElem?_eq_none (by simp; omega), List.getElem?_eq_none (by rw [wcl_len]; omega)]
theorem infoV : (Tryz.prog.info? 121).map (fun i => (i.zero, i.size, i.bytes)) = some (some (.agg #[.int .i64 0, .int .u64 0]), 2, 16) := by kernel_rfl
/-- The sums when n words are counted. -/
def sms (sh ax ds : List Int) (n m : Nat) : Int := smN (into sh ax) (fun k => ds.getD k 0) (m : Int) n
theorem sms_next (sh ax ds : List Int) (n a : Nat) (h : into sh ax n = (a : Int)) (m : Nat) : sms sh ax ds (n + 1) m = if m = a then sms sh ax ds n a + ds.getD n 0 else sms sh ax ds n m := by
  unfold sms
  show smN _ _ _ n + (if into sh ax n = (m : Int) then _ else _) = _
  by_cases e : m = a
  · subst e; rw [if_pos h, if_pos rfl]
  · rw [if_neg (by omega), if_neg e, Int.add_zero]
theorem sms_R {sh ax ds : List Int} {n m : Nat} (hn : n ≤ 65536) (hd : ∀ k, k < n → wd (ds.getD k 0) = true) : R (sms sh ax ds n m) ∧ -9223372036854775808 ≤ sms sh ax ds n m ∧ sms sh ax ds n m ≤ 9223372036854775807 := by
  have h := smN_bd (key := into sh ax) (d := fun k => ds.getD k 0) (m := (m : Int)) (B := 140737488355327) (by decide) (n := n) (fun k hk => by have := wd_bd (hd k hk); exact ⟨by show _ ≤ ds.getD k 0; omega, by show ds.getD k 0 ≤ _; omega⟩)
  unfold sms
  rw [R_iff]
  omega
/-- A row of wide numbers in new memory. -/
def SomeZ (w : World) (f : Nat → Int) (m : Nat) (e : Ending) (w' : World) : Prop := ∃ g, e = .returned (.slice (some ⟨g, 0, none⟩) m m) ∧ Hid (Blk w' g 121 (wcs f m)) ∧ Below w.heap.size w w'

set_option maxRecDepth 100000 in
set_option maxHeartbeats 8000000 in
theorem summed_any (vs vd vo vt : Value) (sh ds ax : List Int) (N M : Nat) (w : World) (hs : Ld w vs sh) (hd : Ld w vd ds) (ho : Ld w vo (ons sh ax 0)) (ht : ∃ o m k, vt = .slice o m k) (hm : may sh = true) (hN : (N : Int) = prod sh) (hM : (M : Int) = prod (lf sh ax 0)) (hl : ds.length = N) (hw : wds ds = true) :
    Calls Tryz.prog 76 #[.agg #[vs, vd], .agg #[vs, vo, vt, .int .i64 M]] w (SomeZ w (sms sh ax ds N) M) := by
  obtain ⟨i0, hi0, hz0, hz1, hz2⟩ := info_parts infoV
  have l4 := may_len hm
  have hN6 : N ≤ 65536 := by have := may_prod hm; omega
  have hM6 : 1 ≤ M ∧ M ≤ 65536 := by
    have := lf_take_prod ax hm sh.length
    rw [List.take_length] at this
    omega
  have mk : ∀ W : World, (Instr.makeSlice 136 (.int .i64 (M : Int)) (.int .i64 (M : Int))).run Tryz.prog W = .ok (.slice (some ⟨W.heap.size, 0, none⟩) M M) (W.alloc (.cells (wcs (fun _ => 0) M) 121)) := fun W => by
    have := run_make (w := W) 136 121 i0 (.agg #[.int .i64 0, .int .u64 0]) Tryz.underlying136 hi0 hz0 .i64 .i64 M M (by omega) (by omega) (by rw [hz2]; omega) (by omega)
    rw [this, hz1]
    show _ = _
    rw [← made_wides]; simp [Value.cells]
  have C3 := Lib.hid (fun (W : World) (hW : Below w.heap.size w W) => all2_any vs sh W (hs.below hW) (by omega))
  rw [hm, if_pos rfl, ← hN] at C3
  have CU := Lib.hid (fun (n : Nat) (vi : Value) (W : World) (hn : n < N) (hW : Below w.heap.size w W) (hi : Ld W vi (atl sh (n : Nat))) => under9_any vs vo vt vi sh ax (M : Int) n W (hs.below hW) (ho.below hW) ht hi hm (by omega))
  obtain ⟨w4, hw4⟩ : ∃ w4, w4 = (((w.alloc (.cells #[vs, vd] 26)).alloc (.cells #[vs, vo, vt, .int .i64 M] 129)).alloc (.cells (wcs (fun _ => 0) M) 121)).alloc (.cells #[.slice (some ⟨w.heap.size + 2, 0, none⟩) M M] 136) := ⟨_, rfl⟩
  have hsz : w4.heap.size = w.heap.size + 4 := by rw [hw4]; simp
  have B4 : Below w.heap.size w w4 := by rw [hw4]; exact ((((Below.refl _ _).alloc (Nat.le_refl _) _).alloc (by simp) _).alloc (by simp; omega) _).alloc (by simp; omega) _
  have K0 : Hid (Blk w4 w.heap.size 26 #[vs, vd]) := by rw [hw4]; exact (((Blk.new w _ _).alloc _).alloc _).alloc _
  have K1 : Hid (Blk w4 (w.heap.size + 1) 129 #[vs, vo, vt, .int .i64 M]) := by rw [hw4]; exact ((blk_new1 w _ _ _).alloc _).alloc _
  have K2 : Hid (Blk w4 (w.heap.size + 2) 121 (wcs (fun _ => 0) M)) := by
    rw [hw4]
    have q := Blk.new ((w.alloc (.cells #[vs, vd] 26)).alloc (.cells #[vs, vo, vt, .int .i64 M] 129)) 121 (wcs (fun _ => 0) M)
    rw [World.size_alloc, World.size_alloc] at q
    exact q.alloc _
  have K3 : Hid (Blk w4 (w.heap.size + 3) 136 #[.slice (some ⟨w.heap.size + 2, 0, none⟩) M M]) := by
    rw [hw4]
    have q := Blk.new (((w.alloc (.cells #[vs, vd] 26)).alloc (.cells #[vs, vo, vt, .int .i64 M] 129)).alloc (.cells (wcs (fun _ => 0) M) 121)) 136 #[.slice (some ⟨w.heap.size + 2, 0, none⟩) M M]
    rwa [World.size_alloc, World.size_alloc, World.size_alloc] at q
  have HW := Lib.hid hw4
  have C4 := Lib.hid (C3.out w4 B4)
  rw [hw4] at C4
  have HV := Lib.hid (And.intro hm hN)
  have HD := Lib.hid hd
  have HDW := Lib.hid (fun k hk => wd_mk (wds_at hw (k := k) hk))
  have HIB := Lib.hid (fun (n : Nat) (hn : n < N) => (into_bd ax (may_pos hm) (n := n) (by omega)).2)
  obtain ⟨o1, n1, rfl, _, _⟩ := id hs
  obtain ⟨o2, n2, rfl, _, hdx⟩ := id hd
  have HDX := Lib.hid hdx
  clear hdx
  obtain ⟨o3, n3, rfl, _, _⟩ := id ho
  obtain ⟨o4, m4, n4, rfl⟩ := ht
  have HL := Lib.hid hl
  have HMM := Lib.hid hM
  clear hw4 hs hd ho hN hM hm C3 hw hl
  refine (callsIn_wide (n := 9)).1 ?_
  refine callsIn_of_wp_marks Tryz.func76 rfl trivial ?_
  simp only [Tryz.ntmps76, List.size_toArray, List.length_cons, List.length_nil, Nat.reduceAdd, Nat.reduceSub, Array.replicate_succ, Array.replicate_zero, List.push_toArray, List.append_toArray, List.nil_append, List.cons_append]
  refine wpIn_wide.2 ?_
  go_wp2_with (go_at_call 73; (with_reducible refine C4.out.mono ?_); rintro e w7 ⟨B1, B2, oA, cA, rfl, hbx, q1, q2, hb7⟩; rw [← HW.out] at hbx q1 q2 hb7)
  rw [hsz] at q1 q2 hb7
  have s7 : w.heap.size + 4 ≤ w7.heap.size := by have := hb7.size; omega
  have hbl : B1 < w7.heap.size := hbx.1.lt
  have hbl2 : B2 < w7.heap.size := hbx.2.1.lt
  have HBX := Lib.hid hbx
  have OWN : Hid (∀ g, oA = some ⟨g, 0, none⟩ → w.heap.size + 4 ≤ g ∧ g < w7.heap.size) := Lib.hid (fun g e => by
    have h := hbx.2.2.lt g (by rw [e]; rfl)
    have h2 := h.1
    exact ⟨by omega, h.2⟩)
  have I0 := Lib.hid (K0.out.below hb7 (by omega))
  have I1 := Lib.hid (K1.out.below hb7 (by omega))
  have I2 := Lib.hid (K2.out.below hb7 (by omega))
  have I3 := Lib.hid (K3.out.below hb7 (by omega))
  have B7 := Lib.hid (B4.trans (hb7.mono (by omega)))
  clear hbx hb7 mk
  refine (wpIn_wide (n := 9)).1 ?_
  refine wpIn_rangeFunc_told (F := Fence.wide) (n := 9) rfl (by decide) (gf := 148) (lb := #[.pointer (some ⟨B1, 0, none⟩), .pointer (some ⟨B2, 0, none⟩)]) rfl trivial (enters_of Tryz.func148 (by kernel_rfl) rfl)
    (all3_told 8 _ B1 B2 N (by decide) oA cA sh hN6 (fun _ => ⟨HV.out.1, HV.out.2.symm⟩) w7 HBX.out)
    Kp3.trans ?keepb (fun _ => rfl)
    (fun pre W => Blk W (w.heap.size + 2) 121 (wcs (sms sh ax ds pre.length) M) ∧ Blk W (w.heap.size + 3) 136 #[.slice (some ⟨w.heap.size + 2, 0, none⟩) M M] ∧ Below (w.heap.size + 2) w7 W ∧ w7.heap.size ≤ W.heap.size)
    (fun _ _ _ => False)
    ?ownI ?ownX ?ownT ⟨?i0, I3.out, Below.refl _ _, Nat.le_refl _⟩ ?a1 ?assign ?body ?done ?stop
  case keepb =>
    intro X k o o' hk ho hc _
    exact ⟨World.putObj_heap_other (by omega), World.putObj_heap_other (by omega), fun g e => World.putObj_heap_other (by have := (OWN.out g e).2; omega)⟩
  case ownI =>
    rintro pre X Y row ⟨h1, h2, h3, h4⟩ hg hr
    have hc : ∀ r, row = some r → ∃ o : Obj, X.heap[r]? = some o ∧ o.isCells = false := fun r e => (hr r e).2
    exact ⟨blk_own (β := Unit) _ _ (fun _ => _) () X Y row h1 hg hc, blk_own (β := Unit) _ _ (fun _ => _) () X Y row h2 hg hc, h3.grown hg (by omega) (fun k e => by have := (hr k e).1; omega), Nat.le_trans h4 hg.size⟩
  case ownX => exact fun _ _ _ _ _ hs _ _ => hs
  case ownT => exact fun pre x _ X Y row h hg hr => ⟨h.1, blk_own (β := Unit) _ _ (fun _ => _) () X Y row h.2 hg (fun r e => (hr r e).2)⟩
  case i0 => exact I2.out
  case assign =>
    intro l2 x X K hK
    unfold apr
    gi_wp2
    exact hK
  case body =>
    rintro l2 pre ⟨x1, x2⟩ X ⟨hL, hB, hBX, hXs⟩ hlt ⟨hx, hBI⟩
    obtain rfl : x1 = pre.length := hx
    -- BEGIN round
    have hI0 := I0.out.below hBX (by omega)
    have hI1 := I1.out.below hBX (by omega)
    obtain ⟨c0, c1, c2, c3⟩ := blk4 hI1
    obtain ⟨a, ha⟩ := Int.eq_ofNat_of_zero_le (HIB.out pre.length hlt).1
    have haM : a < M := by have := (HIB.out pre.length hlt).2; have := HMM.out; omega
    have BWX : Below w.heap.size w X := B7.out.trans (hBX.mono (by omega))
    have BWh := Lib.hid (fun (W : World) (hW : Below X.heap.size X W) => BWX.trans (hW.mono BWX.size))
    have HLd : Hid (Ld X (.slice (some ⟨x2, 0, none⟩) sh.length sh.length) (atl sh (pre.length : Nat))) := by
      have h := Ld.of_blk hBI (c := sh.length) (by rw [atl_len]; exact Nat.le_refl _)
      rw [atl_len] at h
      exact h
    have CUn := Lib.hid (CU.out pre.length _ X hlt BWX HLd.out)
    rw [ha] at CUn
    obtain ⟨bd, fd, rfl, hd1, hd2⟩ := HDX.out pre.length (by rw [HL.out]; exact hlt)
    have hd3 := HDW.out pre.length (by rw [HL.out]; exact hlt)
    have hsr := sms_R (sh := sh) (ax := ax) (ds := ds) (n := pre.length) (m := a) (by omega) (fun k hk => HDW.out k (by rw [HL.out]; omega))
    have hsr2 := sms_R (sh := sh) (ax := ax) (ds := ds) (n := pre.length + 1) (m := a) (by omega) (fun k hk => HDW.out k (by rw [HL.out]; omega))
    have hnx := sms_next sh ax ds pre.length a ha
    have hna := hnx a
    rw [if_pos rfl] at hna
    rw [hna] at hsr2
    have hlc := wcs_at (f := sms sh ax ds pre.length) haM
    have HP := Lib.hid (And.intro hL (And.intro hB (And.intro hBX (And.intro hXs hnx))))
    have HI := Lib.hid (And.intro hI0 hBI)
    have hld : pre.length < ds.length := by rw [HL.out]; exact hlt
    obtain ⟨ps, hps⟩ : ∃ ps, ps = sms sh ax ds pre.length a := ⟨_, rfl⟩
    rw [← hps] at hsr hsr2 hlc
    have HX2 : Hid (∀ m, sms sh ax ds (pre.length + 1) m = if m = a then ps + ds.getD pre.length 0 else sms sh ax ds pre.length m) := Lib.hid (fun m => by rw [hps]; exact hnx m)
    clear hL hB hI0 hI1 hBI ha hnx hna hps HLd
    gi_wp2_with (refine And.intro trivial ?_; (with_reducible refine CallsIn.mono (CallsIn.inRound _ (callsIn_wide.2 CUn.out)) ?_); rintro e X1 ⟨rfl, hb1⟩; have b1 := Lib.hid hb1; clear hb1)
    generalize hdd : ds.getD pre.length 0 = d at *
    have KF := Lib.hid (fun (W : World) => from_any d W (by have := wd_bd hd3; omega) (by have := wd_bd hd3; omega))
    have KA : Hid (∀ W : World, Calls Tryz.prog 151 #[Wv ps, Wv d] W fun e w' => e = .returned (.tuple #[Wv (ps + d), .int .i64 0]) ∧ Below W.heap.size W w') := Lib.hid (fun W => by
      have h := add_any ps d W hsr.1 (by rw [R_iff]; have := wd_bd hd3; omega)
      rwa [told_in hsr2.1, over_in hsr2.1] at h)
    have b7 := Lib.hid (HP.out.2.2.1.trans (b1.out.mono (by have := HP.out.2.2.2.1; omega)))
    have x7 := Nat.le_trans HP.out.2.2.2.1 b1.out.size
    have kL := HP.out.1.below b1.out HP.out.1.lt
    have kB := HP.out.2.1.below b1.out HP.out.2.1.lt
    have kI := HI.out.1.below b1.out HI.out.1.lt
    have kd : X1.cell? ⟨bd, fd + pre.length, none⟩ = some (.int .i64 d) := (((BWh.out X1 b1.out)).cell (p := ⟨bd, fd + pre.length, none⟩) hd1).trans hd2
    have CL : Hid (∀ W, Below X1.heap.size X1 W → W.cell? ⟨w.heap.size + 2, a * 2, none⟩ = some (.int .i64 (hi ps)) ∧ W.cell? ⟨w.heap.size + 2, a * 2 + 1, none⟩ = some (.int .u64 (lo ps))) := Lib.hid (fun W hW => by
      have h := kL.below hW kL.lt
      exact ⟨(h.cell _).trans hlc.1, (h.cell _).trans hlc.2⟩)
    have CF : Hid (∀ W, Below X1.heap.size X1 W → W.frozen? ⟨w.heap.size + 2, a * 2, none⟩ = false ∧ W.frozen? ⟨w.heap.size + 2, a * 2 + 1, none⟩ = false) := Lib.hid (fun W hW => by
      have h := kL.below hW kL.lt
      exact ⟨h.frozen _, h.frozen _⟩)
    have KS : Hid (∀ W, Below X1.heap.size X1 W → W.cell? ⟨w.heap.size + 3, 0, none⟩ = some (.slice (some ⟨w.heap.size + 2, 0, none⟩) M M) ∧ W.cell? ⟨w.heap.size, 1, none⟩ = some (.slice (some ⟨bd, fd, none⟩) ds.length n2) ∧ W.cell? ⟨bd, fd + pre.length, none⟩ = some (.int .i64 d)) := Lib.hid (fun W hW =>
      ⟨(kB.below hW kB.lt).cell 0, (kI.below hW kI.lt).cell 1, (hW.cell (p := ⟨bd, fd + pre.length, none⟩) (by show bd < _; omega)).trans kd⟩)
    have KS2 : Hid (∀ W u v, Below X1.heap.size X1 W → ((W.setCell ⟨w.heap.size + 2, a * 2, none⟩ u).setCell ⟨w.heap.size + 2, a * 2 + 1, none⟩ v).cell? ⟨w.heap.size + 3, 0, none⟩ = some (.slice (some ⟨w.heap.size + 2, 0, none⟩) M M) ∧ ((W.setCell ⟨w.heap.size + 2, a * 2, none⟩ u).setCell ⟨w.heap.size + 2, a * 2 + 1, none⟩ v).cell? ⟨w.heap.size, 1, none⟩ = some (.slice (some ⟨bd, fd, none⟩) ds.length n2) ∧ ((W.setCell ⟨w.heap.size + 2, a * 2, none⟩ u).setCell ⟨w.heap.size + 2, a * 2 + 1, none⟩ v).cell? ⟨bd, fd + pre.length, none⟩ = some (.int .i64 d)) := Lib.hid (fun W u v hW => by
      have e : ∀ (b i : Nat) (x : Value), ¬ b = w.heap.size + 2 → W.cell? ⟨b, i, none⟩ = some x → ((W.setCell ⟨w.heap.size + 2, a * 2, none⟩ u).setCell ⟨w.heap.size + 2, a * 2 + 1, none⟩ v).cell? ⟨b, i, none⟩ = some x := fun b i x hb hx => by
        rw [← hx]
        simp only [World.cell?]
        rw [Below.heap_setCell _ _ _ _ hb, Below.heap_setCell _ _ _ _ hb]
      obtain ⟨k1, k2, k3⟩ := KS.out W hW
      exact ⟨e _ _ _ (by omega) k1, e _ _ _ (by omega) k2, e _ _ _ (by omega) k3⟩)
    have B0 : Hid (Below X1.heap.size X1 X1.drew) := Lib.hid (below_drw (Below.refl _ _) 1)
    have i1 : (a : Int) < (M : Int) := by omega
    have i2 : (pre.length : Int) < (ds.length : Int) := by omega
    have KK := Lib.hid (And.intro hlt (And.intro hdd (And.intro kL kB)))
    clear kL kB kI kd hlc hsr hsr2 hd1 hd2 hd3 hlt hdd
    refine wpIn_mono (region_inA (S := fun W => W.cell? ⟨w.heap.size + 3, 0, none⟩ = some (.slice (some ⟨w.heap.size + 2, 0, none⟩) M M) ∧ W.cell? ⟨w.heap.size, 1, none⟩ = some (.slice (some ⟨bd, fd, none⟩) ds.length n2) ∧ W.cell? ⟨bd, fd + pre.length, none⟩ = some (.int .i64 d)) (R := fun _ W2 => ∃ W1, Hid (Below X1.heap.size X1 W1) ∧ W2 = (W1.setCell ⟨w.heap.size + 2, a * 2, none⟩ (.int .i64 (hi (ps + d)))).setCell ⟨w.heap.size + 2, a * 2 + 1, none⟩ (.int .u64 (lo (ps + d)))) (by kernel_rfl) (by kernel_rfl) ?_ (fun hHeld => ?_)) ?_
    · exact KS.out _ B0.out
    · simp only [List.size_toArray, List.length_cons, List.length_nil, Nat.reduceAdd, Array.replicate_succ, Array.replicate_zero, List.push_toArray, List.nil_append, List.cons_append]
      as_aux_lemma =>
      generalize X1.drew = wd at *
      (refine wpAnyH_take (i := 0) (oi := ⟨some 21, _, _, _, _, _⟩) (v := ?v0_s1) rfl (by kernel_rfl) (by kernel_rfl) (by kernel_rfl) (fun _ _ _ h => by cases h.1) (Or.inl ⟨by rfl, ?hy0_s1⟩) (by assumption) ?rest0_s1; (case hy0_s1 => ((intro w hSw); (try dsimp only at hSw); go_simp; first | done | (with_reducible rfl))))
      (try simp only [Act.put, List.setIfInBounds_toArray, List.set_cons_zero, List.set_cons_succ])
      (refine wpAnyH_take (i := 1) (oi := ⟨some 22, _, _, _, _, _⟩) (v := ?v1_s2) rfl (by kernel_rfl) (by kernel_rfl) (by kernel_rfl) (fun _ _ _ h => by cases h.1) (Or.inl ⟨by rfl, ?hy1_s2⟩) (by assumption) ?rest1_s2; (case hy1_s2 => ((intro w hSw); (try dsimp only at hSw); go_simp; first | done | (with_reducible rfl))))
      (try simp only [Act.put, List.setIfInBounds_toArray, List.set_cons_zero, List.set_cons_succ])
      (refine wpAnyH_take (i := 2) (oi := ⟨some 23, _, _, _, _, _⟩) (v := ?v2_s3) rfl (by kernel_rfl) (by kernel_rfl) (by kernel_rfl) (fun _ _ _ h => by cases h.1) (Or.inl ⟨by rfl, ?hy2_s3⟩) (by assumption) ?rest2_s3; (case hy2_s3 => ((intro w hSw); (try dsimp only at hSw); go_simp; first | done | (with_reducible rfl))))
      (try simp only [Act.put, List.setIfInBounds_toArray, List.set_cons_zero, List.set_cons_succ])
      (refine wpAnyH_take (i := 3) (oi := ⟨some 24, _, _, _, _, _⟩) (v := ?v3_s4) rfl (by kernel_rfl) (by kernel_rfl) (by kernel_rfl) (fun _ _ _ h => by cases h.1) (Or.inl ⟨by rfl, ?hy3_s4⟩) (by assumption) ?rest3_s4; (case hy3_s4 => ((intro w hSw); (try dsimp only at hSw); go_simp; first | done | (with_reducible rfl))))
      (try simp only [Act.put, List.setIfInBounds_toArray, List.set_cons_zero, List.set_cons_succ])
      (refine wpAnyH_take (i := 4) (oi := ⟨some 25, _, _, _, _, _⟩) (v := ?v4_s5) rfl (by kernel_rfl) (by kernel_rfl) (by kernel_rfl) (fun _ _ _ h => by cases h.1) (Or.inl ⟨by rfl, ?hy4_s5⟩) (by assumption) ?rest4_s5; (case hy4_s5 => ((intro w hSw); (try dsimp only at hSw); go_simp; first | done | (with_reducible rfl))))
      (try simp only [Act.put, List.setIfInBounds_toArray, List.set_cons_zero, List.set_cons_succ])
      (refine wpAnyH_take (i := 6) (oi := ⟨some 27, _, _, _, _, _⟩) (v := ?v6_s6) rfl (by kernel_rfl) (by kernel_rfl) (by kernel_rfl) (fun _ _ _ h => by cases h.1) (Or.inl ⟨by rfl, ?hy6_s6⟩) (by assumption) ?rest6_s6; (case hy6_s6 => ((intro w hSw); (try dsimp only at hSw); go_simp; first | done | (with_reducible rfl))))
      (try simp only [Act.put, List.setIfInBounds_toArray, List.set_cons_zero, List.set_cons_succ])
      (refine wpAnyH_take (i := 7) (oi := ⟨some 28, _, _, _, _, _⟩) (v := ?v7_s7) rfl (by kernel_rfl) (by kernel_rfl) (by kernel_rfl) (fun _ _ _ h => by cases h.1) (Or.inl ⟨by rfl, ?hy7_s7⟩) (by assumption) ?rest7_s7; (case hy7_s7 => ((intro w hSw); (try dsimp only at hSw); go_simp; first | done | (with_reducible rfl))))
      (try simp only [Act.put, List.setIfInBounds_toArray, List.set_cons_zero, List.set_cons_succ])
      (refine wpAnyH_take (i := 8) (oi := ⟨some 29, _, _, _, _, _⟩) (v := ?v8_s8) rfl (by kernel_rfl) (by kernel_rfl) (by kernel_rfl) (fun _ _ _ h => by cases h.1) (Or.inl ⟨by rfl, ?hy8_s8⟩) (by assumption) ?rest8_s8; (case hy8_s8 => ((intro w hSw); (try dsimp only at hSw); go_simp; first | done | (with_reducible rfl))))
      (try simp only [Act.put, List.setIfInBounds_toArray, List.set_cons_zero, List.set_cons_succ])
      (refine wpAnyH_take (i := 9) (oi := ⟨some 30, _, _, _, _, _⟩) (v := ?v9_s9) rfl (by kernel_rfl) (by kernel_rfl) (by kernel_rfl) (fun _ _ _ h => by cases h.1) (Or.inl ⟨by rfl, ?hy9_s9⟩) (by assumption) ?rest9_s9; (case hy9_s9 => ((intro w hSw); (try dsimp only at hSw); go_simp; first | done | (with_reducible rfl))))
      (try simp only [Act.put, List.setIfInBounds_toArray, List.set_cons_zero, List.set_cons_succ])
      (refine wpAnyH_take (i := 10) (oi := ⟨some 31, _, _, _, _, _⟩) (v := ?v10_s10) rfl (by kernel_rfl) (by kernel_rfl) (by kernel_rfl) (fun _ _ _ h => by cases h.1) (Or.inl ⟨by rfl, ?hy10_s10⟩) (by assumption) ?rest10_s10; (case hy10_s10 => ((intro w hSw); (try dsimp only at hSw); go_simp; first | done | (with_reducible rfl))))
      (try simp only [Act.put, List.setIfInBounds_toArray, List.set_cons_zero, List.set_cons_succ])
      refine wpAnyH_ready (rs := [5, 11]) (by kernel_rfl) (by simp) ?_
      refine AllReadyH.cons (o := ⟨some 26, _, _, _, _, _⟩) rfl (fun K hK => ?_) (AllReadyH.cons (o := ⟨some 32, _, _, _, _, _⟩) rfl (fun K hK => ?_) (AllReadyH.nil))
      · obtain ⟨l0, l1⟩ := CL.out _ B0.out
        go_simp
        refine hK.out _ _ ?_ (fun hHeld => ?_)
        · (try dsimp only)
          exact KS.out _ B0.out
        clear hK K
        (try simp only [List.setIfInBounds_toArray, List.set_cons_zero, List.set_cons_succ])
        refine wpAnyH_ready (rs := [11]) (by kernel_rfl) (by simp) ?_
        refine AllReadyH.cons (o := ⟨some 32, _, _, _, _, _⟩) rfl (fun K hK => ?_) (AllReadyH.nil)
        go_simp
        (go_at_call 70; (with_reducible refine (KF.out _).mono ?_); rintro e w11 ⟨rfl, hb⟩; have b11 := Lib.hid (B0.out.trans (hb.mono B0.out.size)); clear hb)
        refine hK.out _ _ ?_ (fun hHeld => ?_)
        · (try dsimp only)
          exact KS.out _ b11.out
        clear hK K
        (try simp only [List.setIfInBounds_toArray, List.set_cons_zero, List.set_cons_succ])
        refine wpAnyH_ready (rs := [12]) (by kernel_rfl) (by simp) ?_
        refine AllReadyH.cons (o := ⟨some 33, _, _, _, _, _⟩) rfl (fun K hK => ?_) (AllReadyH.nil)
        go_simp
        (go_at_call 151; (with_reducible refine (KA.out _).mono ?_); rintro e w12 ⟨rfl, hb⟩; have b12 := Lib.hid (b11.out.trans (hb.mono b11.out.size)); clear hb)
        refine hK.out _ _ ?_ (fun hHeld => ?_)
        · (try dsimp only)
          exact KS.out _ b12.out
        clear hK K
        (try simp only [List.setIfInBounds_toArray, List.set_cons_zero, List.set_cons_succ])
        (refine wpAnyH_take (i := 13) (oi := ⟨some 20, _, _, _, _, _⟩) (v := ?v13_s11) rfl (by kernel_rfl) (by kernel_rfl) (by kernel_rfl) (fun _ _ _ h => by cases h.1) (Or.inl ⟨by rfl, ?hy13_s11⟩) (by assumption) ?rest13_s11; (case hy13_s11 => ((intro w hSw); (try dsimp only at hSw); go_simp; first | done | (with_reducible rfl))))
        (try simp only [Act.put, List.setIfInBounds_toArray, List.set_cons_zero, List.set_cons_succ])
        (refine wpAnyH_take (i := 14) (oi := ⟨some 34, _, _, _, _, _⟩) (v := ?v14_s12) rfl (by kernel_rfl) (by kernel_rfl) (by kernel_rfl) (fun _ _ _ h => by cases h.1) (Or.inl ⟨by rfl, ?hy14_s12⟩) (by assumption) ?rest14_s12; (case hy14_s12 => ((intro w hSw); (try dsimp only at hSw); go_simp; first | done | (with_reducible rfl))))
        (try simp only [Act.put, List.setIfInBounds_toArray, List.set_cons_zero, List.set_cons_succ])
        (refine wpAnyH_take (i := 15) (oi := ⟨some 35, _, _, _, _, _⟩) (v := ?v15_s13) rfl (by kernel_rfl) (by kernel_rfl) (by kernel_rfl) (fun _ _ _ h => by cases h.1) (Or.inl ⟨by rfl, ?hy15_s13⟩) (by assumption) ?rest15_s13; (case hy15_s13 => ((intro w hSw); (try dsimp only at hSw); go_simp; first | done | (with_reducible rfl))))
        (try simp only [Act.put, List.setIfInBounds_toArray, List.set_cons_zero, List.set_cons_succ])
        (refine wpAnyH_take (i := 16) (oi := ⟨some 36, _, _, _, _, _⟩) (v := ?v16_s14) rfl (by kernel_rfl) (by kernel_rfl) (by kernel_rfl) (fun _ _ _ h => by cases h.1) (Or.inl ⟨by rfl, ?hy16_s14⟩) (by assumption) ?rest16_s14; (case hy16_s14 => ((intro w hSw); (try dsimp only at hSw); go_simp; first | done | (with_reducible rfl))))
        (try simp only [Act.put, List.setIfInBounds_toArray, List.set_cons_zero, List.set_cons_succ])
        refine wpAnyH_ready (rs := [17]) (by kernel_rfl) (by simp) ?_
        refine AllReadyH.cons (o := ⟨none, _, _, _, _, _⟩) rfl (fun K hK => ?_) (AllReadyH.nil)
        obtain ⟨l0, l1⟩ := CL.out _ b12.out
        obtain ⟨f0, f1⟩ := CF.out _ b12.out
        go_simp
        refine hK.out _ _ ?_ (fun hHeld => ?_)
        · (try dsimp only)
          exact KS2.out _ _ _ b12.out
        clear hK K
        (try simp only [List.setIfInBounds_toArray, List.set_cons_zero, List.set_cons_succ])
        refine wpAnyH_done (by kernel_rfl) ?_ _
        exact ⟨rfl, w12, b12, rfl⟩
      · go_simp
        (go_at_call 70; (with_reducible refine (KF.out _).mono ?_); rintro e w11 ⟨rfl, hb⟩; have b11 := Lib.hid (B0.out.trans (hb.mono B0.out.size)); clear hb)
        refine hK.out _ _ ?_ (fun hHeld => ?_)
        · (try dsimp only)
          exact KS.out _ b11.out
        clear hK K
        (try simp only [List.setIfInBounds_toArray, List.set_cons_zero, List.set_cons_succ])
        refine wpAnyH_ready (rs := [5]) (by kernel_rfl) (by simp) ?_
        refine AllReadyH.cons (o := ⟨some 26, _, _, _, _, _⟩) rfl (fun K hK => ?_) (AllReadyH.nil)
        obtain ⟨l0, l1⟩ := CL.out _ b11.out
        go_simp
        refine hK.out _ _ ?_ (fun hHeld => ?_)
        · (try dsimp only)
          exact KS.out _ b11.out
        clear hK K
        (try simp only [List.setIfInBounds_toArray, List.set_cons_zero, List.set_cons_succ])
        refine wpAnyH_ready (rs := [12]) (by kernel_rfl) (by simp) ?_
        refine AllReadyH.cons (o := ⟨some 33, _, _, _, _, _⟩) rfl (fun K hK => ?_) (AllReadyH.nil)
        go_simp
        (go_at_call 151; (with_reducible refine (KA.out _).mono ?_); rintro e w12 ⟨rfl, hb⟩; have b12 := Lib.hid (b11.out.trans (hb.mono b11.out.size)); clear hb)
        refine hK.out _ _ ?_ (fun hHeld => ?_)
        · (try dsimp only)
          exact KS.out _ b12.out
        clear hK K
        (try simp only [List.setIfInBounds_toArray, List.set_cons_zero, List.set_cons_succ])
        (refine wpAnyH_take (i := 13) (oi := ⟨some 20, _, _, _, _, _⟩) (v := ?v13_s15) rfl (by kernel_rfl) (by kernel_rfl) (by kernel_rfl) (fun _ _ _ h => by cases h.1) (Or.inl ⟨by rfl, ?hy13_s15⟩) (by assumption) ?rest13_s15; (case hy13_s15 => ((intro w hSw); (try dsimp only at hSw); go_simp; first | done | (with_reducible rfl))))
        (try simp only [Act.put, List.setIfInBounds_toArray, List.set_cons_zero, List.set_cons_succ])
        (refine wpAnyH_take (i := 14) (oi := ⟨some 34, _, _, _, _, _⟩) (v := ?v14_s16) rfl (by kernel_rfl) (by kernel_rfl) (by kernel_rfl) (fun _ _ _ h => by cases h.1) (Or.inl ⟨by rfl, ?hy14_s16⟩) (by assumption) ?rest14_s16; (case hy14_s16 => ((intro w hSw); (try dsimp only at hSw); go_simp; first | done | (with_reducible rfl))))
        (try simp only [Act.put, List.setIfInBounds_toArray, List.set_cons_zero, List.set_cons_succ])
        (refine wpAnyH_take (i := 15) (oi := ⟨some 35, _, _, _, _, _⟩) (v := ?v15_s17) rfl (by kernel_rfl) (by kernel_rfl) (by kernel_rfl) (fun _ _ _ h => by cases h.1) (Or.inl ⟨by rfl, ?hy15_s17⟩) (by assumption) ?rest15_s17; (case hy15_s17 => ((intro w hSw); (try dsimp only at hSw); go_simp; first | done | (with_reducible rfl))))
        (try simp only [Act.put, List.setIfInBounds_toArray, List.set_cons_zero, List.set_cons_succ])
        (refine wpAnyH_take (i := 16) (oi := ⟨some 36, _, _, _, _, _⟩) (v := ?v16_s18) rfl (by kernel_rfl) (by kernel_rfl) (by kernel_rfl) (fun _ _ _ h => by cases h.1) (Or.inl ⟨by rfl, ?hy16_s18⟩) (by assumption) ?rest16_s18; (case hy16_s18 => ((intro w hSw); (try dsimp only at hSw); go_simp; first | done | (with_reducible rfl))))
        (try simp only [Act.put, List.setIfInBounds_toArray, List.set_cons_zero, List.set_cons_succ])
        refine wpAnyH_ready (rs := [17]) (by kernel_rfl) (by simp) ?_
        refine AllReadyH.cons (o := ⟨none, _, _, _, _, _⟩) rfl (fun K hK => ?_) (AllReadyH.nil)
        obtain ⟨l0, l1⟩ := CL.out _ b12.out
        obtain ⟨f0, f1⟩ := CF.out _ b12.out
        go_simp
        refine hK.out _ _ ?_ (fun hHeld => ?_)
        · (try dsimp only)
          exact KS2.out _ _ _ b12.out
        clear hK K
        (try simp only [List.setIfInBounds_toArray, List.set_cons_zero, List.set_cons_succ])
        refine wpAnyH_done (by kernel_rfl) ?_ _
        exact ⟨rfl, w12, b12, rfl⟩
    · rintro e a3 W3 ⟨rfl, W1, hW1, rfl⟩
      have hs1 : ∀ k, k < X.heap.size → ¬ k = w.heap.size + 2 → ((W1.setCell ⟨w.heap.size + 2, a * 2, none⟩ (.int .i64 (hi (ps + d)))).setCell ⟨w.heap.size + 2, a * 2 + 1, none⟩ (.int .u64 (lo (ps + d)))).heap[k]? = X.heap[k]? := fun k hk hn =>
        (Below.heap_setCell _ _ _ k hn).trans ((Below.heap_setCell _ _ _ k hn).trans ((hW1.out.block k (Nat.lt_of_lt_of_le hk b1.out.size)).trans (b1.out.block k hk)))
      have hz1 : X.heap.size ≤ W1.heap.size := Nat.le_trans b1.out.size hW1.out.size
      have hx := HP.out.2.2.2.1
      have g1 := ((KK.out.2.2.1.below hW1.out KK.out.2.2.1.lt).set_ (a * 2) (.int .i64 (hi (ps + d)))).set_ (a * 2 + 1) (.int .u64 (lo (ps + d)))
      rw [wcs_set haM, show wcs (fun j => if j = a then ps + d else sms sh ax ds pre.length j) M = wcs (sms sh ax ds (pre.length + 1)) M from congrArg List.toArray (wcl_same (fun k _ => (HX2.out k).symm))] at g1
      have e1 : (pre ++ [(pre.length, x2)]).length = pre.length + 1 := by simp
      gi_wp2
      refine ⟨⟨by simpa using hz1, fun j o hj ho _ => (hs1 j (Array.getElem?_eq_some_iff.1 ho).1 (by omega)).trans ho⟩, ⟨hs1 B1 (by omega) (by omega), hs1 B2 (by omega) (by omega), fun g e => by have := OWN.out g e; exact hs1 g (by omega) (by omega)⟩, ?_⟩
      show Blk _ _ _ (wcs (sms sh ax ds (pre ++ [(pre.length, x2)]).length) M) ∧ _
      rw [e1]
      exact ⟨g1, ((KK.out.2.2.2.below hW1.out KK.out.2.2.2.lt).far (p := ⟨w.heap.size + 2, a * 2, none⟩) (by show ¬ w.heap.size + 3 = w.heap.size + 2; omega) _).far (p := ⟨w.heap.size + 2, a * 2 + 1, none⟩) (by show ¬ w.heap.size + 3 = w.heap.size + 2; omega) _, ((b7.out.trans (hW1.out.mono (by omega))).setCell (p := ⟨w.heap.size + 2, a * 2, none⟩) (Nat.le_refl _) _).setCell (p := ⟨w.heap.size + 2, a * 2 + 1, none⟩) (Nat.le_refl _) _, by simp; omega⟩
    -- END round
  case done =>
    rintro D ys X hD hys ⟨hL, hB, hBX, hXs⟩ hK
    have hys' : ys.length = N := hys
    rw [hys'] at hL
    have c0 := hB.cell 0
    have hfin : Below w.heap.size w (X.putObj D (.deferred none)) := (B7.out.trans (hBX.mono (by omega))).trans (belowK_b (w := w) (Nat.le_refl _) _ D _ (.deferred none) (by omega) hK rfl rfl)
    have g5 : Blk (X.putObj D (.deferred none)) (w.heap.size + 2) 121 (wcs (sms sh ax ds N) M) := hL.kept (grownBy_putObj' X D _) (by intro e; cases e; omega)
    have HF := Lib.hid (And.intro g5 (And.intro hfin hK))
    clear hL hB hfin g5 hBX hys hys'
    go_wp2
    refine ⟨by simp, .inl ⟨_, _, rfl, run_takeDeferred HF.out.2.2, ?_⟩⟩
    exact ⟨_, results_tmp rfl _ _ _, _, rfl, Lib.hid HF.out.1, HF.out.2.1⟩
  case stop =>
    rintro D cd pre X _ _ h _
    exact h.elim
end Go.Proofs.YtmafgdinegboeaaGreat
namespace Go.Proofs.YtmafgdinegboeaaGreat
open Go Go.RowKit Go.Shelf

/-- The slice of limbs of the k-th number. -/
def ssl (x : Bool × Option Addr × Nat × Nat) : Value := .slice x.2.1 x.2.2.1 x.2.2.2
def icl (f : Nat → Bool × Option Addr × Nat × Nat) : Nat → List Value
  | 0 => []
  | m + 1 => icl f m ++ [.bool (f m).1, ssl (f m)]
theorem icl_len (f : Nat → Bool × Option Addr × Nat × Nat) : ∀ m, (icl f m).length = m * 2
  | 0 => rfl
  | m + 1 => by simp [icl, icl_len f m]; omega
theorem icl_at (f : Nat → Bool × Option Addr × Nat × Nat) : ∀ m k : Nat, k < m → (icl f m)[k * 2]? = some (.bool (f k).1) ∧ (icl f m)[k * 2 + 1]? = some (ssl (f k))
  | 0, k, h => absurd h (Nat.not_lt_zero _)
  | m + 1, k, h => by
    have hl := icl_len f m
    by_cases e : k = m
    · subst e
      unfold icl
      rw [List.getElem?_append_right (by omega), List.getElem?_append_right (by omega), hl, Nat.sub_self, show k * 2 + 1 - k * 2 = 1 by omega]
      exact ⟨rfl, rfl⟩
    · have ih := icl_at f m k (by omega)
      unfold icl
      rw [List.getElem?_append_left (by omega), List.getElem?_append_left (by omega)]
      exact ih
theorem icl_same {f g : Nat → Bool × Option Addr × Nat × Nat} : ∀ {m : Nat}, (∀ k, k < m → f k = g k) → icl f m = icl g m
  | 0, _ => rfl
  | m + 1, h => by
    unfold icl
    rw [icl_same (fun k hk => h k (by omega)), h m (by omega)]
theorem icl_set (f : Nat → Bool × Option Addr × Nat × Nat) (v : Bool × Option Addr × Nat × Nat) : ∀ m k : Nat, k < m → ((icl f m).set (k * 2) (.bool v.1)).set (k * 2 + 1) (ssl v) = icl (fun j => if j = k then v else f j) m
  | 0, k, h => absurd h (Nat.not_lt_zero _)
  | m + 1, k, h => by
    have hl := icl_len f m
    by_cases e : k = m
    · subst e
      unfold icl
      rw [List.set_append_right _ _ (by omega), hl, Nat.sub_self, List.set_append_right _ _ (by omega), hl, show k * 2 + 1 - k * 2 = 1 by omega]
      rw [icl_same (f := f) (g := fun j => if j = k then v else f j) (fun j hj => by rw [if_neg (by omega)]), if_pos rfl]
      rfl
    · have ih := icl_set f v m k (by omega)
      unfold icl
      rw [List.set_append_left _ _ (by omega), List.set_append_left _ _ (by rw [List.length_set]; omega), ih, if_neg (show ¬ m = k by omega)]
def ics (f : Nat → Bool × Option Addr × Nat × Nat) (m : Nat) : Array Value := (icl f m).toArray
theorem ics_at {f : Nat → Bool × Option Addr × Nat × Nat} {m k : Nat} (h : k < m) : (ics f m)[k * 2]? = some (.bool (f k).1) ∧ (ics f m)[k * 2 + 1]? = some (ssl (f k)) := by
  have := icl_at f m k h
  unfold ics
  simpa using this
theorem ics_set {f : Nat → Bool × Option Addr × Nat × Nat} {m k : Nat} (h : k < m) (v : Bool × Option Addr × Nat × Nat) : ((ics f m).setIfInBounds (k * 2) (.bool v.1)).setIfInBounds (k * 2 + 1) (ssl v) = ics (fun j => if j = k then v else f j) m := by
  unfold ics
  rw [List.setIfInBounds_toArray, List.setIfInBounds_toArray, icl_set f v m k h]
def zin : Bool × Option Addr × Nat × Nat := (false, none, 0, 0)
theorem made_zin (m : Nat) : madeCells #[.bool false, .slice none 0 0] (m * 2) = ics (fun _ => zin) m := by
  apply Array.ext'
  unfold ics madeCells
  refine List.ext_getElem? (fun i => ?_)
  by_cases h : i < m * 2
  · obtain ⟨k, hk⟩ : ∃ k, k = i / 2 := ⟨_, rfl⟩
    have hm := icl_at (fun _ => zin) m k (by omega)
    rcases (show i = k * 2 ∨ i = k * 2 + 1 by omega) with e | e
    · have e2 : i % 2 = 0 := by omega
      subst e
      simp [hm.1, h, e2]; rfl
    · have e2 : i % 2 = 1 := by omega
      subst e
      simp [hm.2, h, e2]; rfl
  · rw [List.getElem?_eq_none (by simp; omega), List.getElem?_eq_none (by rw [icl_len]; omega)]
theorem infoJ : (Tryz.prog.info? 95).map (fun i => (i.zero, i.size, i.bytes)) = some (some (.agg #[.bool false, .slice none 0 0]), 2, 32) := by kernel_rfl
/-- A row of whole numbers. -/
def Irow (W : World) (g M : Nat) (F : Nat → Bool × Option Addr × Nat × Nat) (S : Nat → Int) : Prop := Blk W g 95 (ics F M) ∧ ∀ k, k < M → IsI W (Iv (F k).1 (ssl (F k))) (S k)
theorem isi_zero (W : World) : IsI W (Iv false (.slice none 0 0)) 0 := IsI.mk rfl ⟨[], .inl ⟨rfl, rfl⟩, fun x h => absurd h (by simp), rfl, rfl⟩
theorem irow_below {W W' : World} {g M : Nat} {F : Nat → Bool × Option Addr × Nat × Nat} {S : Nat → Int} (h : Irow W g M F S) (hb : Below W.heap.size W W') : Irow W' g M F S := ⟨h.1.below hb h.1.lt, fun k hk => (h.2 k hk).below hb⟩
end Go.Proofs.YtmafgdinegboeaaGreat
namespace Go.Proofs.YtmafgdinegboeaaGreat
open Go Go.RowKit Go.Shelf
attribute [local go_sem] Oper.semAt_some

/-- The first error of n. -/
def fer (er : Nat → Int) : Nat → Int
  | 0 => 0
  | n + 1 => if fer er n = 0 then er n else fer er n
theorem fer_no {er : Nat → Int} : ∀ {n : Nat}, (∀ k, k < n → er k = 0) → fer er n = 0
  | 0, _ => rfl
  | n + 1, h => by
    unfold fer
    rw [if_pos (fer_no fun k hk => h k (by omega)), h n (by omega)]
theorem fer_first {er : Nat → Int} {k : Nat} (h : ∀ j, j < k → er j = 0) (hk : er k ≠ 0) : ∀ n, k < n → fer er n = er k
  | 0, hn => absurd hn (Nat.not_lt_zero _)
  | n + 1, hn => by
    unfold fer
    by_cases e : k = n
    · subst e
      rw [if_pos (fer_no h)]
    · have := fer_first h hk n (by omega)
      rw [if_neg (by rw [this]; exact hk), this]
/-- What n elements tell. -/
def vls (va : Nat → Int) (n : Nat) : List Int := (List.range n).map va
theorem vls_len (va : Nat → Int) (n : Nat) : (vls va n).length = n := by simp [vls]
theorem vls_snoc (va : Nat → Int) {k n : Nat} (h : k < n) : (vls va n).take (k + 1) = (vls va n).take k ++ [va k] := by
  have hk : k < (vls va n).length := by rw [vls_len]; exact h
  rw [List.take_succ_eq_append_getElem hk]
  simp [vls]

end Go.Proofs.YtmafgdinegboeaaGreat
namespace Go.Proofs.YtmafgdinegboeaaGreat
open Go.RowKit

/-- The guess behind g. -/
def nx (n g : Int) : Int := (g + (if g = 0 then 0 else n / g)) / 2

/-- n over d, rounded up. -/
def cl (n d : Int) : Int := -dn (-n) d
end Go.Proofs.YtmafgdinegboeaaGreat
namespace Go.Proofs.YtmafgdinegboeaaGreat
open Go.RowKit

end Go.Proofs.YtmafgdinegboeaaGreat
namespace Go.Proofs.YtmafgdinegboeaaGreat
open Go.RowKit

theorem rd_whole (a : Int) {d : Int} (h : d ≠ 0) : rd (a * d) d = a := by
  have H := (half_math (a * d) d h).1
  generalize rd (a * d) d = q at *
  rw [← Int.sub_mul, Int.natAbs_mul] at H
  have H : 2 * ((a - q).natAbs * d.natAbs) ≤ 1 * d.natAbs := by omega
  rw [← Nat.mul_assoc] at H
  have := Nat.le_of_mul_le_mul_right H (show 0 < d.natAbs by omega)
  omega
end Go.Proofs.YtmafgdinegboeaaGreat
