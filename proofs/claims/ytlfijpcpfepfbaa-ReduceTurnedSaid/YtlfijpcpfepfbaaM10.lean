/-
  package reduce: sums by where words go.
  elem.each: the words of a shape's places in order, whatever is asked of each; the first one's error.
  Sizes (whole numbers of 128 bits without a sign): their halves behind a shift, their lengths.
  What the calls on sizes (whole numbers of 128 bits without a sign) do.
  Sizes: a bit set, a sign laid on, a whole number's size.
-/
import Derived.OwnWalkIn
import Derived.Deep.AppendLies
import Derived.Laws.BitsAllLaws
import Derived.Lib.BitFns
import Derived.Lib.ItoaNum
import Derived.Test.YtlfijpcpfepfbaaShelf
import Derived.Test.YtlfijpcpfepfbaaM04
import Derived.Test.YtlfijpcpfepfbaaM05
import Derived.Test.YtlfijpcpfepfbaaM06
import Derived.Test.YtlfijpcpfepfbaaM08
import Derived.Test.YtlfijpcpfepfbaaM09
namespace Go.Proofs.Ytlfijpcpfepfbaa
open Go Go.RowKit Go.Shelf
attribute [local go_sem] Oper.semAt_some

/-- The cells of a row of wide numbers. -/
def wcl (f : Nat → Int) : Nat → List Value
  | 0 => []
  | m + 1 => wcl f m ++ [.int .i64 (hi (f m)), .int .u64 (lo (f m))]
theorem wcl_len (f : Nat → Int) : ∀ m, (wcl f m).length = m * 2
  | 0 => rfl
  | m + 1 => by simp [wcl, wcl_len f m]; omega
theorem wcl_at (f : Nat → Int) : ∀ m k : Nat, k < m → (wcl f m)[k * 2]? = some (.int .i64 (hi (f k))) ∧ (wcl f m)[k * 2 + 1]? = some (.int .u64 (lo (f k)))
  | 0, k, h => absurd h (Nat.not_lt_zero _)
  | m + 1, k, h => by
    have hl := wcl_len f m
    by_cases e : k = m
    · subst e
      unfold wcl
      rw [List.getElem?_append_right (by omega), List.getElem?_append_right (by omega), hl, Nat.sub_self, show k * 2 + 1 - k * 2 = 1 by omega]
      exact ⟨rfl, rfl⟩
    · have ih := wcl_at f m k (by omega)
      unfold wcl
      rw [List.getElem?_append_left (by omega), List.getElem?_append_left (by omega)]
      exact ih
theorem wcl_same {f g : Nat → Int} : ∀ {m : Nat}, (∀ k, k < m → f k = g k) → wcl f m = wcl g m
  | 0, _ => rfl
  | m + 1, h => by
    unfold wcl
    rw [wcl_same (fun k hk => h k (by omega)), h m (by omega)]
theorem wcl_set (f : Nat → Int) (v : Int) : ∀ m k : Nat, k < m → ((wcl f m).set (k * 2) (.int .i64 (hi v))).set (k * 2 + 1) (.int .u64 (lo v)) = wcl (fun j => if j = k then v else f j) m
  | 0, k, h => absurd h (Nat.not_lt_zero _)
  | m + 1, k, h => by
    have hl := wcl_len f m
    by_cases e : k = m
    · subst e
      unfold wcl
      rw [List.set_append_right _ _ (by omega), hl, Nat.sub_self, List.set_append_right _ _ (by omega), hl, show k * 2 + 1 - k * 2 = 1 by omega]
      rw [wcl_same (f := f) (g := fun j => if j = k then v else f j) (fun j hj => by rw [if_neg (by omega)]), if_pos rfl]
      rfl
    · have ih := wcl_set f v m k (by omega)
      unfold wcl
      rw [List.set_append_left _ _ (by omega), List.set_append_left _ _ (by rw [List.length_set]; omega), ih, if_neg (show ¬ m = k by omega)]
def wcs (f : Nat → Int) (m : Nat) : Array Value := (wcl f m).toArray
theorem wcs_at {f : Nat → Int} {m k : Nat} (h : k < m) : (wcs f m)[k * 2]? = some (.int .i64 (hi (f k))) ∧ (wcs f m)[k * 2 + 1]? = some (.int .u64 (lo (f k))) := by
  have := wcl_at f m k h
  unfold wcs
  simpa using this
theorem wcs_set {f : Nat → Int} {m k : Nat} (h : k < m) (v : Int) : ((wcs f m).setIfInBounds (k * 2) (.int .i64 (hi v))).setIfInBounds (k * 2 + 1) (.int .u64 (lo v)) = wcs (fun j => if j = k then v else f j) m := by
  unfold wcs
  rw [List.setIfInBounds_toArray, List.setIfInBounds_toArray, wcl_set f v m k h]
theorem made_wides (m : Nat) : madeCells #[.int .i64 0, .int .u64 0] (m * 2) = wcs (fun _ => 0) m := by
  apply Array.ext'
  unfold wcs madeCells
  refine List.ext_getElem? (fun i => ?_)
  by_cases h : i < m * 2
  · obtain ⟨k, hk⟩ : ∃ k, k = i / 2 := ⟨_, rfl⟩
    have hm := wcl_at (fun _ => 0) m k (by omega)
    rcases (show i = k * 2 ∨ i = k * 2 + 1 by omega) with e | e
    · have e2 : i % 2 = 0 := by omega
      subst e
      simp [hm.1, h, e2]; rfl
    · have e2 : i % 2 = 1 := by omega
      subst e
      simp [hm.2, h, e2]; rfl
  · rw [List.getElem?_eq_none (by simp; omega), List.getElem?_eq_none (by rw [wcl_len]; omega)]
theorem infoV : (Try.prog.info? 96).map (fun i => (i.zero, i.size, i.bytes)) = some (some (.agg #[.int .i64 0, .int .u64 0]), 2, 16) := by kernel_rfl
/-- The sums when n words are counted. -/
def sms (sh ax ds : List Int) (n m : Nat) : Int := smN (into sh ax) (fun k => ds.getD k 0) (m : Int) n
theorem sms_next (sh ax ds : List Int) (n a : Nat) (h : into sh ax n = (a : Int)) (m : Nat) : sms sh ax ds (n + 1) m = if m = a then sms sh ax ds n a + ds.getD n 0 else sms sh ax ds n m := by
  unfold sms
  show smN _ _ _ n + (if into sh ax n = (m : Int) then _ else _) = _
  by_cases e : m = a
  · subst e; rw [if_pos h, if_pos rfl]
  · rw [if_neg (by omega), if_neg e, Int.add_zero]
theorem sms_R {sh ax ds : List Int} {n m : Nat} (hn : n ≤ 65536) (hd : ∀ k, k < n → wd (ds.getD k 0) = true) : R (sms sh ax ds n m) ∧ -9223372036854775808 ≤ sms sh ax ds n m ∧ sms sh ax ds n m ≤ 9223372036854775807 := by
  have h := smN_bd (key := into sh ax) (d := fun k => ds.getD k 0) (m := (m : Int)) (B := 140737488355327) (by decide) (n := n) (fun k hk => by have := wd_bd (hd k hk); exact ⟨by show _ ≤ ds.getD k 0; omega, by show ds.getD k 0 ≤ _; omega⟩)
  unfold sms
  rw [R_iff]
  omega
/-- A row of wide numbers in new memory. -/
def SomeZ (w : World) (f : Nat → Int) (m : Nat) (e : Ending) (w' : World) : Prop := ∃ g, e = .returned (.slice (some ⟨g, 0, none⟩) m m) ∧ Hid (Blk w' g 96 (wcs f m)) ∧ Below w.heap.size w w'

set_option maxRecDepth 100000 in
set_option maxHeartbeats 8000000 in
theorem summed_any (vs vd vo vt : Value) (sh ds ax : List Int) (N M : Nat) (w : World) (hs : Ld w vs sh) (hd : Ld w vd ds) (ho : Ld w vo (ons sh ax 0)) (ht : ∃ o m k, vt = .slice o m k) (hm : may sh = true) (hN : (N : Int) = prod sh) (hM : (M : Int) = prod (lf sh ax 0)) (hl : ds.length = N) (hw : wds ds = true) :
    Calls Try.prog 41 #[.agg #[vs, vd], .agg #[vs, vo, vt, .int .i64 M]] w (SomeZ w (sms sh ax ds N) M) := by
  obtain ⟨i0, hi0, hz0, hz1, hz2⟩ := info_parts infoV
  have l4 := may_len hm
  have hN6 : N ≤ 65536 := by have := may_prod hm; omega
  have hM6 : 1 ≤ M ∧ M ≤ 65536 := by
    have := lf_take_prod ax hm sh.length
    rw [List.take_length] at this
    omega
  have mk : ∀ W : World, (Instr.makeSlice 75 (.int .i64 (M : Int)) (.int .i64 (M : Int))).run Try.prog W = .ok (.slice (some ⟨W.heap.size, 0, none⟩) M M) (W.alloc (.cells (wcs (fun _ => 0) M) 96)) := fun W => by
    have := run_make (w := W) 75 96 i0 (.agg #[.int .i64 0, .int .u64 0]) Try.underlying75 hi0 hz0 .i64 .i64 M M (by omega) (by omega) (by rw [hz2]; omega) (by omega)
    rw [this, hz1]
    show _ = _
    rw [← made_wides]; simp [Value.cells]
  have C3 := Lib.hid (fun (W : World) (hW : Below w.heap.size w W) => all2_any vs sh W (hs.below hW) (by omega))
  rw [hm, if_pos rfl, ← hN] at C3
  have CU := Lib.hid (fun (n : Nat) (vi : Value) (W : World) (hn : n < N) (hW : Below w.heap.size w W) (hi : Ld W vi (atl sh (n : Nat))) => under9_any vs vo vt vi sh ax (M : Int) n W (hs.below hW) (ho.below hW) ht hi hm (by omega))
  obtain ⟨w4, hw4⟩ : ∃ w4, w4 = (((w.alloc (.cells #[vs, vd] 26)).alloc (.cells #[vs, vo, vt, .int .i64 M] 65)).alloc (.cells (wcs (fun _ => 0) M) 96)).alloc (.cells #[.slice (some ⟨w.heap.size + 2, 0, none⟩) M M] 75) := ⟨_, rfl⟩
  have hsz : w4.heap.size = w.heap.size + 4 := by rw [hw4]; simp
  have B4 : Below w.heap.size w w4 := by rw [hw4]; exact ((((Below.refl _ _).alloc (Nat.le_refl _) _).alloc (by simp) _).alloc (by simp; omega) _).alloc (by simp; omega) _
  have K0 : Hid (Blk w4 w.heap.size 26 #[vs, vd]) := by rw [hw4]; exact (((Blk.new w _ _).alloc _).alloc _).alloc _
  have K1 : Hid (Blk w4 (w.heap.size + 1) 65 #[vs, vo, vt, .int .i64 M]) := by rw [hw4]; exact ((blk_new1 w _ _ _).alloc _).alloc _
  have K2 : Hid (Blk w4 (w.heap.size + 2) 96 (wcs (fun _ => 0) M)) := by
    rw [hw4]
    have q := Blk.new ((w.alloc (.cells #[vs, vd] 26)).alloc (.cells #[vs, vo, vt, .int .i64 M] 65)) 96 (wcs (fun _ => 0) M)
    rw [World.size_alloc, World.size_alloc] at q
    exact q.alloc _
  have K3 : Hid (Blk w4 (w.heap.size + 3) 75 #[.slice (some ⟨w.heap.size + 2, 0, none⟩) M M]) := by
    rw [hw4]
    have q := Blk.new (((w.alloc (.cells #[vs, vd] 26)).alloc (.cells #[vs, vo, vt, .int .i64 M] 65)).alloc (.cells (wcs (fun _ => 0) M) 96)) 75 #[.slice (some ⟨w.heap.size + 2, 0, none⟩) M M]
    rwa [World.size_alloc, World.size_alloc, World.size_alloc] at q
  have HW := Lib.hid hw4
  have C4 := Lib.hid (C3.out w4 B4)
  rw [hw4] at C4
  have HV := Lib.hid (And.intro hm hN)
  have HD := Lib.hid hd
  have HDW := Lib.hid (fun k hk => wd_mk (wds_at hw (k := k) hk))
  have HIB := Lib.hid (fun (n : Nat) (hn : n < N) => (into_bd ax (may_pos hm) (n := n) (by omega)).2)
  obtain ⟨o1, n1, rfl, _, _⟩ := id hs
  obtain ⟨o2, n2, rfl, _, hdx⟩ := id hd
  have HDX := Lib.hid hdx
  clear hdx
  obtain ⟨o3, n3, rfl, _, _⟩ := id ho
  obtain ⟨o4, m4, n4, rfl⟩ := ht
  have HL := Lib.hid hl
  have HMM := Lib.hid hM
  clear hw4 hs hd ho hN hM hm C3 hw hl
  refine (callsIn_wide (n := 9)).1 ?_
  refine callsIn_of_wp_marks Try.func41 rfl trivial ?_
  simp only [Try.ntmps41, List.size_toArray, List.length_cons, List.length_nil, Nat.reduceAdd, Nat.reduceSub, Array.replicate_succ, Array.replicate_zero, List.push_toArray, List.append_toArray, List.nil_append, List.cons_append]
  refine wpIn_wide.2 ?_
  go_wp2_with (go_at_call 35; (with_reducible refine C4.out.mono ?_); rintro e w7 ⟨B1, B2, oA, cA, rfl, hbx, q1, q2, hb7⟩; rw [← HW.out] at hbx q1 q2 hb7)
  rw [hsz] at q1 q2 hb7
  have s7 : w.heap.size + 4 ≤ w7.heap.size := by have := hb7.size; omega
  have hbl : B1 < w7.heap.size := hbx.1.lt
  have hbl2 : B2 < w7.heap.size := hbx.2.1.lt
  have HBX := Lib.hid hbx
  have OWN : Hid (∀ g, oA = some ⟨g, 0, none⟩ → w.heap.size + 4 ≤ g ∧ g < w7.heap.size) := Lib.hid (fun g e => by
    have h := hbx.2.2.lt g (by rw [e]; rfl)
    have h2 := h.1
    exact ⟨by omega, h.2⟩)
  have I0 := Lib.hid (K0.out.below hb7 (by omega))
  have I1 := Lib.hid (K1.out.below hb7 (by omega))
  have I2 := Lib.hid (K2.out.below hb7 (by omega))
  have I3 := Lib.hid (K3.out.below hb7 (by omega))
  have B7 := Lib.hid (B4.trans (hb7.mono (by omega)))
  clear hbx hb7 mk
  refine (wpIn_wide (n := 9)).1 ?_
  refine wpIn_rangeFunc_told (F := Fence.wide) (n := 9) rfl (by decide) (gf := 60) (lb := #[.pointer (some ⟨B1, 0, none⟩), .pointer (some ⟨B2, 0, none⟩)]) rfl trivial (enters_of Try.func60 (by kernel_rfl) rfl)
    (all3_told 8 _ B1 B2 N (by decide) oA cA sh hN6 (fun _ => ⟨HV.out.1, HV.out.2.symm⟩) w7 HBX.out)
    Kp3.trans ?keepb (fun _ => rfl)
    (fun pre W => Blk W (w.heap.size + 2) 96 (wcs (sms sh ax ds pre.length) M) ∧ Blk W (w.heap.size + 3) 75 #[.slice (some ⟨w.heap.size + 2, 0, none⟩) M M] ∧ Below (w.heap.size + 2) w7 W ∧ w7.heap.size ≤ W.heap.size)
    (fun _ _ _ => False)
    ?ownI ?ownX ?ownT ⟨?i0, I3.out, Below.refl _ _, Nat.le_refl _⟩ ?a1 ?assign ?body ?done ?stop
  case keepb =>
    intro X k o o' hk ho hc _
    exact ⟨World.putObj_heap_other (by omega), World.putObj_heap_other (by omega), fun g e => World.putObj_heap_other (by have := (OWN.out g e).2; omega)⟩
  case ownI =>
    rintro pre X Y row ⟨h1, h2, h3, h4⟩ hg hr
    have hc : ∀ r, row = some r → ∃ o : Obj, X.heap[r]? = some o ∧ o.isCells = false := fun r e => (hr r e).2
    exact ⟨blk_own (β := Unit) _ _ (fun _ => _) () X Y row h1 hg hc, blk_own (β := Unit) _ _ (fun _ => _) () X Y row h2 hg hc, h3.grown hg (by omega) (fun k e => by have := (hr k e).1; omega), Nat.le_trans h4 hg.size⟩
  case ownX => exact fun _ _ _ _ _ hs _ _ => hs
  case ownT => exact fun pre x _ X Y row h hg hr => ⟨h.1, blk_own (β := Unit) _ _ (fun _ => _) () X Y row h.2 hg (fun r e => (hr r e).2)⟩
  case i0 => exact I2.out
  case assign =>
    intro l2 x X K hK
    unfold apr
    gi_wp2
    exact hK
  case body =>
    rintro l2 pre ⟨x1, x2⟩ X ⟨hL, hB, hBX, hXs⟩ hlt ⟨hx, hBI⟩
    obtain rfl : x1 = pre.length := hx
    -- BEGIN round
    have hI0 := I0.out.below hBX (by omega)
    have hI1 := I1.out.below hBX (by omega)
    obtain ⟨c0, c1, c2, c3⟩ := blk4 hI1
    obtain ⟨a, ha⟩ := Int.eq_ofNat_of_zero_le (HIB.out pre.length hlt).1
    have haM : a < M := by have := (HIB.out pre.length hlt).2; have := HMM.out; omega
    have BWX : Below w.heap.size w X := B7.out.trans (hBX.mono (by omega))
    have BWh := Lib.hid (fun (W : World) (hW : Below X.heap.size X W) => BWX.trans (hW.mono BWX.size))
    have HLd : Hid (Ld X (.slice (some ⟨x2, 0, none⟩) sh.length sh.length) (atl sh (pre.length : Nat))) := by
      have h := Ld.of_blk hBI (c := sh.length) (by rw [atl_len]; exact Nat.le_refl _)
      rw [atl_len] at h
      exact h
    have CUn := Lib.hid (CU.out pre.length _ X hlt BWX HLd.out)
    rw [ha] at CUn
    obtain ⟨bd, fd, rfl, hd1, hd2⟩ := HDX.out pre.length (by rw [HL.out]; exact hlt)
    have hd3 := HDW.out pre.length (by rw [HL.out]; exact hlt)
    have hsr := sms_R (sh := sh) (ax := ax) (ds := ds) (n := pre.length) (m := a) (by omega) (fun k hk => HDW.out k (by rw [HL.out]; omega))
    have hsr2 := sms_R (sh := sh) (ax := ax) (ds := ds) (n := pre.length + 1) (m := a) (by omega) (fun k hk => HDW.out k (by rw [HL.out]; omega))
    have hnx := sms_next sh ax ds pre.length a ha
    have hna := hnx a
    rw [if_pos rfl] at hna
    rw [hna] at hsr2
    have hlc := wcs_at (f := sms sh ax ds pre.length) haM
    have HP := Lib.hid (And.intro hL (And.intro hB (And.intro hBX (And.intro hXs hnx))))
    have HI := Lib.hid (And.intro hI0 hBI)
    have hld : pre.length < ds.length := by rw [HL.out]; exact hlt
    obtain ⟨ps, hps⟩ : ∃ ps, ps = sms sh ax ds pre.length a := ⟨_, rfl⟩
    rw [← hps] at hsr hsr2 hlc
    have HX2 : Hid (∀ m, sms sh ax ds (pre.length + 1) m = if m = a then ps + ds.getD pre.length 0 else sms sh ax ds pre.length m) := Lib.hid (fun m => by rw [hps]; exact hnx m)
    clear hL hB hI0 hI1 hBI ha hnx hna hps HLd
    gi_wp2_with (refine And.intro trivial ?_; (with_reducible refine CallsIn.mono (CallsIn.inRound _ (callsIn_wide.2 CUn.out)) ?_); rintro e X1 ⟨rfl, hb1⟩; have b1 := Lib.hid hb1; clear hb1)
    generalize hdd : ds.getD pre.length 0 = d at *
    have KF := Lib.hid (fun (W : World) => from_any d W (by have := wd_bd hd3; omega) (by have := wd_bd hd3; omega))
    have KA : Hid (∀ W : World, Calls Try.prog 65 #[Wv ps, Wv d] W fun e w' => e = .returned (.tuple #[Wv (ps + d), .int .i64 0]) ∧ Below W.heap.size W w') := Lib.hid (fun W => by
      have h := add_any ps d W hsr.1 (by rw [R_iff]; have := wd_bd hd3; omega)
      rwa [told_in hsr2.1, over_in hsr2.1] at h)
    have b7 := Lib.hid (HP.out.2.2.1.trans (b1.out.mono (by have := HP.out.2.2.2.1; omega)))
    have x7 := Nat.le_trans HP.out.2.2.2.1 b1.out.size
    have kL := HP.out.1.below b1.out HP.out.1.lt
    have kB := HP.out.2.1.below b1.out HP.out.2.1.lt
    have kI := HI.out.1.below b1.out HI.out.1.lt
    have kd : X1.cell? ⟨bd, fd + pre.length, none⟩ = some (.int .i64 d) := (((BWh.out X1 b1.out)).cell (p := ⟨bd, fd + pre.length, none⟩) hd1).trans hd2
    have CL : Hid (∀ W, Below X1.heap.size X1 W → W.cell? ⟨w.heap.size + 2, a * 2, none⟩ = some (.int .i64 (hi ps)) ∧ W.cell? ⟨w.heap.size + 2, a * 2 + 1, none⟩ = some (.int .u64 (lo ps))) := Lib.hid (fun W hW => by
      have h := kL.below hW kL.lt
      exact ⟨(h.cell _).trans hlc.1, (h.cell _).trans hlc.2⟩)
    have CF : Hid (∀ W, Below X1.heap.size X1 W → W.frozen? ⟨w.heap.size + 2, a * 2, none⟩ = false ∧ W.frozen? ⟨w.heap.size + 2, a * 2 + 1, none⟩ = false) := Lib.hid (fun W hW => by
      have h := kL.below hW kL.lt
      exact ⟨h.frozen _, h.frozen _⟩)
    have KS : Hid (∀ W, Below X1.heap.size X1 W → W.cell? ⟨w.heap.size + 3, 0, none⟩ = some (.slice (some ⟨w.heap.size + 2, 0, none⟩) M M) ∧ W.cell? ⟨w.heap.size, 1, none⟩ = some (.slice (some ⟨bd, fd, none⟩) ds.length n2) ∧ W.cell? ⟨bd, fd + pre.length, none⟩ = some (.int .i64 d)) := Lib.hid (fun W hW =>
      ⟨(kB.below hW kB.lt).cell 0, (kI.below hW kI.lt).cell 1, (hW.cell (p := ⟨bd, fd + pre.length, none⟩) (by show bd < _; omega)).trans kd⟩)
    have KS2 : Hid (∀ W u v, Below X1.heap.size X1 W → ((W.setCell ⟨w.heap.size + 2, a * 2, none⟩ u).setCell ⟨w.heap.size + 2, a * 2 + 1, none⟩ v).cell? ⟨w.heap.size + 3, 0, none⟩ = some (.slice (some ⟨w.heap.size + 2, 0, none⟩) M M) ∧ ((W.setCell ⟨w.heap.size + 2, a * 2, none⟩ u).setCell ⟨w.heap.size + 2, a * 2 + 1, none⟩ v).cell? ⟨w.heap.size, 1, none⟩ = some (.slice (some ⟨bd, fd, none⟩) ds.length n2) ∧ ((W.setCell ⟨w.heap.size + 2, a * 2, none⟩ u).setCell ⟨w.heap.size + 2, a * 2 + 1, none⟩ v).cell? ⟨bd, fd + pre.length, none⟩ = some (.int .i64 d)) := Lib.hid (fun W u v hW => by
      have e : ∀ (b i : Nat) (x : Value), ¬ b = w.heap.size + 2 → W.cell? ⟨b, i, none⟩ = some x → ((W.setCell ⟨w.heap.size + 2, a * 2, none⟩ u).setCell ⟨w.heap.size + 2, a * 2 + 1, none⟩ v).cell? ⟨b, i, none⟩ = some x := fun b i x hb hx => by
        rw [← hx]
        simp only [World.cell?]
        rw [Below.heap_setCell _ _ _ _ hb, Below.heap_setCell _ _ _ _ hb]
      obtain ⟨k1, k2, k3⟩ := KS.out W hW
      exact ⟨e _ _ _ (by omega) k1, e _ _ _ (by omega) k2, e _ _ _ (by omega) k3⟩)
    have B0 : Hid (Below X1.heap.size X1 X1.drew) := Lib.hid (below_drw (Below.refl _ _) 1)
    have i1 : (a : Int) < (M : Int) := by omega
    have i2 : (pre.length : Int) < (ds.length : Int) := by omega
    have KK := Lib.hid (And.intro hlt (And.intro hdd (And.intro kL kB)))
    clear kL kB kI kd hlc hsr hsr2 hd1 hd2 hd3 hlt hdd
    refine wpIn_mono (region_inA (S := fun W => W.cell? ⟨w.heap.size + 3, 0, none⟩ = some (.slice (some ⟨w.heap.size + 2, 0, none⟩) M M) ∧ W.cell? ⟨w.heap.size, 1, none⟩ = some (.slice (some ⟨bd, fd, none⟩) ds.length n2) ∧ W.cell? ⟨bd, fd + pre.length, none⟩ = some (.int .i64 d)) (R := fun _ W2 => ∃ W1, Hid (Below X1.heap.size X1 W1) ∧ W2 = (W1.setCell ⟨w.heap.size + 2, a * 2, none⟩ (.int .i64 (hi (ps + d)))).setCell ⟨w.heap.size + 2, a * 2 + 1, none⟩ (.int .u64 (lo (ps + d)))) (by kernel_rfl) (by kernel_rfl) ?_ (fun hHeld => ?_)) ?_
    · exact KS.out _ B0.out
    · simp only [List.size_toArray, List.length_cons, List.length_nil, Nat.reduceAdd, Array.replicate_succ, Array.replicate_zero, List.push_toArray, List.nil_append, List.cons_append]
      as_aux_lemma =>
      generalize X1.drew = wd at *
      (refine wpAnyH_take (i := 0) (oi := ⟨some 21, _, _, _, _, _⟩) (v := ?v0_s1) rfl (by kernel_rfl) (by kernel_rfl) (by kernel_rfl) (fun _ _ _ h => by cases h.1) (Or.inl ⟨by rfl, ?hy0_s1⟩) (by assumption) ?rest0_s1; (case hy0_s1 => ((intro w hSw); (try dsimp only at hSw); go_simp; first | done | (with_reducible rfl))))
      (try simp only [Act.put, List.setIfInBounds_toArray, List.set_cons_zero, List.set_cons_succ])
      (refine wpAnyH_take (i := 1) (oi := ⟨some 22, _, _, _, _, _⟩) (v := ?v1_s2) rfl (by kernel_rfl) (by kernel_rfl) (by kernel_rfl) (fun _ _ _ h => by cases h.1) (Or.inl ⟨by rfl, ?hy1_s2⟩) (by assumption) ?rest1_s2; (case hy1_s2 => ((intro w hSw); (try dsimp only at hSw); go_simp; first | done | (with_reducible rfl))))
      (try simp only [Act.put, List.setIfInBounds_toArray, List.set_cons_zero, List.set_cons_succ])
      (refine wpAnyH_take (i := 2) (oi := ⟨some 23, _, _, _, _, _⟩) (v := ?v2_s3) rfl (by kernel_rfl) (by kernel_rfl) (by kernel_rfl) (fun _ _ _ h => by cases h.1) (Or.inl ⟨by rfl, ?hy2_s3⟩) (by assumption) ?rest2_s3; (case hy2_s3 => ((intro w hSw); (try dsimp only at hSw); go_simp; first | done | (with_reducible rfl))))
      (try simp only [Act.put, List.setIfInBounds_toArray, List.set_cons_zero, List.set_cons_succ])
      (refine wpAnyH_take (i := 3) (oi := ⟨some 24, _, _, _, _, _⟩) (v := ?v3_s4) rfl (by kernel_rfl) (by kernel_rfl) (by kernel_rfl) (fun _ _ _ h => by cases h.1) (Or.inl ⟨by rfl, ?hy3_s4⟩) (by assumption) ?rest3_s4; (case hy3_s4 => ((intro w hSw); (try dsimp only at hSw); go_simp; first | done | (with_reducible rfl))))
      (try simp only [Act.put, List.setIfInBounds_toArray, List.set_cons_zero, List.set_cons_succ])
      (refine wpAnyH_take (i := 4) (oi := ⟨some 25, _, _, _, _, _⟩) (v := ?v4_s5) rfl (by kernel_rfl) (by kernel_rfl) (by kernel_rfl) (fun _ _ _ h => by cases h.1) (Or.inl ⟨by rfl, ?hy4_s5⟩) (by assumption) ?rest4_s5; (case hy4_s5 => ((intro w hSw); (try dsimp only at hSw); go_simp; first | done | (with_reducible rfl))))
      (try simp only [Act.put, List.setIfInBounds_toArray, List.set_cons_zero, List.set_cons_succ])
      (refine wpAnyH_take (i := 6) (oi := ⟨some 27, _, _, _, _, _⟩) (v := ?v6_s6) rfl (by kernel_rfl) (by kernel_rfl) (by kernel_rfl) (fun _ _ _ h => by cases h.1) (Or.inl ⟨by rfl, ?hy6_s6⟩) (by assumption) ?rest6_s6; (case hy6_s6 => ((intro w hSw); (try dsimp only at hSw); go_simp; first | done | (with_reducible rfl))))
      (try simp only [Act.put, List.setIfInBounds_toArray, List.set_cons_zero, List.set_cons_succ])
      (refine wpAnyH_take (i := 7) (oi := ⟨some 28, _, _, _, _, _⟩) (v := ?v7_s7) rfl (by kernel_rfl) (by kernel_rfl) (by kernel_rfl) (fun _ _ _ h => by cases h.1) (Or.inl ⟨by rfl, ?hy7_s7⟩) (by assumption) ?rest7_s7; (case hy7_s7 => ((intro w hSw); (try dsimp only at hSw); go_simp; first | done | (with_reducible rfl))))
      (try simp only [Act.put, List.setIfInBounds_toArray, List.set_cons_zero, List.set_cons_succ])
      (refine wpAnyH_take (i := 8) (oi := ⟨some 29, _, _, _, _, _⟩) (v := ?v8_s8) rfl (by kernel_rfl) (by kernel_rfl) (by kernel_rfl) (fun _ _ _ h => by cases h.1) (Or.inl ⟨by rfl, ?hy8_s8⟩) (by assumption) ?rest8_s8; (case hy8_s8 => ((intro w hSw); (try dsimp only at hSw); go_simp; first | done | (with_reducible rfl))))
      (try simp only [Act.put, List.setIfInBounds_toArray, List.set_cons_zero, List.set_cons_succ])
      (refine wpAnyH_take (i := 9) (oi := ⟨some 30, _, _, _, _, _⟩) (v := ?v9_s9) rfl (by kernel_rfl) (by kernel_rfl) (by kernel_rfl) (fun _ _ _ h => by cases h.1) (Or.inl ⟨by rfl, ?hy9_s9⟩) (by assumption) ?rest9_s9; (case hy9_s9 => ((intro w hSw); (try dsimp only at hSw); go_simp; first | done | (with_reducible rfl))))
      (try simp only [Act.put, List.setIfInBounds_toArray, List.set_cons_zero, List.set_cons_succ])
      (refine wpAnyH_take (i := 10) (oi := ⟨some 31, _, _, _, _, _⟩) (v := ?v10_s10) rfl (by kernel_rfl) (by kernel_rfl) (by kernel_rfl) (fun _ _ _ h => by cases h.1) (Or.inl ⟨by rfl, ?hy10_s10⟩) (by assumption) ?rest10_s10; (case hy10_s10 => ((intro w hSw); (try dsimp only at hSw); go_simp; first | done | (with_reducible rfl))))
      (try simp only [Act.put, List.setIfInBounds_toArray, List.set_cons_zero, List.set_cons_succ])
      refine wpAnyH_ready (rs := [5, 11]) (by kernel_rfl) (by simp) ?_
      refine AllReadyH.cons (o := ⟨some 26, _, _, _, _, _⟩) rfl (fun K hK => ?_) (AllReadyH.cons (o := ⟨some 32, _, _, _, _, _⟩) rfl (fun K hK => ?_) (AllReadyH.nil))
      · obtain ⟨l0, l1⟩ := CL.out _ B0.out
        go_simp
        refine hK.out _ _ ?_ (fun hHeld => ?_)
        · (try dsimp only)
          exact KS.out _ B0.out
        clear hK K
        (try simp only [List.setIfInBounds_toArray, List.set_cons_zero, List.set_cons_succ])
        refine wpAnyH_ready (rs := [11]) (by kernel_rfl) (by simp) ?_
        refine AllReadyH.cons (o := ⟨some 32, _, _, _, _, _⟩) rfl (fun K hK => ?_) (AllReadyH.nil)
        go_simp
        (go_at_call 64; (with_reducible refine (KF.out _).mono ?_); rintro e w11 ⟨rfl, hb⟩; have b11 := Lib.hid (B0.out.trans (hb.mono B0.out.size)); clear hb)
        refine hK.out _ _ ?_ (fun hHeld => ?_)
        · (try dsimp only)
          exact KS.out _ b11.out
        clear hK K
        (try simp only [List.setIfInBounds_toArray, List.set_cons_zero, List.set_cons_succ])
        refine wpAnyH_ready (rs := [12]) (by kernel_rfl) (by simp) ?_
        refine AllReadyH.cons (o := ⟨some 33, _, _, _, _, _⟩) rfl (fun K hK => ?_) (AllReadyH.nil)
        go_simp
        (go_at_call 65; (with_reducible refine (KA.out _).mono ?_); rintro e w12 ⟨rfl, hb⟩; have b12 := Lib.hid (b11.out.trans (hb.mono b11.out.size)); clear hb)
        refine hK.out _ _ ?_ (fun hHeld => ?_)
        · (try dsimp only)
          exact KS.out _ b12.out
        clear hK K
        (try simp only [List.setIfInBounds_toArray, List.set_cons_zero, List.set_cons_succ])
        (refine wpAnyH_take (i := 13) (oi := ⟨some 20, _, _, _, _, _⟩) (v := ?v13_s11) rfl (by kernel_rfl) (by kernel_rfl) (by kernel_rfl) (fun _ _ _ h => by cases h.1) (Or.inl ⟨by rfl, ?hy13_s11⟩) (by assumption) ?rest13_s11; (case hy13_s11 => ((intro w hSw); (try dsimp only at hSw); go_simp; first | done | (with_reducible rfl))))
        (try simp only [Act.put, List.setIfInBounds_toArray, List.set_cons_zero, List.set_cons_succ])
        (refine wpAnyH_take (i := 14) (oi := ⟨some 34, _, _, _, _, _⟩) (v := ?v14_s12) rfl (by kernel_rfl) (by kernel_rfl) (by kernel_rfl) (fun _ _ _ h => by cases h.1) (Or.inl ⟨by rfl, ?hy14_s12⟩) (by assumption) ?rest14_s12; (case hy14_s12 => ((intro w hSw); (try dsimp only at hSw); go_simp; first | done | (with_reducible rfl))))
        (try simp only [Act.put, List.setIfInBounds_toArray, List.set_cons_zero, List.set_cons_succ])
        (refine wpAnyH_take (i := 15) (oi := ⟨some 35, _, _, _, _, _⟩) (v := ?v15_s13) rfl (by kernel_rfl) (by kernel_rfl) (by kernel_rfl) (fun _ _ _ h => by cases h.1) (Or.inl ⟨by rfl, ?hy15_s13⟩) (by assumption) ?rest15_s13; (case hy15_s13 => ((intro w hSw); (try dsimp only at hSw); go_simp; first | done | (with_reducible rfl))))
        (try simp only [Act.put, List.setIfInBounds_toArray, List.set_cons_zero, List.set_cons_succ])
        (refine wpAnyH_take (i := 16) (oi := ⟨some 36, _, _, _, _, _⟩) (v := ?v16_s14) rfl (by kernel_rfl) (by kernel_rfl) (by kernel_rfl) (fun _ _ _ h => by cases h.1) (Or.inl ⟨by rfl, ?hy16_s14⟩) (by assumption) ?rest16_s14; (case hy16_s14 => ((intro w hSw); (try dsimp only at hSw); go_simp; first | done | (with_reducible rfl))))
        (try simp only [Act.put, List.setIfInBounds_toArray, List.set_cons_zero, List.set_cons_succ])
        refine wpAnyH_ready (rs := [17]) (by kernel_rfl) (by simp) ?_
        refine AllReadyH.cons (o := ⟨none, _, _, _, _, _⟩) rfl (fun K hK => ?_) (AllReadyH.nil)
        obtain ⟨l0, l1⟩ := CL.out _ b12.out
        obtain ⟨f0, f1⟩ := CF.out _ b12.out
        go_simp
        refine hK.out _ _ ?_ (fun hHeld => ?_)
        · (try dsimp only)
          exact KS2.out _ _ _ b12.out
        clear hK K
        (try simp only [List.setIfInBounds_toArray, List.set_cons_zero, List.set_cons_succ])
        refine wpAnyH_done (by kernel_rfl) ?_ _
        exact ⟨rfl, w12, b12, rfl⟩
      · go_simp
        (go_at_call 64; (with_reducible refine (KF.out _).mono ?_); rintro e w11 ⟨rfl, hb⟩; have b11 := Lib.hid (B0.out.trans (hb.mono B0.out.size)); clear hb)
        refine hK.out _ _ ?_ (fun hHeld => ?_)
        · (try dsimp only)
          exact KS.out _ b11.out
        clear hK K
        (try simp only [List.setIfInBounds_toArray, List.set_cons_zero, List.set_cons_succ])
        refine wpAnyH_ready (rs := [5]) (by kernel_rfl) (by simp) ?_
        refine AllReadyH.cons (o := ⟨some 26, _, _, _, _, _⟩) rfl (fun K hK => ?_) (AllReadyH.nil)
        obtain ⟨l0, l1⟩ := CL.out _ b11.out
        go_simp
        refine hK.out _ _ ?_ (fun hHeld => ?_)
        · (try dsimp only)
          exact KS.out _ b11.out
        clear hK K
        (try simp only [List.setIfInBounds_toArray, List.set_cons_zero, List.set_cons_succ])
        refine wpAnyH_ready (rs := [12]) (by kernel_rfl) (by simp) ?_
        refine AllReadyH.cons (o := ⟨some 33, _, _, _, _, _⟩) rfl (fun K hK => ?_) (AllReadyH.nil)
        go_simp
        (go_at_call 65; (with_reducible refine (KA.out _).mono ?_); rintro e w12 ⟨rfl, hb⟩; have b12 := Lib.hid (b11.out.trans (hb.mono b11.out.size)); clear hb)
        refine hK.out _ _ ?_ (fun hHeld => ?_)
        · (try dsimp only)
          exact KS.out _ b12.out
        clear hK K
        (try simp only [List.setIfInBounds_toArray, List.set_cons_zero, List.set_cons_succ])
        (refine wpAnyH_take (i := 13) (oi := ⟨some 20, _, _, _, _, _⟩) (v := ?v13_s15) rfl (by kernel_rfl) (by kernel_rfl) (by kernel_rfl) (fun _ _ _ h => by cases h.1) (Or.inl ⟨by rfl, ?hy13_s15⟩) (by assumption) ?rest13_s15; (case hy13_s15 => ((intro w hSw); (try dsimp only at hSw); go_simp; first | done | (with_reducible rfl))))
        (try simp only [Act.put, List.setIfInBounds_toArray, List.set_cons_zero, List.set_cons_succ])
        (refine wpAnyH_take (i := 14) (oi := ⟨some 34, _, _, _, _, _⟩) (v := ?v14_s16) rfl (by kernel_rfl) (by kernel_rfl) (by kernel_rfl) (fun _ _ _ h => by cases h.1) (Or.inl ⟨by rfl, ?hy14_s16⟩) (by assumption) ?rest14_s16; (case hy14_s16 => ((intro w hSw); (try dsimp only at hSw); go_simp; first | done | (with_reducible rfl))))
        (try simp only [Act.put, List.setIfInBounds_toArray, List.set_cons_zero, List.set_cons_succ])
        (refine wpAnyH_take (i := 15) (oi := ⟨some 35, _, _, _, _, _⟩) (v := ?v15_s17) rfl (by kernel_rfl) (by kernel_rfl) (by kernel_rfl) (fun _ _ _ h => by cases h.1) (Or.inl ⟨by rfl, ?hy15_s17⟩) (by assumption) ?rest15_s17; (case hy15_s17 => ((intro w hSw); (try dsimp only at hSw); go_simp; first | done | (with_reducible rfl))))
        (try simp only [Act.put, List.setIfInBounds_toArray, List.set_cons_zero, List.set_cons_succ])
        (refine wpAnyH_take (i := 16) (oi := ⟨some 36, _, _, _, _, _⟩) (v := ?v16_s18) rfl (by kernel_rfl) (by kernel_rfl) (by kernel_rfl) (fun _ _ _ h => by cases h.1) (Or.inl ⟨by rfl, ?hy16_s18⟩) (by assumption) ?rest16_s18; (case hy16_s18 => ((intro w hSw); (try dsimp only at hSw); go_simp; first | done | (with_reducible rfl))))
        (try simp only [Act.put, List.setIfInBounds_toArray, List.set_cons_zero, List.set_cons_succ])
        refine wpAnyH_ready (rs := [17]) (by kernel_rfl) (by simp) ?_
        refine AllReadyH.cons (o := ⟨none, _, _, _, _, _⟩) rfl (fun K hK => ?_) (AllReadyH.nil)
        obtain ⟨l0, l1⟩ := CL.out _ b12.out
        obtain ⟨f0, f1⟩ := CF.out _ b12.out
        go_simp
        refine hK.out _ _ ?_ (fun hHeld => ?_)
        · (try dsimp only)
          exact KS2.out _ _ _ b12.out
        clear hK K
        (try simp only [List.setIfInBounds_toArray, List.set_cons_zero, List.set_cons_succ])
        refine wpAnyH_done (by kernel_rfl) ?_ _
        exact ⟨rfl, w12, b12, rfl⟩
    · rintro e a3 W3 ⟨rfl, W1, hW1, rfl⟩
      have hs1 : ∀ k, k < X.heap.size → ¬ k = w.heap.size + 2 → ((W1.setCell ⟨w.heap.size + 2, a * 2, none⟩ (.int .i64 (hi (ps + d)))).setCell ⟨w.heap.size + 2, a * 2 + 1, none⟩ (.int .u64 (lo (ps + d)))).heap[k]? = X.heap[k]? := fun k hk hn =>
        (Below.heap_setCell _ _ _ k hn).trans ((Below.heap_setCell _ _ _ k hn).trans ((hW1.out.block k (Nat.lt_of_lt_of_le hk b1.out.size)).trans (b1.out.block k hk)))
      have hz1 : X.heap.size ≤ W1.heap.size := Nat.le_trans b1.out.size hW1.out.size
      have hx := HP.out.2.2.2.1
      have g1 := ((KK.out.2.2.1.below hW1.out KK.out.2.2.1.lt).set_ (a * 2) (.int .i64 (hi (ps + d)))).set_ (a * 2 + 1) (.int .u64 (lo (ps + d)))
      rw [wcs_set haM, show wcs (fun j => if j = a then ps + d else sms sh ax ds pre.length j) M = wcs (sms sh ax ds (pre.length + 1)) M from congrArg List.toArray (wcl_same (fun k _ => (HX2.out k).symm))] at g1
      have e1 : (pre ++ [(pre.length, x2)]).length = pre.length + 1 := by simp
      gi_wp2
      refine ⟨⟨by simpa using hz1, fun j o hj ho _ => (hs1 j (Array.getElem?_eq_some_iff.1 ho).1 (by omega)).trans ho⟩, ⟨hs1 B1 (by omega) (by omega), hs1 B2 (by omega) (by omega), fun g e => by have := OWN.out g e; exact hs1 g (by omega) (by omega)⟩, ?_⟩
      show Blk _ _ _ (wcs (sms sh ax ds (pre ++ [(pre.length, x2)]).length) M) ∧ _
      rw [e1]
      exact ⟨g1, ((KK.out.2.2.2.below hW1.out KK.out.2.2.2.lt).far (p := ⟨w.heap.size + 2, a * 2, none⟩) (by show ¬ w.heap.size + 3 = w.heap.size + 2; omega) _).far (p := ⟨w.heap.size + 2, a * 2 + 1, none⟩) (by show ¬ w.heap.size + 3 = w.heap.size + 2; omega) _, ((b7.out.trans (hW1.out.mono (by omega))).setCell (p := ⟨w.heap.size + 2, a * 2, none⟩) (Nat.le_refl _) _).setCell (p := ⟨w.heap.size + 2, a * 2 + 1, none⟩) (Nat.le_refl _) _, by simp; omega⟩
    -- END round
  case done =>
    rintro D ys X hD hys ⟨hL, hB, hBX, hXs⟩ hK
    have hys' : ys.length = N := hys
    rw [hys'] at hL
    have c0 := hB.cell 0
    have hfin : Below w.heap.size w (X.putObj D (.deferred none)) := (B7.out.trans (hBX.mono (by omega))).trans (belowK_b (w := w) (Nat.le_refl _) _ D _ (.deferred none) (by omega) hK rfl rfl)
    have g5 : Blk (X.putObj D (.deferred none)) (w.heap.size + 2) 96 (wcs (sms sh ax ds N) M) := hL.kept (grownBy_putObj' X D _) (by intro e; cases e; omega)
    have HF := Lib.hid (And.intro g5 (And.intro hfin hK))
    clear hL hB hfin g5 hBX hys hys'
    go_wp2
    refine ⟨by simp, .inl ⟨_, _, rfl, run_takeDeferred HF.out.2.2, ?_⟩⟩
    exact ⟨_, results_tmp rfl _ _ _, _, rfl, Lib.hid HF.out.1, HF.out.2.1⟩
  case stop =>
    rintro D cd pre X _ _ h _
    exact h.elim
end Go.Proofs.Ytlfijpcpfepfbaa
namespace Go.Proofs.Ytlfijpcpfepfbaa
open Go Go.RowKit Go.Shelf
attribute [local go_sem] Oper.semAt_some

/-- The first error of n. -/
def fer (er : Nat → Int) : Nat → Int
  | 0 => 0
  | n + 1 => if fer er n = 0 then er n else fer er n
theorem fer_no {er : Nat → Int} : ∀ {n : Nat}, (∀ k, k < n → er k = 0) → fer er n = 0
  | 0, _ => rfl
  | n + 1, h => by
    unfold fer
    rw [if_pos (fer_no fun k hk => h k (by omega)), h n (by omega)]
theorem fer_first {er : Nat → Int} {k : Nat} (h : ∀ j, j < k → er j = 0) (hk : er k ≠ 0) : ∀ n, k < n → fer er n = er k
  | 0, hn => absurd hn (Nat.not_lt_zero _)
  | n + 1, hn => by
    unfold fer
    by_cases e : k = n
    · subst e
      rw [if_pos (fer_no h)]
    · have := fer_first h hk n (by omega)
      rw [if_neg (by rw [this]; exact hk), this]
/-- What n elements tell. -/
def vls (va : Nat → Int) (n : Nat) : List Int := (List.range n).map va
theorem vls_len (va : Nat → Int) (n : Nat) : (vls va n).length = n := by simp [vls]
theorem vls_snoc (va : Nat → Int) {k n : Nat} (h : k < n) : (vls va n).take (k + 1) = (vls va n).take k ++ [va k] := by
  have hk : k < (vls va n).length := by rw [vls_len]; exact h
  rw [List.take_succ_eq_append_getElem hk]
  simp [vls]

theorem grown_predrew {A W : World} {r : Option Nat} (h : A.grownBy W r) : A.drew.grownBy W r := ⟨h.os, h.tape, h.output, h.size, h.block⟩
/-- A row that holds something has a block. -/
theorem own_slice1 {W : World} {base n : Nat} {e : TypeId} {v : Value} {xs : List Value} (h : W.ownsRow base e 1 v n xs) (hn : 0 < n) : ∃ g cp, v = .slice (some ⟨g, 0, none⟩) n cp := by
  rcases h.2 with ⟨_, h0⟩ | ⟨g, cap, cur, e1, _⟩
  · omega
  · exact ⟨g, cap, e1⟩

theorem each_end {X : World} {b c D base n : Nat} {e : TypeId} {v : Value} {xs : List Value} {cs ds : Array Value} {o : Obj} (hO : X.ownsRow base e 1 v n xs) (hb : Blk X b 26 cs) (hc : Blk X c 32 ds) (hbc : c ≠ b) (hD : X.heap[D]? = some o) (ho : o.isCells = false) (hne : e ≠ 26) (hne2 : e ≠ 32) (u1 u2 u3 : Value) (o' : Obj) :
    ((((X.setCell ⟨b, 0, none⟩ u1).setCell ⟨b, 1, none⟩ u2).setCell ⟨c, 0, none⟩ u3).putObj D o').ownsRow base e 1 v n xs := by
  have h1 := hO.kept (grown_set X ⟨b, 0, none⟩ u1) (.inr (tens_not_row hO hb hne))
  have hb1 := hb.set_ 0 u1
  have h2 := h1.kept (grown_set _ ⟨b, 1, none⟩ u2) (.inr (tens_not_row h1 hb1 hne))
  have hc2 : Blk ((X.setCell ⟨b, 0, none⟩ u1).setCell ⟨b, 1, none⟩ u2) c 32 ds := (hc.far (p := ⟨b, 0, none⟩) hbc u1).far (p := ⟨b, 1, none⟩) hbc u2
  have h3 := h2.kept (grown_set _ ⟨c, 0, none⟩ u3) (.inr (tens_not_row h2 hc2 hne2))
  have hDb : D ≠ b := by rintro rfl; rw [show X.heap[D]? = _ from hb] at hD; cases hD; cases ho
  have hDc : D ≠ c := by rintro rfl; rw [show X.heap[D]? = _ from hc] at hD; cases hD; cases ho
  exact own_kept h3 (grownBy_putObj' _ D o') (fun r er => by cases er; exact ⟨o, ((Below.heap_setCell _ _ _ _ hDc).trans ((Below.heap_setCell _ _ _ _ hDb).trans (Below.heap_setCell _ _ _ _ hDb))).trans hD, ho⟩)

end Go.Proofs.Ytlfijpcpfepfbaa
namespace Go.Proofs.Ytlfijpcpfepfbaa

/-- s is a size. -/
def U (s : Int) : Prop := 0 ≤ hi s ∧ hi s ≤ 18446744073709551615
instance (s : Int) : Decidable (U s) := inferInstanceAs (Decidable (_ ∧ _))
theorem U_iff (s : Int) : U s ↔ 0 ≤ s ∧ s ≤ 340282366920938463463374607431768211455 := by unfold U hi; omega
/-- A size, wrapped. -/
def ws (x : Int) : Int := x % 340282366920938463463374607431768211456
theorem U_ws (x : Int) : U (ws x) := by rw [U_iff]; unfold ws; omega
theorem ws_in {x : Int} (h : U x) : ws x = x := by rw [U_iff] at h; unfold ws; omega
theorem ws_hi (x : Int) : hi (ws x) = hi x % 18446744073709551616 := by unfold ws hi; omega
theorem ws_lo (x : Int) : lo (ws x) = lo x := by unfold ws lo; omega
theorem lo_mul (s p : Int) : lo (s * p) = lo s * p % 18446744073709551616 := by
  unfold lo; rw [Int.mul_emod s p, Int.mul_emod (s % 18446744073709551616) p, Int.emod_emod]
theorem hi_mul64 (x : Int) : hi (x * 18446744073709551616) = x := by unfold hi; omega
theorem lo_mul64 (x : Int) : lo (x * 18446744073709551616) = 0 := by unfold lo; omega

theorem pow_split {n : Nat} (h : 64 ≤ n) : (2 : Int) ^ n = 2 ^ (n - 64) * 18446744073709551616 := by
  obtain ⟨k, rfl⟩ := Nat.exists_eq_add_of_le h
  rw [Nat.add_sub_cancel_left, Int.pow_add, Int.mul_comm]; rfl
theorem left64_hi (s : Int) (n : Nat) (h : 64 ≤ n) : IntKind.u64.wrap (lo s * 2 ^ (n - 64)) = hi (ws (s * 2 ^ n)) := by
  rw [IntKind.wrap_u64, ws_hi, pow_split h, ← Int.mul_assoc, hi_mul64]
  exact (lo_mul s (2 ^ (n - 64))).symm
theorem left64_lo (s : Int) (n : Nat) (h : 64 ≤ n) : 0 = lo (ws (s * 2 ^ n)) := by
  rw [ws_lo, pow_split h, ← Int.mul_assoc, lo_mul64]
theorem left_lo (s : Int) (n : Nat) : IntKind.u64.wrap (lo s * 2 ^ n) = lo (ws (s * 2 ^ n)) := by
  rw [IntKind.wrap_u64, ws_lo, lo_mul]
theorem pow_both {n : Nat} (h : n ≤ 64) : (2 : Int) ^ n * 2 ^ (64 - n) = 18446744073709551616 := by
  rw [← Int.pow_add, Nat.add_sub_cancel' h]; rfl
theorem hi_mul (s p q : Int) (hp : 0 < p) (hpq : p * q = 18446744073709551616) : hi (s * p) = hi s * p + lo s / q := by
  have e : s * p = hi s * p * 18446744073709551616 + lo s * p := by
    conv => lhs; rw [hi_lo s]
    rw [Int.add_mul]; congr 1
    rw [Int.mul_assoc, Int.mul_comm 18446744073709551616 p, ← Int.mul_assoc]
  have f : lo s * p / 18446744073709551616 = lo s / q := by
    rw [← hpq, Int.mul_comm p q]; exact Int.mul_ediv_mul_of_pos_left _ _ hp
  rw [e, ← f]; unfold hi; omega
theorem left_hi (s : Int) (n : Nat) (h : n ≤ 63) (_hs : 0 ≤ hi s) : bits BinOp.or IntKind.u64 (IntKind.u64.wrap (hi s * 2 ^ n)) (lo s / 2 ^ (64 - n)) = hi (ws (s * 2 ^ n)) := by
  have hpq := pow_both (n := n) (by omega)
  have hp : (0 : Int) < 2 ^ n := Int.pow_pos (by decide)
  have hq : (0 : Int) < 2 ^ (64 - n) := Int.pow_pos (by decide)
  rw [ws_hi, hi_mul s _ _ hp hpq]
  have hl := lo_bd s
  -- the parts as natural numbers
  have eP : (2 : Int) ^ n = ((2 ^ n : Nat) : Int) := by simp
  have a0 := Int.emod_nonneg (hi s) (show (2 : Int) ^ (64 - n) ≠ 0 by omega)
  have a1 := Int.emod_lt_of_pos (hi s) hq
  have eA : hi s * 2 ^ n % 18446744073709551616 = 2 ^ n * (hi s % 2 ^ (64 - n)) := by
    rw [← hpq, Int.mul_comm (hi s)]; exact Int.mul_emod_mul_of_pos _ _ hp
  have b0 : 0 ≤ lo s / 2 ^ (64 - n) := Int.ediv_nonneg hl.1 (by omega)
  have b1 : lo s / 2 ^ (64 - n) < 2 ^ n := Int.ediv_lt_of_lt_mul hq (by omega)
  have m1 : 2 ^ n * (hi s % 2 ^ (64 - n)) + 2 ^ n ≤ 18446744073709551616 := by
    have : (2 : Int) ^ n * (hi s % 2 ^ (64 - n) + 1) ≤ 2 ^ n * 2 ^ (64 - n) := Int.mul_le_mul_of_nonneg_left (by omega) (by omega)
    rw [hpq, Int.mul_add, Int.mul_one] at this
    exact this
  have m0 : 0 ≤ 2 ^ n * (hi s % 2 ^ (64 - n)) := Int.mul_nonneg (by omega) a0
  rw [IntKind.wrap_u64, eA]
  generalize hA : hi s % 2 ^ (64 - n) = A at *
  generalize hB : lo s / 2 ^ (64 - n) = B at *
  obtain ⟨A, rfl⟩ := Int.eq_ofNat_of_zero_le a0
  obtain ⟨B, rfl⟩ := Int.eq_ofNat_of_zero_le b0
  have r : (hi s * 2 ^ n + (B : Int)) % 18446744073709551616 = 2 ^ n * (A : Int) + B := by
    generalize hi s * 2 ^ n = X at eA
    generalize (2 : Int) ^ n * (A : Int) = Y at *
    generalize (2 : Int) ^ n = P at *
    omega
  rw [r, eP, ← Int.natCast_mul, u64_or_nat _ _ (by rw [eP, ← Int.natCast_mul] at m1; omega) (by rw [eP] at b1 m1; rw [← Int.natCast_mul] at m1; omega)]
  rw [← Int.natCast_add]
  congr 1
  have bn : B < 2 ^ n := by rw [eP] at b1; omega
  exact (Nat.two_pow_add_eq_or_of_lt bn A).symm

/-- How many bits a size has. -/
def bl (s : Int) : Nat := Lib.bitLenAux 128 s.toNat
theorem bl_zero : bl 0 = 0 := rfl
theorem bl_bd {s : Int} (h : U s) (h0 : s ≠ 0) : 1 ≤ bl s ∧ (2 : Int) ^ (bl s - 1) ≤ s ∧ s < 2 ^ bl s := by
  rw [U_iff] at h
  obtain ⟨x, rfl⟩ := Int.eq_ofNat_of_zero_le h.1
  have := Lib.bitLenAux_bounds 128 x (by have : (2 : Nat) ^ 128 = 340282366920938463463374607431768211456 := by decide
                                         omega) (by omega)
  obtain ⟨a, b, c⟩ := this
  refine ⟨a, ?_, ?_⟩
  · have : ((2 ^ (Lib.bitLenAux 128 x - 1) : Nat) : Int) ≤ (x : Int) := by omega
    simpa [bl] using this
  · have : (x : Int) < ((2 ^ (Lib.bitLenAux 128 x) : Nat) : Int) := by omega
    simpa [bl] using this
theorem bitLenAux_up : ∀ (k f x : Nat), 2 ^ k ≤ x → Lib.bitLenAux (k + f) x = k + Lib.bitLenAux f (x / 2 ^ k)
  | 0, f, x, _ => by simp
  | k + 1, f, x, h => by
    have h2 : 2 ^ k ≤ x / 2 := by rw [Nat.pow_succ] at h; omega
    have hx : x ≠ 0 := by have := Nat.two_pow_pos (k + 1); omega
    have e : x / 2 / 2 ^ k = x / 2 ^ (k + 1) := by rw [Nat.div_div_eq_div_mul, Nat.pow_succ, Nat.mul_comm 2]
    rw [show k + 1 + f = (k + f) + 1 by omega]
    simp only [Lib.bitLenAux, if_neg hx]
    rw [bitLenAux_up k f (x / 2) h2, e]
    omega
theorem bl_low {s : Int} (h : hi s = 0) : Lib.bitLen (lo s).toNat = bl s := by
  have e : s = lo s := by have := hi_lo s; omega
  have b := lo_bd s
  unfold bl Lib.bitLen
  rw [← e]
  exact (Lib.bitLenAux_fuel 64 s.toNat (by have : (2 : Nat) ^ 64 = 18446744073709551616 := by decide
                                           omega) 128 (by omega)).symm
theorem bl_high {s : Int} (h : U s) (g : hi s ≠ 0) : 64 + Lib.bitLen (hi s).toNat = bl s := by
  obtain ⟨h0, h1⟩ := h
  have b := lo_bd s
  have hs := hi_lo s
  have e : (hi s).toNat = s.toNat / 2 ^ 64 := by
    have : (2 : Nat) ^ 64 = 18446744073709551616 := by decide
    omega
  unfold bl Lib.bitLen
  rw [e]
  exact (bitLenAux_up 64 64 s.toNat (by have : (2 : Nat) ^ 64 = 18446744073709551616 := by decide
                                        omega)).symm
theorem bl_le {s : Int} (h : U s) : bl s ≤ 128 := by
  by_cases h0 : s = 0
  · subst h0; decide
  · rw [U_iff] at h
    refine Lib.bitLenAux_le 128 s.toNat 128 ?_
    have : (2 : Nat) ^ 128 = 340282366920938463463374607431768211456 := by decide
    omega
theorem bitLen_64 (x : Int) (h0 : 0 ≤ x) (h1 : x ≤ 18446744073709551615) : Lib.bitLen x.toNat ≤ 64 :=
  Lib.bitLen_le _ 64 (Nat.le_refl _) (by have : (2 : Nat) ^ 64 = 18446744073709551616 := by decide
                                         omega)
end Go.Proofs.Ytlfijpcpfepfbaa
namespace Go.Proofs.Ytlfijpcpfepfbaa
open Go.RowKit

abbrev Sv (s : Int) : Value := .agg #[.int .u64 (hi s), .int .u64 (lo s)]
theorem sv0 : Sv 0 = .agg #[.int .u64 0, .int .u64 0] := rfl

/-- odd -/
theorem odd_any (s : Int) (w : World) : Calls Try.prog 88 #[Sv s] w fun e w' => e = .returned (.bool (s % 2 == 1)) ∧ Below w.heap.size w w' := by
  obtain ⟨a0, a1⟩ := lo_bd s
  have e1 := Lib.hid (show lo s % 2 = s % 2 by unfold lo; omega)
  go_enter Try.func88, Try.ntmps88
  go_wp2
  go_ret
  exact ⟨by rw [← e1.out]; rfl, (Below.refl _ _).alloc (Nat.le_refl _) _⟩

theorem next_lo (s : Int) : (lo s + 1) % 18446744073709551616 = lo (s + 1) := by unfold lo; omega
theorem next_hi {s : Int} (h : U (s + 1)) : IntKind.u64.wrap (hi s + (lo s + 1) / 18446744073709551616) = hi (s + 1) := by
  rw [U_iff] at h; rw [IntKind.wrap_u64]; unfold hi lo; omega
/-- next -/
theorem next_any (s : Int) (w : World) (h : U (s + 1)) : Calls Try.prog 89 #[Sv s] w fun e w' => e = .returned (Sv (s + 1)) ∧ Below w.heap.size w w' := by
  obtain ⟨a0, a1⟩ := lo_bd s
  have e1 := next_lo s
  have e2 := next_hi h
  generalize s + 1 = t at *
  clear h
  go_enter Try.func89, Try.ntmps89
  go_wp2_with (simp only [add64_0 (lo s) 1 a0 (by decide)])
  refine bodyPost_ret (v := Sv t) (by simp [results, Try.results89, go_sem]) rfl ⟨rfl, ?_⟩
  exact ((Below.refl _ _).alloc (Nat.le_refl _) _).alloc (by simp) _

theorem less_lo (s o : Int) : (lo s - lo o) % 18446744073709551616 = lo (ws (s - o)) := by rw [ws_lo]; unfold lo; omega
theorem less_hi (s o : Int) : (hi s - hi o - bor (lo s) (lo o)) % 18446744073709551616 = hi (ws (s - o)) := by
  rw [ws_hi]; unfold hi lo bor; split <;> omega
/-- less -/
theorem less_any (s o : Int) (w : World) (h : U s) (k : U o) : Calls Try.prog 105 #[Sv s, Sv o] w fun e w' => e = .returned (Sv (ws (s - o))) ∧ Below w.heap.size w w' := by
  obtain ⟨a0, a1⟩ := lo_bd s
  obtain ⟨b0, b1⟩ := lo_bd o
  have b2 : lo o < 18446744073709551616 := by omega
  obtain ⟨c0, c1⟩ := h
  obtain ⟨d0, d1⟩ := k
  have d2 : hi o < 18446744073709551616 := by omega
  obtain ⟨k0, k1⟩ := bor_bd (lo s) (lo o)
  have e1 := less_lo s o
  have e2 := less_hi s o
  generalize ws (s - o) = t at *
  go_enter Try.func105, Try.ntmps105
  go_wp2_with (first | simp only [sub64_0 (lo s) (lo o) a0 b0 b2] | simp only [sub64_b _ _ _ c0 d0 d2 k0 k1])
  refine bodyPost_ret (v := Sv t) (by simp [results, Try.results105, go_sem]) rfl ⟨rfl, ?_⟩
  exact (((Below.refl _ _).alloc (Nat.le_refl _) _).alloc (by simp) _).alloc (by simp; omega) _

/-- left -/
theorem left_any (s : Int) (n : Nat) (w : World) (h : U s) (h1 : n ≤ 127) : Calls Try.prog 86 #[Sv s, .int .i64 n] w fun e w' => e = .returned (Sv (ws (s * 2 ^ n))) ∧ Below w.heap.size w w' := by
  obtain ⟨a0, a1⟩ := lo_bd s
  by_cases g : 64 ≤ n
  · have e1 := left64_hi s n g
    have e2 := left64_lo s n g
    have e3 : (((n : Int) - 64).toNat) = n - 64 := by omega
    have H := Lib.hid (And.intro e1 (And.intro e2.symm e3))
    clear e1 e2 e3
    generalize ws (s * 2 ^ n) = t at *
    go_enter Try.func86, Try.ntmps86
    go_wp2
    refine bodyPost_ret (v := Sv t) (by simp [results, Try.results86, go_sem, H.out.1, H.out.2.1]) rfl ⟨rfl, ?_⟩
    exact ((Below.refl _ _).alloc (Nat.le_refl _) _).alloc (by simp) _
  · have g' : n < 64 := by omega
    have e1 := left_hi s n (by omega) h.1
    have e2 := left_lo s n
    have e3 : ((64 - (n : Int)).toNat) = 64 - n := by omega
    have H := Lib.hid (And.intro e1 (And.intro e2 e3))
    clear e1 e2 e3
    generalize ws (s * 2 ^ n) = t at *
    go_enter Try.func86, Try.ntmps86
    go_wp2
    go_region
    go_wp2
    refine bodyPost_ret (v := Sv t) (by simp [results, Try.results86, go_sem, H.out.1, H.out.2.1]) rfl ⟨rfl, ?_⟩
    exact (((Below.refl _ _).alloc (Nat.le_refl _) _).alloc (by simp) _).drew

/-- compare -/
theorem compare_any (a b : Int) (w : World) : Calls Try.prog 87 #[Sv a, Sv b] w fun e w' => e = .returned (.int .i64 (sg a b)) ∧ Below w.heap.size w w' := by
  by_cases h : hi a = hi b
  · have H := Lib.hid (sg_lo h)
    have g : (hi a != hi b) = false := by simp [h]
    have K := Lib.hid h
    clear h
    go_enter Try.func87, Try.ntmps87
    go_wp2_with (go_at_call 107; refine (compare_u64 _ _ _).mono ?_; rintro e w' ⟨rfl, rfl⟩)
    go_ret
    exact ⟨by rw [H.out]; rfl, ((Below.refl _ _).alloc (Nat.le_refl _) _).alloc (by simp) _⟩
  · have H := Lib.hid (sg_hi h)
    have g : (hi a != hi b) = true := by simp [h]
    clear h
    go_enter Try.func87, Try.ntmps87
    go_wp2_with (go_at_call 107; refine (compare_u64 _ _ _).mono ?_; rintro e w' ⟨rfl, rfl⟩)
    go_ret
    exact ⟨by rw [H.out]; rfl, ((Below.refl _ _).alloc (Nat.le_refl _) _).alloc (by simp) _⟩

/-- length -/
theorem length_any (s : Int) (w : World) (h : U s) : Calls Try.prog 99 #[Sv s] w fun e w' => e = .returned (.int .i64 (bl s)) ∧ w.alloc (.cells #[.int .u64 (hi s), .int .u64 (lo s)] 122) = w' := by
  obtain ⟨a0, a1⟩ := lo_bd s
  by_cases g : hi s = 0
  · have H := Lib.hid (bl_low g)
    have g' : (hi s != 0) = false := by simp [g]
    have K := Lib.hid g
    clear g h
    go_enter Try.func99, Try.ntmps99
    go_wp2_with (go_at_call 110; refine (Try.bits_Len64 (lo s) _ a0 a1).mono ?_; rintro e w' ⟨rfl, rfl⟩)
    go_ret
    exact ⟨by rw [← H.out]; rfl, rfl⟩
  · have H := Lib.hid (bl_high h g)
    have g' : (hi s != 0) = true := by simp [g]
    obtain ⟨c0, c1⟩ := h
    have l := bitLen_64 (hi s) c0 c1
    clear g
    go_enter Try.func99, Try.ntmps99
    go_wp2_with (go_at_call 110; refine (Try.bits_Len64 (hi s) _ c0 c1).mono ?_; rintro e w' ⟨rfl, rfl⟩)
    go_ret
    exact ⟨by rw [← H.out]; rfl, rfl⟩
end Go.Proofs.Ytlfijpcpfepfbaa
namespace Go.Proofs.Ytlfijpcpfepfbaa
open Go.RowKit

theorem or_add (P Q k : Int) (n : Nat) (hP : P = 2 ^ n) (hk : 0 ≤ k) (hq : Q = 2 * P * k) (hM : Q + P < 18446744073709551616) : bits BinOp.or IntKind.u64 Q P = Q + P := by
  obtain ⟨k, rfl⟩ := Int.eq_ofNat_of_zero_le hk
  have eP : P = ((2 ^ n : Nat) : Int) := by rw [hP]; simp
  have eQ : Q = ((2 ^ (n + 1) * k : Nat) : Int) := by
    rw [hq, eP, Nat.pow_succ, Int.natCast_mul, Int.natCast_mul]
    congr 1
    exact Int.mul_comm _ _
  have hM2 : ((2 ^ (n + 1) * k : Nat) : Int) + ((2 ^ n : Nat) : Int) < 18446744073709551616 := by rw [← eQ, ← eP]; exact hM
  rw [eP, eQ]
  clear eP eQ hM hP hq
  generalize hA : 2 ^ (n + 1) * k = A at *
  generalize hB : 2 ^ n = B at *
  rw [u64_or_nat A B (by omega) (by omega), ← Int.natCast_add]
  subst hA hB
  congr 1
  exact (Nat.two_pow_add_eq_or_of_lt (by rw [Nat.pow_succ]; have := Nat.two_pow_pos n; omega) k).symm
theorem or_zero (Q : Int) (h0 : 0 ≤ Q) (h1 : Q ≤ 18446744073709551615) : bits BinOp.or IntKind.u64 Q 0 = Q := by
  rw [u64_or _ _ h0 (by omega) (by decide) (by decide)]
  simp; omega

theorem bit_high (s : Int) (n : Nat) (h : U s) (g : 64 ≤ n) (h1 : n ≤ 127) (hd : s % 2 ^ (n + 1) = 0) :
    bits BinOp.or IntKind.u64 (hi s) (hi (ws (2 ^ n))) = hi (s + 2 ^ n) ∧ bits BinOp.or IntKind.u64 (lo s) (lo (ws (2 ^ n))) = lo (s + 2 ^ n) := by
  have e1 : (2 : Int) ^ n = 2 ^ (n - 64) * 18446744073709551616 := pow_split g
  have e2 : (2 : Int) ^ (n + 1) = 2 * 2 ^ (n - 64) * 18446744073709551616 := by rw [Int.pow_succ, e1]; omega
  have hp : (0 : Int) < 2 ^ (n - 64) := Int.pow_pos (by decide)
  have hp1 : (2 : Int) ^ (n - 64) ≤ 9223372036854775808 := by
    have : (2 : Int) ^ (n - 64) * 2 ^ (127 - n) = 9223372036854775808 := by rw [← Int.pow_add, show n - 64 + (127 - n) = 63 by omega]; rfl
    have q : (0 : Int) < 2 ^ (127 - n) := Int.pow_pos (by decide)
    calc (2 : Int) ^ (n - 64) = 2 ^ (n - 64) * 1 := by omega
      _ ≤ 2 ^ (n - 64) * 2 ^ (127 - n) := Int.mul_le_mul_of_nonneg_left (by omega) (by omega)
      _ = _ := this
  obtain ⟨k, hk⟩ := Int.dvd_of_emod_eq_zero hd
  rw [e2] at hk
  have hU := (U_iff s).1 h
  have eh : hi s = 2 * 2 ^ (n - 64) * k := by
    rw [hk, Int.mul_assoc _ 18446744073709551616 k, Int.mul_comm 18446744073709551616 k, ← Int.mul_assoc, hi_mul64]
  have el : lo s = 0 := by
    rw [hk, Int.mul_assoc _ 18446744073709551616 k, Int.mul_comm 18446744073709551616 k, ← Int.mul_assoc, lo_mul64]
  have k0 : 0 ≤ k := by
    rcases Int.lt_or_le k 0 with hneg | h0
    · have : 2 * 2 ^ (n - 64) * k < 0 := Int.mul_neg_of_pos_of_neg (by omega) hneg
      have := h.1
      omega
    · exact h0
  have w1 : hi (ws (2 ^ n)) = 2 ^ (n - 64) := by rw [ws_hi, e1, hi_mul64]; omega
  have w2 : lo (ws (2 ^ n)) = 0 := by rw [ws_lo, e1, lo_mul64]
  -- 2 P k + P stays below 2^64, as 2 P divides 2^64
  have hM : hi s + 2 ^ (n - 64) < 18446744073709551616 := by
    have hq : (2 : Int) * 2 ^ (n - 64) * 2 ^ (127 - n) = 18446744073709551616 := by
      have : (2 : Int) ^ (n - 64) * 2 ^ (127 - n) = 9223372036854775808 := by rw [← Int.pow_add, show n - 64 + (127 - n) = 63 by omega]; rfl
      rw [Int.mul_assoc, this]; rfl
    have hkq : k < 2 ^ (127 - n) := by
      rcases Int.lt_or_le k (2 ^ (127 - n)) with hl | hge
      · exact hl
      · have := Int.mul_le_mul_of_nonneg_left hge (show (0 : Int) ≤ 2 * 2 ^ (n - 64) by omega)
        rw [hq, ← eh] at this
        have := h.2
        omega
    have := Int.mul_le_mul_of_nonneg_left (show k + 1 ≤ 2 ^ (127 - n) by omega) (show (0 : Int) ≤ 2 * 2 ^ (n - 64) by omega)
    rw [hq, Int.mul_add, ← eh] at this
    omega
  rw [w1, w2, el]
  refine ⟨?_, ?_⟩
  · rw [or_add _ _ k (n - 64) rfl k0 eh hM, e1]; unfold hi; omega
  · rw [or_zero 0 (by decide) (by decide), e1]; unfold lo; unfold lo at el; omega

theorem bit_low (s : Int) (n : Nat) (g : n < 64) (hd : s % 2 ^ (n + 1) = 0) (h : U s) :
    bits BinOp.or IntKind.u64 (hi s) (hi (ws (2 ^ n))) = hi (s + 2 ^ n) ∧ bits BinOp.or IntKind.u64 (lo s) (lo (ws (2 ^ n))) = lo (s + 2 ^ n) := by
  have hp : (0 : Int) < 2 ^ n := Int.pow_pos (by decide)
  have hQ : (0 : Int) < 2 ^ (63 - n) := Int.pow_pos (by decide)
  have hpq : (2 : Int) * 2 ^ n * 2 ^ (63 - n) = 18446744073709551616 := by
    rw [Int.mul_assoc, ← Int.pow_add, show n + (63 - n) = 63 by omega]; rfl
  have hp1 : (2 : Int) ^ n ≤ 9223372036854775808 := by
    have := Int.mul_le_mul_of_nonneg_left (show (1 : Int) ≤ 2 ^ (63 - n) by omega) (show (0 : Int) ≤ 2 * 2 ^ n by omega)
    omega
  obtain ⟨k, hk⟩ := Int.dvd_of_emod_eq_zero hd
  have e2 : (2 : Int) ^ (n + 1) = 2 * 2 ^ n := by rw [Int.pow_succ]; omega
  rw [e2] at hk
  have el : lo s = 2 * 2 ^ n * (k % 2 ^ (63 - n)) := by
    unfold lo; rw [hk, ← hpq]; exact Int.mul_emod_mul_of_pos _ _ (by omega)
  have a0 := Int.emod_nonneg k (show (2 : Int) ^ (63 - n) ≠ 0 by omega)
  have a1 := Int.emod_lt_of_pos k hQ
  have hM : lo s + 2 ^ n < 18446744073709551616 := by
    have := Int.mul_le_mul_of_nonneg_left (show k % 2 ^ (63 - n) + 1 ≤ 2 ^ (63 - n) by omega) (show (0 : Int) ≤ 2 * 2 ^ n by omega)
    rw [hpq, Int.mul_add, ← el] at this
    omega
  have w1 : hi (ws (2 ^ n)) = 0 := by rw [ws_hi]; unfold hi; omega
  have w2 : lo (ws (2 ^ n)) = 2 ^ n := by rw [ws_lo]; unfold lo; omega
  rw [w1, w2]
  refine ⟨?_, ?_⟩
  · rw [or_zero _ h.1 h.2]; unfold hi; unfold lo at hM; omega
  · rw [or_add _ _ _ n rfl a0 el hM]; unfold lo; unfold lo at hM; omega

theorem bit_any (s : Int) (n : Nat) (h : U s) (h1 : n ≤ 127) (hd : s % 2 ^ (n + 1) = 0) :
    bits BinOp.or IntKind.u64 (hi s) (hi (ws (2 ^ n))) = hi (s + 2 ^ n) ∧ bits BinOp.or IntKind.u64 (lo s) (lo (ws (2 ^ n))) = lo (s + 2 ^ n) := by
  by_cases g : 64 ≤ n
  · exact bit_high s n h g h1 hd
  · exact bit_low s n (by omega) hd h

/-- A whole number's size. -/
def ab (a : Int) : Int := (a.natAbs : Int)
theorem U_ab {a : Int} (h : R a) : U (ab a) := by rw [R_iff] at h; rw [U_iff]; unfold ab; omega
theorem ab_of_neg {a : Int} (ha : R a) (h : ng a = true) : ws (-ws a) = ab a := by
  rw [R_iff] at ha; unfold ng at h; have := of_decide_eq_true h; unfold ws ab; omega
theorem ab_of_pos {a : Int} (ha : R a) (h : ng a = false) : ws a = ab a := by
  rw [R_iff] at ha; unfold ng at h; have := of_decide_eq_false h; unfold ws ab; omega
theorem u64_hi_ws (a : Int) : IntKind.u64.wrap (hi a) = hi (ws a) := by rw [ws_hi, IntKind.wrap_u64]
theorem lo_ws (a : Int) : lo a = lo (ws a) := (ws_lo a).symm

/-- A sign laid on a size. -/
def sd (neg : Bool) (s : Int) : Int := if neg then -s else s
theorem neg_high {s : Int} (h : (0 : Int) < sg s 170141183460469231731687303715884105728) : ¬ R (-s) := by
  rw [R_iff]; unfold sg at h; split at h
  · omega
  · split at h <;> omega
theorem neg_low {s : Int} (hU : U s) (h : ¬ (0 : Int) < sg s 170141183460469231731687303715884105728) : R (-s) ∧ wrap64 (hi (ws (-s))) = hi (-s) ∧ lo (ws (-s)) = lo (-s) := by
  rw [U_iff] at hU
  have hs : s ≤ 170141183460469231731687303715884105728 := by
    unfold sg at h; split at h
    · omega
    · split at h <;> omega
  refine ⟨by rw [R_iff]; omega, ?_, ?_⟩
  · rw [ws_hi]; unfold hi wrap64; omega
  · rw [ws_lo]
theorem pos_high {s : Int} (h : 9223372036854775808 ≤ hi s) : ¬ R s := by intro r; have := r.2; omega
theorem pos_low {s : Int} (hU : U s) (h : hi s < 9223372036854775808) : R s ∧ wrap64 (hi s) = hi s := by
  have := hU.1
  exact ⟨⟨by omega, by omega⟩, by unfold wrap64; omega⟩
end Go.Proofs.Ytlfijpcpfepfbaa
