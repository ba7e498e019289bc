/-
  view.Transpose.
-/
import Derived.Deep.RegionHeld3
import Derived.Deep.AppendLies
import Derived.Deep.DrawnRows
import Derived.Deep.DeepCutAuto
import Derived.Test.YtdefgmkkkeemoaaM03
namespace Go.Proofs.Ytdefgmkkkeemoaa
open Go.RowKit
attribute [local go_sem ↓] Go.wp_at_zero Go.wp_at_succ

theorem ints_take_len {l : List Int} {k : Nat} (h : k ≤ l.length) : (ints (l.take k)).length = k := by simp [ints]; omega
theorem ints_snoc (l : List Int) (x : Int) : ints (l ++ [x]) = ints l ++ [.int .i64 x] := by simp [ints]

theorem grown_set (W : World) (p : Addr) (z : Value) : W.grownBy (W.setCell p z) (some p.block) := ⟨rfl, rfl, rfl, by simp, fun j _ hne => Below.heap_setCell _ _ _ j (fun e => hne (by rw [e]))⟩
theorem own_set {W : World} {T base n i : Nat} {v z : Value} {xs : List Value} {cs : Array Value} (h : W.ownsRow base 3 1 v n xs) (hb : Blk W T 25 cs) : (W.setCell ⟨T, i, none⟩ z).ownsRow base 3 1 v n xs :=
  h.kept (grown_set W ⟨T, i, none⟩ z) (.inr (own_not_box h hb))
theorem not_row_of {W : World} {B k n : Nat} {e : TypeId} {v : Value} {xs : List Value} (h : W.ownsRow B e 1 v n xs) (hk : k < B) : some k ≠ v.ownBlock := fun e => by
  have := (h.lt k e.symm).1; omega
/-- One list of a view's two grows by a word. -/
theorem tr_step {W w9 w2 : World} {T k m g : Nat} {x : Int} {u v : Value} {xs ys : List Value} {cs : Array Value} (hb : Blk W T 25 cs) (hu : W.ownsRow T 3 1 u k xs) (hv : W.ownsRow T 3 1 v m ys) (hap : ∀ g, u.ownBlock = some g → ¬ v.ownBlock = some g)
    (hB : Below T w2 W) (hgrow : (W.alloc (.cells #[.int .i64 x] 3)).drew.grownBy w9 u.ownBlock) (hat : u.ownBlock = some g ∨ g = W.heap.size + 1) :
    Blk w9 T 25 cs ∧ Below T w2 w9 ∧ w9.ownsRow T 3 1 v m ys ∧ ¬ v.ownBlock = some g := by
  have hT := hb.lt
  refine ⟨((hb.alloc _).drew).kept hgrow (fun e => own_not_box hu hb e.symm), ?_, ?_, ?_⟩
  · have h1 := below_drw (hB.alloc (Nat.le_of_lt hT) (.cells #[.int .i64 x] 3)) 1
    exact h1.grown hgrow (by simp; omega) (fun j e => (hu.lt j e).1)
  · refine ((hv.alloc (.cells #[.int .i64 x] 3)).drew).kept hgrow ?_
    cases e : v.ownBlock with
    | none => exact .inl rfl
    | some j => exact .inr (fun e2 => hap j e2.symm e)
  · intro e
    rcases hat with h | h
    · exact hap g h e
    · have := (hv.lt g e).2; omega

set_option maxRecDepth 100000 in
set_option maxHeartbeats 4000000 in
theorem transpose_any (vs vt va : Value) (sh st ax : List Int) (off : Int) (w : World) (hs : Ld w vs sh) (ht : Ld w vt st) (ha : Ld w va ax) (l1 : sh.length ≤ 1073741824) (l2 : st.length ≤ 17592186044416) (l3 : ax.length ≤ 17592186044416) :
    Calls Try.prog 19 #[.agg #[vs, vt, .int .i64 off], va] w (SomeV w (tre sh st off ax) (unl (tre sh st off ax) (trl sh ax)) (unl (tre sh st off ax) (trl st ax)) (unn (tre sh st off ax) off)) := by
  obtain ⟨i0, hi0, hz0, hz1, hz2⟩ := info_parts infoI
  have hB0 : Below w.heap.size w ((w.alloc (.cells #[vs, vt, .int .i64 off] 25)).alloc (.cells #[.slice none 0 0, .slice none 0 0, .int .i64 0] 25)) := ((Below.refl _ _).alloc (Nat.le_refl _) _).alloc (by simp) _
  have hX0 : Blk ((w.alloc (.cells #[vs, vt, .int .i64 off] 25)).alloc (.cells #[.slice none 0 0, .slice none 0 0, .int .i64 0] 25)) w.heap.size 25 #[vs, vt, .int .i64 off] := (Blk.new w _ _).alloc _
  have hX1 : Blk ((w.alloc (.cells #[vs, vt, .int .i64 off] 25)).alloc (.cells #[.slice none 0 0, .slice none 0 0, .int .i64 0] 25)) (w.heap.size + 1) 25 #[.slice none 0 0, .slice none 0 0, .int .i64 0] := by
    have := Blk.new (w.alloc (.cells #[vs, vt, .int .i64 off] 25)) 25 #[.slice none 0 0, .slice none 0 0, .int .i64 0]
    rwa [World.size_alloc] at this
  have CK := vcheck_any vs vt sh st off 65536 _ (hs.below hB0) (ht.below hB0) (by omega) l2
  simp only [World.size_alloc] at CK
  replace CK := Lib.hid CK
  have CA := Lib.hid (fun (W : World) (hb : Below w.heap.size w W) => areall_any va ax sh.length W (ha.below hb) l3 l1)
  obtain ⟨os, cs, rfl, _, hxs⟩ := hs
  obtain ⟨ot, ct, rfl, _, hxt⟩ := ht
  obtain ⟨oa, ca, rfl, _, hxa⟩ := ha
  have HS := Lib.hid hxs
  have HT := Lib.hid hxt
  have HA := Lib.hid hxa
  clear hxs hxt hxa
  have HX0 := Lib.hid hX0
  have HX1 := Lib.hid hX1
  have HB0 := Lib.hid hB0
  clear hX0 hX1 hB0
  cases hv : vwb sh st off 65536 with
  | false =>
    have R : Hid (tre sh st off ax = 1) := by unfold tre; rw [hv]; exact Lib.hid rfl
    rw [hv, frm_f] at CK
    clear hv
    go_enter Try.func19, Try.ntmps19
    go_wp2_with (go_at_call 28; (with_reducible refine CK.out.mono ?_); rintro e w2 ⟨rfl, hb2⟩; have Y1 := Lib.hid (HX1.out.below hb2 (by omega)); obtain ⟨d0, d1, d2, f0, f1, f2⟩ := blk3 Y1.out; have B2 := Lib.hid (HB0.out.trans (hb2.mono (by omega))); clear hb2)
    refine bodyPost_ret (v := .tuple #[.agg #[.slice none 0 0, .slice none 0 0, .int .i64 0], .int .i64 1]) (by simp [results, Try.results19, go_sem, d0, d1, d2]) rfl ?_
    rw [R.out]
    exact someV_end (sh := []) (st := []) (Nat.le_succ _) B2.out Y1.out rfl rfl (ov_nil _ _)
  | true =>
    rw [hv, frm_t] at CK
    cases hax : axs ax sh.length with
    | false =>
      have R : Hid (tre sh st off ax = 2) := by unfold tre; rw [hv, hax]; exact Lib.hid rfl
      rw [hax] at CA
      clear hv hax
      go_enter Try.func19, Try.ntmps19
      go_wp2_with (first | (go_at_call 28; (with_reducible refine CK.out.mono ?_); rintro e w2 ⟨rfl, hb2⟩; have Y1 := Lib.hid (HX1.out.below hb2 (by omega)); obtain ⟨d0, d1, d2, f0, f1, f2⟩ := blk3 Y1.out; obtain ⟨c0, c1, c2⟩ := (blk3 (HX0.out.below hb2 (by omega))); have B2 := Lib.hid (HB0.out.trans (hb2.mono (by omega))); clear hb2) | (go_at_call 49; (with_reducible refine (CA.out _ B2.out).mono ?_); rintro e w' ⟨rfl, rfl⟩))
      refine bodyPost_ret (v := .tuple #[.agg #[.slice none 0 0, .slice none 0 0, .int .i64 0], .int .i64 2]) (by simp [results, Try.results19, go_sem, d0, d1, d2]) rfl ?_
      rw [R.out]
      exact someV_end (sh := []) (st := []) (Nat.le_succ _) B2.out Y1.out rfl rfl (ov_nil _ _)
    | true =>
      have R : Hid (tre sh st off ax = 0) := by unfold tre; rw [hv, hax]; exact Lib.hid rfl
      have hVw := vwb_iff.1 hv
      have lsx := Lib.hid (axs_len hax)
      have HV := Lib.hid (And.intro hVw hax)
      have l4 := may_len hVw.1
      rw [hax] at CA
      clear hv hax hVw
      go_enter Try.func19, Try.ntmps19
      go_wp2_with (first | (go_at_call 28; (with_reducible refine CK.out.mono ?_); rintro e w2 ⟨rfl, hb2⟩; have Y1 := Lib.hid (HX1.out.below hb2 (by omega)); have Y0 := Lib.hid (HX0.out.below hb2 (by omega)); obtain ⟨c0, c1, c2, _⟩ := (blk3 Y0.out); have B2 := Lib.hid (HB0.out.trans (hb2.mono (by omega))); clear hb2) | (go_at_call 49; (with_reducible refine (CA.out _ B2.out).mono ?_); rintro e w' ⟨rfl, rfl⟩))
      have y0 := Y0.out.lt
      have y1 := Y1.out.lt
      have l5 : ax.length ≤ 4 := by have := lsx.out; omega
      have b2s := B2.out.size
      go_loopw [28] (fun s28 wr => ∃ (k : Nat) (us ut : Value), k ≤ ax.length ∧ s28 = .int .i64 k ∧ Blk wr w2.heap.size 25 #[us, ut, .int .i64 off] ∧ Hid (wr.ownsRow w2.heap.size 3 1 us k (ints ((trl sh ax).take k)) ∧ wr.ownsRow w2.heap.size 3 1 ut k (ints ((trl st ax).take k)) ∧ (∀ g, us.ownBlock = some g → ¬ ut.ownBlock = some g)) ∧ Hid (Below w2.heap.size w2 wr)) (fun s28 _ => ax.length - (intOf s28).toNat)
      case atStart =>
        exact ⟨0, .slice none 0 0, .slice none 0 0, Nat.zero_le _, rfl, Blk.new _ _ _, ⟨World.ownsRow_nil _ _ _ _, World.ownsRow_nil _ _ _ _, fun g h => by simp [Value.ownBlock] at h⟩, (Below.refl _ _).alloc (Nat.le_refl _) _⟩
      case round =>
        obtain ⟨k, us, ut, hk, rfl, hb, HO, HB⟩ := hrel
        by_cases hlt : k < ax.length
        · obtain ⟨a, ea, alt⟩ := axs_at HV.out.2 hlt
          obtain ⟨ba, fa, rfl, na, xa⟩ := HA.out k hlt
          obtain ⟨bs, fs, rfl, ns, xs⟩ := HS.out a alt
          obtain ⟨bt, ft, rfl, nt, xt⟩ := HT.out a (by have := HV.out.1.2.1; omega)
          have old2 : ∀ (p : Addr) (v : Value), p.block < w.heap.size → w.cell? p = some v → ∀ W, Below w2.heap.size w2 W → W.cell? p = some v := fun p v h1 h2 W hW => ((hW.cell (p := p) (by omega)).trans (B2.out.cell (p := p) h1)).trans h2
          have xa' := old2 _ _ na xa wr HB.out
          rw [ea] at xa'
          have OLD := Lib.hid (fun (W : World) (hW : Below w2.heap.size w2 W) => And.intro (old2 _ _ ns xs W hW) (And.intro (old2 _ _ nt xt W hW) (blk3 (Y0.out.below hW (by omega)))))
          have EA : Hid ((trl sh ax).take (k + 1) = (trl sh ax).take k ++ [sh.getD a 0] ∧ (trl st ax).take (k + 1) = (trl st ax).take k ++ [st.getD a 0]) := ⟨trl_snoc hlt ea, trl_snoc hlt ea⟩
          have ZB := Lib.hid hb
          obtain ⟨xs', xt', c0, c1, c2, _⟩ := OLD.out wr HB.out
          obtain ⟨t0, t1, t2, g0, g1, g2⟩ := blk3 hb
          have yw := hb.lt
          have AL : Hid (a < sh.length ∧ a < st.length) := ⟨alt, by have := HV.out.1.2.1; omega⟩
          have al1 := AL.out.1
          have al2 := AL.out.2
          clear xa xs xt hb ea old2
          generalize sh.getD a 0 = d at *
          generalize st.getD a 0 = s at *
          go_wp2
          go_cut [9] (fun s9 wx => s9 = .int .i64 a ∧ ∃ u1, Blk wx w2.heap.size 25 #[u1, ut, .int .i64 off] ∧ Hid (wx.ownsRow w2.heap.size 3 1 u1 (k + 1) (ints ((trl sh ax).take (k + 1))) ∧ wx.ownsRow w2.heap.size 3 1 ut k (ints ((trl st ax).take k)) ∧ (∀ g, u1.ownBlock = some g → ¬ ut.ownBlock = some g)) ∧ Hid (Below w2.heap.size w2 wx))
          case first =>
            refine wp_region_held_drew (S := (fun W => W.cell? ⟨w.heap.size, 0, none⟩ = some (.slice (some ⟨bs, fs, none⟩) sh.length cs) ∧ W.cell? ⟨bs, fs + a, none⟩ = some (.int .i64 d))) (by kernel_rfl) ?_ (fun hHeld => ?_)
            · (try dsimp only)
              first | assumption | go_keep | exact ⟨(e9.out _).2.2.1, (e9.out _).1⟩
            have hHd := hHeld
            (refine wpAnyH_take (i := 0) (oi := ⟨some 32, _, _, _, _, _⟩) (v := ?v0_32) rfl (by kernel_rfl) (by kernel_rfl) (by kernel_rfl) (fun _ _ _ h => h) (Or.inl ⟨by rfl, ?hy0_32⟩) (by assumption) ?rest0_32; (case hy0_32 => ((intro w hSw); (try dsimp only at hSw); go_simp; first | done | (with_reducible rfl))))
            (try simp only [Act.put, List.setIfInBounds_toArray, List.set_cons_zero, List.set_cons_succ])
            (refine wpAnyH_take (i := 2) (oi := ⟨some 34, _, _, _, _, _⟩) (v := ?v2_32) rfl (by kernel_rfl) (by kernel_rfl) (by kernel_rfl) (fun _ _ _ h => h) (Or.inl ⟨by rfl, ?hy2_32⟩) (by assumption) ?rest2_32; (case hy2_32 => ((intro w hSw); (try dsimp only at hSw); go_simp; first | done | (with_reducible rfl))))
            (try simp only [Act.put, List.setIfInBounds_toArray, List.set_cons_zero, List.set_cons_succ])
            (refine wpAnyH_take (i := 3) (oi := ⟨some 35, _, _, _, _, _⟩) (v := ?v3_32) rfl (by kernel_rfl) (by kernel_rfl) (by kernel_rfl) (fun _ _ _ h => h) (Or.inl ⟨by rfl, ?hy3_32⟩) (by assumption) ?rest3_32; (case hy3_32 => ((intro w hSw); (try dsimp only at hSw); go_simp; first | done | (with_reducible rfl))))
            (try simp only [Act.put, List.setIfInBounds_toArray, List.set_cons_zero, List.set_cons_succ])
            (refine wpAnyH_take (i := 4) (oi := ⟨some 36, _, _, _, _, _⟩) (v := ?v4_32) rfl (by kernel_rfl) (by kernel_rfl) (by kernel_rfl) (fun _ _ _ h => h) (Or.inl ⟨by rfl, ?hy4_32⟩) (by assumption) ?rest4_32; (case hy4_32 => ((intro w hSw); (try dsimp only at hSw); go_simp; first | done | (with_reducible rfl))))
            (try simp only [Act.put, List.setIfInBounds_toArray, List.set_cons_zero, List.set_cons_succ])
            (refine wpAnyH_take (i := 5) (oi := ⟨some 37, _, _, _, _, _⟩) (v := ?v5_32) rfl (by kernel_rfl) (by kernel_rfl) (by kernel_rfl) (fun _ _ _ h => h) (Or.inl ⟨by rfl, ?hy5_32⟩) (by assumption) ?rest5_32; (case hy5_32 => ((intro w hSw); (try dsimp only at hSw); go_simp; first | done | (with_reducible rfl))))
            (try simp only [Act.put, List.setIfInBounds_toArray, List.set_cons_zero, List.set_cons_succ])
            (refine wpAnyH_take (i := 6) (oi := ⟨some 38, _, _, _, _, _⟩) (v := ?v6_32) rfl (by kernel_rfl) (by kernel_rfl) (by kernel_rfl) (fun _ _ _ h => h) (Or.inl ⟨by rfl, ?hy6_32⟩) (by assumption) ?rest6_32; (case hy6_32 => ((intro w hSw); (try dsimp only at hSw); go_simp; first | done | (with_reducible rfl))))
            (try simp only [Act.put, List.setIfInBounds_toArray, List.set_cons_zero, List.set_cons_succ])
            refine wpAnyH_ready (rs := [1, 7]) (by kernel_rfl) (by simp) ?_
            refine AllReadyH.cons (o := ⟨some 33, _, _, _, _, _⟩) rfl (fun K hK => ?_) (AllReadyH.cons (o := ⟨some 39, _, _, _, _, _⟩) rfl (fun K hK => ?_) AllReadyH.nil)
            · go_simp
              refine hK.out _ _ ?_ (fun hHeld => ?_)
              · (try dsimp only)
                first | assumption | go_keep | exact ⟨(e9.out _).2.2.1, (e9.out _).1⟩
              clear hK K
              (try simp only [Act.put, List.setIfInBounds_toArray, List.set_cons_zero, List.set_cons_succ])
              refine wpAnyH_ready (rs := [7]) (by kernel_rfl) (by simp) ?_
              refine AllReadyH.cons (o := ⟨some 39, _, _, _, _, _⟩) rfl (fun K hK => ?_) AllReadyH.nil
              go_simp
              refine hK.out _ _ ?_ (fun hHeld => ?_)
              · (try dsimp only)
                first | assumption | go_keep | exact ⟨(e9.out _).2.2.1, (e9.out _).1⟩
              clear hK K
              (try simp only [Act.put, List.setIfInBounds_toArray, List.set_cons_zero, List.set_cons_succ])
              refine wpAnyH_ready (rs := [8]) (by kernel_rfl) (by simp) ?_
              refine AllReadyH.cons (o := ⟨some 40, _, _, _, _, _⟩) rfl (fun K hK => ?_) AllReadyH.nil
              refine step_append_lies _ (by rfl) (.tmp 33) (.tmp 39) 23 (by rfl) w2.heap.size 3 i0 (.int .i64 0) 1 8 Try.underlying23 hi0 hz0 hz1 hz2 rfl (by decide) us k (ints ((trl sh ax).take k)) (by rfl) (HO.out.1.alloc _) ⟨wr.heap.size, 0, none⟩ 1 1 [.int .i64 d] (by rfl) rfl (cell_one_new _ _ _) (by simp [Value.oneCell']) (by decide) (by unfold maxLen; omega) (by omega) (by simp; omega) (wr.heap.size + 1) (by simp) ?_
              intro g9 cp9 w9 hown hgrow hat _
              have Q9 := Lib.hid (And.intro hown (tr_step ZB.out HO.out.1 HO.out.2.1 HO.out.2.2 HB.out hgrow hat))
              obtain ⟨p0, _, _, h0, _⟩ := blk3 Q9.out.2.1
              obtain ⟨q1, _, q0, _⟩ := OLD.out w9 Q9.out.2.2.1
              have e9 := Lib.hid (fun (z : Value) => OLD.out _ (Q9.out.2.2.1.setCell (p := ⟨w2.heap.size, 0, none⟩) (Nat.le_refl _) z))
              clear hown hgrow hat
              refine hK.out _ _ ?_ (fun hHeld => ?_)
              · (try dsimp only)
                first | assumption | go_keep | exact ⟨(e9.out _).2.2.1, (e9.out _).1⟩
              clear hK K
              (try simp only [Act.put, List.setIfInBounds_toArray, List.set_cons_zero, List.set_cons_succ])
              refine wpAnyH_ready (rs := [9]) (by kernel_rfl) (by simp) ?_
              refine AllReadyH.cons (o := ⟨some 41, _, _, _, _, _⟩) rfl (fun K hK => ?_) AllReadyH.nil
              go_simp
              refine hK.out _ _ ?_ (fun hHeld => ?_)
              · (try dsimp only)
                first | assumption | go_keep | exact ⟨(e9.out _).2.2.1, (e9.out _).1⟩
              clear hK K
              (try simp only [Act.put, List.setIfInBounds_toArray, List.set_cons_zero, List.set_cons_succ])
              refine wpAnyH_ready (rs := [10]) (by kernel_rfl) (by simp) ?_
              refine AllReadyH.cons (o := ⟨none, _, _, _, _, _⟩) rfl (fun K hK => ?_) AllReadyH.nil
              go_simp
              refine hK.out _ _ ?_ (fun hHeld => ?_)
              · (try dsimp only)
                first | assumption | go_keep | exact ⟨(e9.out _).2.2.1, (e9.out _).1⟩
              clear hK K
              (try simp only [Act.put, List.setIfInBounds_toArray, List.set_cons_zero, List.set_cons_succ])
              refine wpAnyH_done (by kernel_rfl) ?_ _
              go_wp2
              go_meet
              refine ⟨rfl, .slice (some ⟨g9, 0, none⟩) (k + 1) cp9, Q9.out.2.1.set_ 0 _, ⟨?_, own_set Q9.out.2.2.2.1 Q9.out.2.1, ?_⟩, Q9.out.2.2.1.setCell (Nat.le_refl _) _⟩
              · rw [EA.out.1, ints_snoc]; exact own_set Q9.out.1 Q9.out.2.1
              · intro g e; cases e; exact Q9.out.2.2.2.2
            · go_simp
              refine hK.out _ _ ?_ (fun hHeld => ?_)
              · (try dsimp only)
                first | assumption | go_keep | exact ⟨(e9.out _).2.2.1, (e9.out _).1⟩
              clear hK K
              (try simp only [Act.put, List.setIfInBounds_toArray, List.set_cons_zero, List.set_cons_succ])
              refine wpAnyH_ready (rs := [1]) (by kernel_rfl) (by simp) ?_
              refine AllReadyH.cons (o := ⟨some 33, _, _, _, _, _⟩) rfl (fun K hK => ?_) AllReadyH.nil
              go_simp
              refine hK.out _ _ ?_ (fun hHeld => ?_)
              · (try dsimp only)
                first | assumption | go_keep | exact ⟨(e9.out _).2.2.1, (e9.out _).1⟩
              clear hK K
              (try simp only [Act.put, List.setIfInBounds_toArray, List.set_cons_zero, List.set_cons_succ])
              refine wpAnyH_ready (rs := [8]) (by kernel_rfl) (by simp) ?_
              refine AllReadyH.cons (o := ⟨some 40, _, _, _, _, _⟩) rfl (fun K hK => ?_) AllReadyH.nil
              refine step_append_lies _ (by rfl) (.tmp 33) (.tmp 39) 23 (by rfl) w2.heap.size 3 i0 (.int .i64 0) 1 8 Try.underlying23 hi0 hz0 hz1 hz2 rfl (by decide) us k (ints ((trl sh ax).take k)) (by rfl) (HO.out.1.alloc _) ⟨wr.heap.size, 0, none⟩ 1 1 [.int .i64 d] (by rfl) rfl (cell_one_new _ _ _) (by simp [Value.oneCell']) (by decide) (by unfold maxLen; omega) (by omega) (by simp; omega) (wr.heap.size + 1) (by simp) ?_
              intro g9 cp9 w9 hown hgrow hat _
              have Q9 := Lib.hid (And.intro hown (tr_step ZB.out HO.out.1 HO.out.2.1 HO.out.2.2 HB.out hgrow hat))
              obtain ⟨p0, _, _, h0, _⟩ := blk3 Q9.out.2.1
              obtain ⟨q1, _, q0, _⟩ := OLD.out w9 Q9.out.2.2.1
              have e9 := Lib.hid (fun (z : Value) => OLD.out _ (Q9.out.2.2.1.setCell (p := ⟨w2.heap.size, 0, none⟩) (Nat.le_refl _) z))
              clear hown hgrow hat
              refine hK.out _ _ ?_ (fun hHeld => ?_)
              · (try dsimp only)
                first | assumption | go_keep | exact ⟨(e9.out _).2.2.1, (e9.out _).1⟩
              clear hK K
              (try simp only [Act.put, List.setIfInBounds_toArray, List.set_cons_zero, List.set_cons_succ])
              refine wpAnyH_ready (rs := [9]) (by kernel_rfl) (by simp) ?_
              refine AllReadyH.cons (o := ⟨some 41, _, _, _, _, _⟩) rfl (fun K hK => ?_) AllReadyH.nil
              go_simp
              refine hK.out _ _ ?_ (fun hHeld => ?_)
              · (try dsimp only)
                first | assumption | go_keep | exact ⟨(e9.out _).2.2.1, (e9.out _).1⟩
              clear hK K
              (try simp only [Act.put, List.setIfInBounds_toArray, List.set_cons_zero, List.set_cons_succ])
              refine wpAnyH_ready (rs := [10]) (by kernel_rfl) (by simp) ?_
              refine AllReadyH.cons (o := ⟨none, _, _, _, _, _⟩) rfl (fun K hK => ?_) AllReadyH.nil
              go_simp
              refine hK.out _ _ ?_ (fun hHeld => ?_)
              · (try dsimp only)
                first | assumption | go_keep | exact ⟨(e9.out _).2.2.1, (e9.out _).1⟩
              clear hK K
              (try simp only [Act.put, List.setIfInBounds_toArray, List.set_cons_zero, List.set_cons_succ])
              refine wpAnyH_done (by kernel_rfl) ?_ _
              go_wp2
              go_meet
              refine ⟨rfl, .slice (some ⟨g9, 0, none⟩) (k + 1) cp9, Q9.out.2.1.set_ 0 _, ⟨?_, own_set Q9.out.2.2.2.1 Q9.out.2.1, ?_⟩, Q9.out.2.2.1.setCell (Nat.le_refl _) _⟩
              · rw [EA.out.1, ints_snoc]; exact own_set Q9.out.1 Q9.out.2.1
              · intro g e; cases e; exact Q9.out.2.2.2.2
          case rest =>
            obtain ⟨rfl, u1, hb, HO1, HB1⟩ := hcut
            have ZB1 := Lib.hid hb
            obtain ⟨t0, t1, t2, g0, g1, g2⟩ := blk3 hb
            have yw1 := hb.lt
            obtain ⟨xs', xt', c0, c1, c2, _⟩ := OLD.out wc HB1.out
            clear hb
            go_wp2
            refine wp_region_held_drew (S := (fun W => W.cell? ⟨w.heap.size, 1, none⟩ = some (.slice (some ⟨bt, ft, none⟩) st.length ct) ∧ W.cell? ⟨bt, ft + a, none⟩ = some (.int .i64 s))) (by kernel_rfl) ?_ (fun hHeld => ?_)
            · (try dsimp only)
              first | assumption | go_keep | exact ⟨(e9.out _).2.2.2.1, (e9.out _).2.1⟩
            have hHd := hHeld
            (refine wpAnyH_take (i := 0) (oi := ⟨some 42, _, _, _, _, _⟩) (v := ?v0_42) rfl (by kernel_rfl) (by kernel_rfl) (by kernel_rfl) (fun _ _ _ h => h) (Or.inl ⟨by rfl, ?hy0_42⟩) (by assumption) ?rest0_42; (case hy0_42 => ((intro w hSw); (try dsimp only at hSw); go_simp; first | done | (with_reducible rfl))))
            (try simp only [Act.put, List.setIfInBounds_toArray, List.set_cons_zero, List.set_cons_succ])
            (refine wpAnyH_take (i := 2) (oi := ⟨some 44, _, _, _, _, _⟩) (v := ?v2_42) rfl (by kernel_rfl) (by kernel_rfl) (by kernel_rfl) (fun _ _ _ h => h) (Or.inl ⟨by rfl, ?hy2_42⟩) (by assumption) ?rest2_42; (case hy2_42 => ((intro w hSw); (try dsimp only at hSw); go_simp; first | done | (with_reducible rfl))))
            (try simp only [Act.put, List.setIfInBounds_toArray, List.set_cons_zero, List.set_cons_succ])
            (refine wpAnyH_take (i := 3) (oi := ⟨some 45, _, _, _, _, _⟩) (v := ?v3_42) rfl (by kernel_rfl) (by kernel_rfl) (by kernel_rfl) (fun _ _ _ h => h) (Or.inl ⟨by rfl, ?hy3_42⟩) (by assumption) ?rest3_42; (case hy3_42 => ((intro w hSw); (try dsimp only at hSw); go_simp; first | done | (with_reducible rfl))))
            (try simp only [Act.put, List.setIfInBounds_toArray, List.set_cons_zero, List.set_cons_succ])
            (refine wpAnyH_take (i := 4) (oi := ⟨some 46, _, _, _, _, _⟩) (v := ?v4_42) rfl (by kernel_rfl) (by kernel_rfl) (by kernel_rfl) (fun _ _ _ h => h) (Or.inl ⟨by rfl, ?hy4_42⟩) (by assumption) ?rest4_42; (case hy4_42 => ((intro w hSw); (try dsimp only at hSw); go_simp; first | done | (with_reducible rfl))))
            (try simp only [Act.put, List.setIfInBounds_toArray, List.set_cons_zero, List.set_cons_succ])
            (refine wpAnyH_take (i := 5) (oi := ⟨some 47, _, _, _, _, _⟩) (v := ?v5_42) rfl (by kernel_rfl) (by kernel_rfl) (by kernel_rfl) (fun _ _ _ h => h) (Or.inl ⟨by rfl, ?hy5_42⟩) (by assumption) ?rest5_42; (case hy5_42 => ((intro w hSw); (try dsimp only at hSw); go_simp; first | done | (with_reducible rfl))))
            (try simp only [Act.put, List.setIfInBounds_toArray, List.set_cons_zero, List.set_cons_succ])
            (refine wpAnyH_take (i := 6) (oi := ⟨some 48, _, _, _, _, _⟩) (v := ?v6_42) rfl (by kernel_rfl) (by kernel_rfl) (by kernel_rfl) (fun _ _ _ h => h) (Or.inl ⟨by rfl, ?hy6_42⟩) (by assumption) ?rest6_42; (case hy6_42 => ((intro w hSw); (try dsimp only at hSw); go_simp; first | done | (with_reducible rfl))))
            (try simp only [Act.put, List.setIfInBounds_toArray, List.set_cons_zero, List.set_cons_succ])
            refine wpAnyH_ready (rs := [1, 7]) (by kernel_rfl) (by simp) ?_
            refine AllReadyH.cons (o := ⟨some 43, _, _, _, _, _⟩) rfl (fun K hK => ?_) (AllReadyH.cons (o := ⟨some 49, _, _, _, _, _⟩) rfl (fun K hK => ?_) AllReadyH.nil)
            · go_simp
              refine hK.out _ _ ?_ (fun hHeld => ?_)
              · (try dsimp only)
                first | assumption | go_keep | exact ⟨(e9.out _).2.2.2.1, (e9.out _).2.1⟩
              clear hK K
              (try simp only [Act.put, List.setIfInBounds_toArray, List.set_cons_zero, List.set_cons_succ])
              refine wpAnyH_ready (rs := [7]) (by kernel_rfl) (by simp) ?_
              refine AllReadyH.cons (o := ⟨some 49, _, _, _, _, _⟩) rfl (fun K hK => ?_) AllReadyH.nil
              go_simp
              refine hK.out _ _ ?_ (fun hHeld => ?_)
              · (try dsimp only)
                first | assumption | go_keep | exact ⟨(e9.out _).2.2.2.1, (e9.out _).2.1⟩
              clear hK K
              (try simp only [Act.put, List.setIfInBounds_toArray, List.set_cons_zero, List.set_cons_succ])
              refine wpAnyH_ready (rs := [8]) (by kernel_rfl) (by simp) ?_
              refine AllReadyH.cons (o := ⟨some 50, _, _, _, _, _⟩) rfl (fun K hK => ?_) AllReadyH.nil
              refine step_append_lies _ (by rfl) (.tmp 43) (.tmp 49) 23 (by rfl) w2.heap.size 3 i0 (.int .i64 0) 1 8 Try.underlying23 hi0 hz0 hz1 hz2 rfl (by decide) ut k (ints ((trl st ax).take k)) (by rfl) (HO1.out.2.1.alloc _) ⟨wc.heap.size, 0, none⟩ 1 1 [.int .i64 s] (by rfl) rfl (cell_one_new _ _ _) (by simp [Value.oneCell']) (by decide) (by unfold maxLen; omega) (by omega) (by simp; omega) (wc.heap.size + 1) (by simp) ?_
              intro g9 cp9 w9 hown hgrow hat _
              have Q9 := Lib.hid (And.intro hown (tr_step ZB1.out HO1.out.2.1 HO1.out.1 (fun g a b => HO1.out.2.2 g b a) HB1.out hgrow hat))
              obtain ⟨_, p0, _, _, h0, _⟩ := blk3 Q9.out.2.1
              obtain ⟨_, q1, _, q0, _⟩ := OLD.out w9 Q9.out.2.2.1
              have e9 := Lib.hid (fun (z : Value) => OLD.out _ (Q9.out.2.2.1.setCell (p := ⟨w2.heap.size, 1, none⟩) (Nat.le_refl _) z))
              clear hown hgrow hat
              refine hK.out _ _ ?_ (fun hHeld => ?_)
              · (try dsimp only)
                first | assumption | go_keep | exact ⟨(e9.out _).2.2.2.1, (e9.out _).2.1⟩
              clear hK K
              (try simp only [Act.put, List.setIfInBounds_toArray, List.set_cons_zero, List.set_cons_succ])
              refine wpAnyH_ready (rs := [9]) (by kernel_rfl) (by simp) ?_
              refine AllReadyH.cons (o := ⟨some 51, _, _, _, _, _⟩) rfl (fun K hK => ?_) AllReadyH.nil
              go_simp
              refine hK.out _ _ ?_ (fun hHeld => ?_)
              · (try dsimp only)
                first | assumption | go_keep | exact ⟨(e9.out _).2.2.2.1, (e9.out _).2.1⟩
              clear hK K
              (try simp only [Act.put, List.setIfInBounds_toArray, List.set_cons_zero, List.set_cons_succ])
              refine wpAnyH_ready (rs := [10]) (by kernel_rfl) (by simp) ?_
              refine AllReadyH.cons (o := ⟨none, _, _, _, _, _⟩) rfl (fun K hK => ?_) AllReadyH.nil
              go_simp
              refine hK.out _ _ ?_ (fun hHeld => ?_)
              · (try dsimp only)
                first | assumption | go_keep | exact ⟨(e9.out _).2.2.2.1, (e9.out _).2.1⟩
              clear hK K
              (try simp only [Act.put, List.setIfInBounds_toArray, List.set_cons_zero, List.set_cons_succ])
              refine wpAnyH_done (by kernel_rfl) ?_ _
              go_wp2
              refine ⟨⟨k + 1, u1, .slice (some ⟨g9, 0, none⟩) (k + 1) cp9, by omega, by go_num, Q9.out.2.1.set_ 1 _, ⟨own_set Q9.out.2.2.2.1 Q9.out.2.1, ?_, ?_⟩, Q9.out.2.2.1.setCell (Nat.le_refl _) _⟩, by simp [intOf]; omega⟩
              · rw [EA.out.2, ints_snoc]; exact own_set Q9.out.1 Q9.out.2.1
              · intro g e e2; cases e2; exact Q9.out.2.2.2.2 e
            · go_simp
              refine hK.out _ _ ?_ (fun hHeld => ?_)
              · (try dsimp only)
                first | assumption | go_keep | exact ⟨(e9.out _).2.2.2.1, (e9.out _).2.1⟩
              clear hK K
              (try simp only [Act.put, List.setIfInBounds_toArray, List.set_cons_zero, List.set_cons_succ])
              refine wpAnyH_ready (rs := [1]) (by kernel_rfl) (by simp) ?_
              refine AllReadyH.cons (o := ⟨some 43, _, _, _, _, _⟩) rfl (fun K hK => ?_) AllReadyH.nil
              go_simp
              refine hK.out _ _ ?_ (fun hHeld => ?_)
              · (try dsimp only)
                first | assumption | go_keep | exact ⟨(e9.out _).2.2.2.1, (e9.out _).2.1⟩
              clear hK K
              (try simp only [Act.put, List.setIfInBounds_toArray, List.set_cons_zero, List.set_cons_succ])
              refine wpAnyH_ready (rs := [8]) (by kernel_rfl) (by simp) ?_
              refine AllReadyH.cons (o := ⟨some 50, _, _, _, _, _⟩) rfl (fun K hK => ?_) AllReadyH.nil
              refine step_append_lies _ (by rfl) (.tmp 43) (.tmp 49) 23 (by rfl) w2.heap.size 3 i0 (.int .i64 0) 1 8 Try.underlying23 hi0 hz0 hz1 hz2 rfl (by decide) ut k (ints ((trl st ax).take k)) (by rfl) (HO1.out.2.1.alloc _) ⟨wc.heap.size, 0, none⟩ 1 1 [.int .i64 s] (by rfl) rfl (cell_one_new _ _ _) (by simp [Value.oneCell']) (by decide) (by unfold maxLen; omega) (by omega) (by simp; omega) (wc.heap.size + 1) (by simp) ?_
              intro g9 cp9 w9 hown hgrow hat _
              have Q9 := Lib.hid (And.intro hown (tr_step ZB1.out HO1.out.2.1 HO1.out.1 (fun g a b => HO1.out.2.2 g b a) HB1.out hgrow hat))
              obtain ⟨_, p0, _, _, h0, _⟩ := blk3 Q9.out.2.1
              obtain ⟨_, q1, _, q0, _⟩ := OLD.out w9 Q9.out.2.2.1
              have e9 := Lib.hid (fun (z : Value) => OLD.out _ (Q9.out.2.2.1.setCell (p := ⟨w2.heap.size, 1, none⟩) (Nat.le_refl _) z))
              clear hown hgrow hat
              refine hK.out _ _ ?_ (fun hHeld => ?_)
              · (try dsimp only)
                first | assumption | go_keep | exact ⟨(e9.out _).2.2.2.1, (e9.out _).2.1⟩
              clear hK K
              (try simp only [Act.put, List.setIfInBounds_toArray, List.set_cons_zero, List.set_cons_succ])
              refine wpAnyH_ready (rs := [9]) (by kernel_rfl) (by simp) ?_
              refine AllReadyH.cons (o := ⟨some 51, _, _, _, _, _⟩) rfl (fun K hK => ?_) AllReadyH.nil
              go_simp
              refine hK.out _ _ ?_ (fun hHeld => ?_)
              · (try dsimp only)
                first | assumption | go_keep | exact ⟨(e9.out _).2.2.2.1, (e9.out _).2.1⟩
              clear hK K
              (try simp only [Act.put, List.setIfInBounds_toArray, List.set_cons_zero, List.set_cons_succ])
              refine wpAnyH_ready (rs := [10]) (by kernel_rfl) (by simp) ?_
              refine AllReadyH.cons (o := ⟨none, _, _, _, _, _⟩) rfl (fun K hK => ?_) AllReadyH.nil
              go_simp
              refine hK.out _ _ ?_ (fun hHeld => ?_)
              · (try dsimp only)
                first | assumption | go_keep | exact ⟨(e9.out _).2.2.2.1, (e9.out _).2.1⟩
              clear hK K
              (try simp only [Act.put, List.setIfInBounds_toArray, List.set_cons_zero, List.set_cons_succ])
              refine wpAnyH_done (by kernel_rfl) ?_ _
              go_wp2
              refine ⟨⟨k + 1, u1, .slice (some ⟨g9, 0, none⟩) (k + 1) cp9, by omega, by go_num, Q9.out.2.1.set_ 1 _, ⟨own_set Q9.out.2.2.2.1 Q9.out.2.1, ?_, ?_⟩, Q9.out.2.2.1.setCell (Nat.le_refl _) _⟩, by simp [intOf]; omega⟩
              · rw [EA.out.2, ints_snoc]; exact own_set Q9.out.1 Q9.out.2.1
              · intro g e e2; cases e2; exact Q9.out.2.2.2.2 e
        · obtain rfl : k = ax.length := by omega
          have h1 := HO.out.1
          have h2 := HO.out.2.1
          rw [List.take_of_length_le (by rw [trl_len]; exact Nat.le_refl _)] at h1 h2
          have hn1 := trl_len sh ax
          have hn2 := trl_len st ax
          rw [← hn1] at h1
          obtain ⟨o1, c1', e1, _⟩ := Ld.of_owns h1
          rw [← hn2] at h2
          obtain ⟨o2, c2', e2, _⟩ := Ld.of_owns h2
          subst e1 e2
          have HN := Lib.hid (And.intro hn1 hn2)
          have HF := Lib.hid (And.intro h1 h2)
          have ap := Lib.hid HO.out.2.2
          have ZF := Lib.hid (Y1.out.below HB.out (by omega))
          obtain ⟨d0, d1, d2, f0, f1, f2⟩ := blk3 ZF.out
          obtain ⟨t0, t1, t2, _⟩ := blk3 hb
          clear hn1 hn2 h1 h2 HO
          go_wp2
          refine bodyPost_ret (v := .tuple #[.agg #[.slice o1 (trl sh ax).length c1', .slice o2 (trl st ax).length c2', .int .i64 off], .int .i64 0]) (by simp [results, Try.results19, go_sem, d0, d1, d2]) rfl ?_
          rw [R.out]
          exact someV_end (Nat.le_succ _) (B2.out.trans (HB.out.mono b2s)) ZF.out rfl rfl (Ov.base ⟨HF.out.1, HF.out.2, ap.out⟩ b2s)
end Go.Proofs.Ytdefgmkkkeemoaa
