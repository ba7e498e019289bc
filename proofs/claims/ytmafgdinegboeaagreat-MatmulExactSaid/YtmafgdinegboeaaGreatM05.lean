/-
  
  
-/
import Derived.Deep.RegionHeld3
import Derived.Deep.AppendLies
import Derived.Deep.DrawnRows
import Derived.Deep.DeepCutAuto
import Derived.Test.YtmafgdinegboeaaGreatM01
import Derived.Test.YtmafgdinegboeaaGreatM02
import Derived.Test.YtmafgdinegboeaaGreatM03
import Derived.Test.YtmafgdinegboeaaGreatM04
namespace Go.Proofs.YtmafgdinegboeaaGreat
open Go.RowKit
attribute [local go_sem ↓] Go.wp_at_zero Go.wp_at_succ

theorem ints_snoc (l : List Int) (x : Int) : ints (l ++ [x]) = ints l ++ [.int .i64 x] := by simp [ints]

theorem grown_set (W : World) (p : Addr) (z : Value) : W.grownBy (W.setCell p z) (some p.block) := ⟨rfl, rfl, rfl, by simp, fun j _ hne => Below.heap_setCell _ _ _ j (fun e => hne (by rw [e]))⟩
theorem own_set {W : World} {T base n i : Nat} {v z : Value} {xs : List Value} {cs : Array Value} (h : W.ownsRow base 3 1 v n xs) (hb : Blk W T 168 cs) : (W.setCell ⟨T, i, none⟩ z).ownsRow base 3 1 v n xs :=
  h.kept (grown_set W ⟨T, i, none⟩ z) (.inr (own_not_box h hb))
theorem tr_step {W w9 w2 : World} {T k m g : Nat} {x : Int} {u v : Value} {xs ys : List Value} {cs : Array Value} (hb : Blk W T 168 cs) (hu : W.ownsRow T 3 1 u k xs) (hv : W.ownsRow T 3 1 v m ys) (hap : ∀ g, u.ownBlock = some g → ¬ v.ownBlock = some g)
    (hB : Below T w2 W) (hgrow : (W.alloc (.cells #[.int .i64 x] 3)).drew.grownBy w9 u.ownBlock) (hat : u.ownBlock = some g ∨ g = W.heap.size + 1) :
    Blk w9 T 168 cs ∧ Below T w2 w9 ∧ w9.ownsRow T 3 1 v m ys ∧ ¬ v.ownBlock = some g := by
  have hT := hb.lt
  refine ⟨((hb.alloc _).drew).kept hgrow (fun e => own_not_box hu hb e.symm), ?_, ?_, ?_⟩
  · have h1 := below_drw (hB.alloc (Nat.le_of_lt hT) (.cells #[.int .i64 x] 3)) 1
    exact h1.grown hgrow (by simp; omega) (fun j e => (hu.lt j e).1)
  · refine ((hv.alloc (.cells #[.int .i64 x] 3)).drew).kept hgrow ?_
    cases e : v.ownBlock with
    | none => exact .inl rfl
    | some j => exact .inr (fun e2 => hap j e2.symm e)
  · intro e
    rcases hat with h | h
    · exact hap g h e
    · have := (hv.lt g e).2; omega

set_option maxRecDepth 100000 in
set_option maxHeartbeats 4000000 in
theorem transpose_any (vs vt va : Value) (sh st ax : List Int) (off : Int) (w : World) (hs : Ld w vs sh) (ht : Ld w vt st) (ha : Ld w va ax) (l1 : sh.length ≤ 1073741824) (l2 : st.length ≤ 17592186044416) (l3 : ax.length ≤ 17592186044416) :
    Calls Tryz.prog 105 #[.agg #[vs, vt, .int .i64 off], va] w (SomeV w (tre sh st off ax) (unl (tre sh st off ax) (trl sh ax)) (unl (tre sh st off ax) (trl st ax)) (unn (tre sh st off ax) off)) := by
  obtain ⟨i0, hi0, hz0, hz1, hz2⟩ := info_parts infoI
  have hB0 : Below w.heap.size w ((w.alloc (.cells #[vs, vt, .int .i64 off] 168)).alloc (.cells #[.slice none 0 0, .slice none 0 0, .int .i64 0] 168)) := ((Below.refl _ _).alloc (Nat.le_refl _) _).alloc (by simp) _
  have hX0 : Blk ((w.alloc (.cells #[vs, vt, .int .i64 off] 168)).alloc (.cells #[.slice none 0 0, .slice none 0 0, .int .i64 0] 168)) w.heap.size 168 #[vs, vt, .int .i64 off] := (Blk.new w _ _).alloc _
  have hX1 : Blk ((w.alloc (.cells #[vs, vt, .int .i64 off] 168)).alloc (.cells #[.slice none 0 0, .slice none 0 0, .int .i64 0] 168)) (w.heap.size + 1) 168 #[.slice none 0 0, .slice none 0 0, .int .i64 0] := by
    have := Blk.new (w.alloc (.cells #[vs, vt, .int .i64 off] 168)) 168 #[.slice none 0 0, .slice none 0 0, .int .i64 0]
    rwa [World.size_alloc] at this
  have CK := vcheck_any vs vt sh st off 65536 _ (hs.below hB0) (ht.below hB0) (by omega) l2
  simp only [World.size_alloc] at CK
  replace CK := Lib.hid CK
  have CA := Lib.hid (fun (W : World) (hb : Below w.heap.size w W) => areall_any va ax sh.length W (ha.below hb) l3 l1)
  obtain ⟨os, cs, rfl, _, hxs⟩ := hs
  obtain ⟨ot, ct, rfl, _, hxt⟩ := ht
  obtain ⟨oa, ca, rfl, _, hxa⟩ := ha
  have HS := Lib.hid hxs
  have HT := Lib.hid hxt
  have HA := Lib.hid hxa
  clear hxs hxt hxa
  have HX0 := Lib.hid hX0
  have HX1 := Lib.hid hX1
  have HB0 := Lib.hid hB0
  clear hX0 hX1 hB0
  cases hv : vwb sh st off 65536 with
  | false =>
    have R : Hid (tre sh st off ax = 1) := by unfold tre; rw [hv]; exact Lib.hid rfl
    rw [hv, frm_f] at CK
    clear hv
    go_enter Tryz.func105, Tryz.ntmps105
    go_wp2_with (go_at_call 165; (with_reducible refine CK.out.mono ?_); rintro e w2 ⟨rfl, hb2⟩; have Y1 := Lib.hid (HX1.out.below hb2 (by omega)); obtain ⟨d0, d1, d2, f0, f1, f2⟩ := blk3 Y1.out; have B2 := Lib.hid (HB0.out.trans (hb2.mono (by omega))); clear hb2)
    refine bodyPost_ret (v := .tuple #[.agg #[.slice none 0 0, .slice none 0 0, .int .i64 0], .int .i64 1]) (by simp [results, Tryz.results105, go_sem, d0, d1, d2]) rfl ?_
    rw [R.out]
    exact someV_end (sh := []) (st := []) (Nat.le_succ _) B2.out Y1.out rfl rfl (ov_nil _ _)
  | true =>
    rw [hv, frm_t] at CK
    cases hax : axs ax sh.length with
    | false =>
      have R : Hid (tre sh st off ax = 2) := by unfold tre; rw [hv, hax]; exact Lib.hid rfl
      rw [hax] at CA
      clear hv hax
      go_enter Tryz.func105, Tryz.ntmps105
      go_wp2_with (first | (go_at_call 165; (with_reducible refine CK.out.mono ?_); rintro e w2 ⟨rfl, hb2⟩; have Y1 := Lib.hid (HX1.out.below hb2 (by omega)); obtain ⟨d0, d1, d2, f0, f1, f2⟩ := blk3 Y1.out; obtain ⟨c0, c1, c2⟩ := (blk3 (HX0.out.below hb2 (by omega))); have B2 := Lib.hid (HB0.out.trans (hb2.mono (by omega))); clear hb2) | (go_at_call 166; (with_reducible refine (CA.out _ B2.out).mono ?_); rintro e w' ⟨rfl, rfl⟩))
      refine bodyPost_ret (v := .tuple #[.agg #[.slice none 0 0, .slice none 0 0, .int .i64 0], .int .i64 2]) (by simp [results, Tryz.results105, go_sem, d0, d1, d2]) rfl ?_
      rw [R.out]
      exact someV_end (sh := []) (st := []) (Nat.le_succ _) B2.out Y1.out rfl rfl (ov_nil _ _)
    | true =>
      have R : Hid (tre sh st off ax = 0) := by unfold tre; rw [hv, hax]; exact Lib.hid rfl
      have hVw := vwb_iff.1 hv
      have lsx := Lib.hid (axs_len hax)
      have HV := Lib.hid (And.intro hVw hax)
      have l4 := may_len hVw.1
      rw [hax] at CA
      clear hv hax hVw
      go_enter Tryz.func105, Tryz.ntmps105
      go_wp2_with (first | (go_at_call 165; (with_reducible refine CK.out.mono ?_); rintro e w2 ⟨rfl, hb2⟩; have Y1 := Lib.hid (HX1.out.below hb2 (by omega)); have Y0 := Lib.hid (HX0.out.below hb2 (by omega)); obtain ⟨c0, c1, c2, _⟩ := (blk3 Y0.out); have B2 := Lib.hid (HB0.out.trans (hb2.mono (by omega))); clear hb2) | (go_at_call 166; (with_reducible refine (CA.out _ B2.out).mono ?_); rintro e w' ⟨rfl, rfl⟩))
      have y0 := Y0.out.lt
      have y1 := Y1.out.lt
      have l5 : ax.length ≤ 4 := by have := lsx.out; omega
      have b2s := B2.out.size
      go_loopw [28] (fun s28 wr => ∃ (k : Nat) (us ut : Value), k ≤ ax.length ∧ s28 = .int .i64 k ∧ Blk wr w2.heap.size 168 #[us, ut, .int .i64 off] ∧ Hid (wr.ownsRow w2.heap.size 3 1 us k (ints ((trl sh ax).take k)) ∧ wr.ownsRow w2.heap.size 3 1 ut k (ints ((trl st ax).take k)) ∧ (∀ g, us.ownBlock = some g → ¬ ut.ownBlock = some g)) ∧ Hid (Below w2.heap.size w2 wr)) (fun s28 _ => ax.length - (intOf s28).toNat)
      case atStart =>
        exact ⟨0, .slice none 0 0, .slice none 0 0, Nat.zero_le _, rfl, Blk.new _ _ _, ⟨World.ownsRow_nil _ _ _ _, World.ownsRow_nil _ _ _ _, fun g h => by simp [Value.ownBlock] at h⟩, (Below.refl _ _).alloc (Nat.le_refl _) _⟩
      case round =>
        obtain ⟨k, us, ut, hk, rfl, hb, HO, HB⟩ := hrel
        by_cases hlt : k < ax.length
        · obtain ⟨a, ea, alt⟩ := axs_at HV.out.2 hlt
          obtain ⟨ba, fa, rfl, na, xa⟩ := HA.out k hlt
          obtain ⟨bs, fs, rfl, ns, xs⟩ := HS.out a alt
          obtain ⟨bt, ft, rfl, nt, xt⟩ := HT.out a (by have := HV.out.1.2.1; omega)
          have old2 : ∀ (p : Addr) (v : Value), p.block < w.heap.size → w.cell? p = some v → ∀ W, Below w2.heap.size w2 W → W.cell? p = some v := fun p v h1 h2 W hW => ((hW.cell (p := p) (by omega)).trans (B2.out.cell (p := p) h1)).trans h2
          have xa' := old2 _ _ na xa wr HB.out
          rw [ea] at xa'
          have OLD := Lib.hid (fun (W : World) (hW : Below w2.heap.size w2 W) => And.intro (old2 _ _ ns xs W hW) (And.intro (old2 _ _ nt xt W hW) (blk3 (Y0.out.below hW (by omega)))))
          have EA : Hid ((trl sh ax).take (k + 1) = (trl sh ax).take k ++ [sh.getD a 0] ∧ (trl st ax).take (k + 1) = (trl st ax).take k ++ [st.getD a 0]) := ⟨trl_snoc hlt ea, trl_snoc hlt ea⟩
          have ZB := Lib.hid hb
          obtain ⟨xs', xt', c0, c1, c2, _⟩ := OLD.out wr HB.out
          obtain ⟨t0, t1, t2, g0, g1, g2⟩ := blk3 hb
          have yw := hb.lt
          have AL : Hid (a < sh.length ∧ a < st.length) := ⟨alt, by have := HV.out.1.2.1; omega⟩
          have al1 := AL.out.1
          have al2 := AL.out.2
          clear xa xs xt hb ea old2
          generalize sh.getD a 0 = d at *
          generalize st.getD a 0 = s at *
          go_wp2
          go_cut [9] (fun s9 wx => s9 = .int .i64 a ∧ ∃ u1, Blk wx w2.heap.size 168 #[u1, ut, .int .i64 off] ∧ Hid (wx.ownsRow w2.heap.size 3 1 u1 (k + 1) (ints ((trl sh ax).take (k + 1))) ∧ wx.ownsRow w2.heap.size 3 1 ut k (ints ((trl st ax).take k)) ∧ (∀ g, u1.ownBlock = some g → ¬ ut.ownBlock = some g)) ∧ Hid (Below w2.heap.size w2 wx))
          case first =>
            refine wp_region_held_drew (S := (fun W => W.cell? ⟨w.heap.size, 0, none⟩ = some (.slice (some ⟨bs, fs, none⟩) sh.length cs) ∧ W.cell? ⟨bs, fs + a, none⟩ = some (.int .i64 d))) (by kernel_rfl) ?_ (fun hHeld => ?_)
            · (try dsimp only)
              first | assumption | go_keep | exact ⟨(e9.out _).2.2.1, (e9.out _).1⟩
            have hHd := hHeld
            (refine tk (i := 0) (oi := ⟨some 32, _, _, _, _, _⟩) (v := ?v0_32) rfl ?hy0_32 ?rest0_32; (case hy0_32 => intro w hSw; (try dsimp only at hSw); go_simp; first | done | with_reducible rfl))
            (try simp only [Act.put, pq])
            (refine tk (i := 2) (oi := ⟨some 34, _, _, _, _, _⟩) (v := ?v2_32) rfl ?hy2_32 ?rest2_32; (case hy2_32 => intro w hSw; (try dsimp only at hSw); go_simp; first | done | with_reducible rfl))
            (try simp only [Act.put, pq])
            (refine tk (i := 3) (oi := ⟨some 35, _, _, _, _, _⟩) (v := ?v3_32) rfl ?hy3_32 ?rest3_32; (case hy3_32 => intro w hSw; (try dsimp only at hSw); go_simp; first | done | with_reducible rfl))
            (try simp only [Act.put, pq])
            (refine tk (i := 4) (oi := ⟨some 36, _, _, _, _, _⟩) (v := ?v4_32) rfl ?hy4_32 ?rest4_32; (case hy4_32 => intro w hSw; (try dsimp only at hSw); go_simp; first | done | with_reducible rfl))
            (try simp only [Act.put, pq])
            (refine tk (i := 5) (oi := ⟨some 37, _, _, _, _, _⟩) (v := ?v5_32) rfl ?hy5_32 ?rest5_32; (case hy5_32 => intro w hSw; (try dsimp only at hSw); go_simp; first | done | with_reducible rfl))
            (try simp only [Act.put, pq])
            (refine tk (i := 6) (oi := ⟨some 38, _, _, _, _, _⟩) (v := ?v6_32) rfl ?hy6_32 ?rest6_32; (case hy6_32 => intro w hSw; (try dsimp only at hSw); go_simp; first | done | with_reducible rfl))
            (try simp only [Act.put, pq])
            refine wpAnyH_ready (rs := [1, 7]) (by kernel_rfl) (by simp) ?_
            refine AllReadyH.cons (o := ⟨some 33, _, _, _, _, _⟩) rfl (fun K hK => ?_) (AllReadyH.cons (o := ⟨some 39, _, _, _, _, _⟩) rfl (fun K hK => ?_) AllReadyH.nil)
            · go_simp
              refine hK.out _ _ ?_ (fun hHeld => ?_)
              · (try dsimp only)
                first | assumption | go_keep | exact ⟨(e9.out _).2.2.1, (e9.out _).1⟩
              clear hK K
              (try simp only [Act.put, pq])
              refine wpAnyH_ready (rs := [7]) (by kernel_rfl) (by simp) ?_
              refine AllReadyH.cons (o := ⟨some 39, _, _, _, _, _⟩) rfl (fun K hK => ?_) AllReadyH.nil
              go_simp
              refine hK.out _ _ ?_ (fun hHeld => ?_)
              · (try dsimp only)
                first | assumption | go_keep | exact ⟨(e9.out _).2.2.1, (e9.out _).1⟩
              clear hK K
              (try simp only [Act.put, pq])
              refine wpAnyH_ready (rs := [8]) (by kernel_rfl) (by simp) ?_
              refine AllReadyH.cons (o := ⟨some 40, _, _, _, _, _⟩) rfl (fun K hK => ?_) AllReadyH.nil
              refine step_append_lies _ (by rfl) (.tmp 33) (.tmp 39) 23 (by rfl) w2.heap.size 3 i0 (.int .i64 0) 1 8 Tryz.underlying23 hi0 hz0 hz1 hz2 rfl (by decide) us k (ints ((trl sh ax).take k)) (by rfl) (HO.out.1.alloc _) ⟨wr.heap.size, 0, none⟩ 1 1 [.int .i64 d] (by rfl) rfl (cell_one_new _ _ _) (by simp [Value.oneCell']) (by decide) (by unfold maxLen; omega) (by omega) (by simp; omega) (wr.heap.size + 1) (by simp) ?_
              intro g9 cp9 w9 hown hgrow hat _
              have Q9 := Lib.hid (And.intro hown (tr_step ZB.out HO.out.1 HO.out.2.1 HO.out.2.2 HB.out hgrow hat))
              obtain ⟨p0, _, _, h0, _⟩ := blk3 Q9.out.2.1
              obtain ⟨q1, _, q0, _⟩ := OLD.out w9 Q9.out.2.2.1
              have e9 := Lib.hid (fun (z : Value) => OLD.out _ (Q9.out.2.2.1.setCell (p := ⟨w2.heap.size, 0, none⟩) (Nat.le_refl _) z))
              clear hown hgrow hat
              refine hK.out _ _ ?_ (fun hHeld => ?_)
              · (try dsimp only)
                first | assumption | go_keep | exact ⟨(e9.out _).2.2.1, (e9.out _).1⟩
              clear hK K
              (try simp only [Act.put, pq])
              refine wpAnyH_ready (rs := [9]) (by kernel_rfl) (by simp) ?_
              refine AllReadyH.cons (o := ⟨some 41, _, _, _, _, _⟩) rfl (fun K hK => ?_) AllReadyH.nil
              go_simp
              refine hK.out _ _ ?_ (fun hHeld => ?_)
              · (try dsimp only)
                first | assumption | go_keep | exact ⟨(e9.out _).2.2.1, (e9.out _).1⟩
              clear hK K
              (try simp only [Act.put, pq])
              refine wpAnyH_ready (rs := [10]) (by kernel_rfl) (by simp) ?_
              refine AllReadyH.cons (o := ⟨none, _, _, _, _, _⟩) rfl (fun K hK => ?_) AllReadyH.nil
              go_simp
              refine hK.out _ _ ?_ (fun hHeld => ?_)
              · (try dsimp only)
                first | assumption | go_keep | exact ⟨(e9.out _).2.2.1, (e9.out _).1⟩
              clear hK K
              (try simp only [Act.put, pq])
              refine wpAnyH_done (by kernel_rfl) ?_ _
              go_wp2
              go_meet
              refine ⟨rfl, .slice (some ⟨g9, 0, none⟩) (k + 1) cp9, Q9.out.2.1.set_ 0 _, ⟨?_, own_set Q9.out.2.2.2.1 Q9.out.2.1, ?_⟩, Q9.out.2.2.1.setCell (Nat.le_refl _) _⟩
              · rw [EA.out.1, ints_snoc]; exact own_set Q9.out.1 Q9.out.2.1
              · intro g e; cases e; exact Q9.out.2.2.2.2
            · go_simp
              refine hK.out _ _ ?_ (fun hHeld => ?_)
              · (try dsimp only)
                first | assumption | go_keep | exact ⟨(e9.out _).2.2.1, (e9.out _).1⟩
              clear hK K
              (try simp only [Act.put, pq])
              refine wpAnyH_ready (rs := [1]) (by kernel_rfl) (by simp) ?_
              refine AllReadyH.cons (o := ⟨some 33, _, _, _, _, _⟩) rfl (fun K hK => ?_) AllReadyH.nil
              go_simp
              refine hK.out _ _ ?_ (fun hHeld => ?_)
              · (try dsimp only)
                first | assumption | go_keep | exact ⟨(e9.out _).2.2.1, (e9.out _).1⟩
              clear hK K
              (try simp only [Act.put, pq])
              refine wpAnyH_ready (rs := [8]) (by kernel_rfl) (by simp) ?_
              refine AllReadyH.cons (o := ⟨some 40, _, _, _, _, _⟩) rfl (fun K hK => ?_) AllReadyH.nil
              refine step_append_lies _ (by rfl) (.tmp 33) (.tmp 39) 23 (by rfl) w2.heap.size 3 i0 (.int .i64 0) 1 8 Tryz.underlying23 hi0 hz0 hz1 hz2 rfl (by decide) us k (ints ((trl sh ax).take k)) (by rfl) (HO.out.1.alloc _) ⟨wr.heap.size, 0, none⟩ 1 1 [.int .i64 d] (by rfl) rfl (cell_one_new _ _ _) (by simp [Value.oneCell']) (by decide) (by unfold maxLen; omega) (by omega) (by simp; omega) (wr.heap.size + 1) (by simp) ?_
              intro g9 cp9 w9 hown hgrow hat _
              have Q9 := Lib.hid (And.intro hown (tr_step ZB.out HO.out.1 HO.out.2.1 HO.out.2.2 HB.out hgrow hat))
              obtain ⟨p0, _, _, h0, _⟩ := blk3 Q9.out.2.1
              obtain ⟨q1, _, q0, _⟩ := OLD.out w9 Q9.out.2.2.1
              have e9 := Lib.hid (fun (z : Value) => OLD.out _ (Q9.out.2.2.1.setCell (p := ⟨w2.heap.size, 0, none⟩) (Nat.le_refl _) z))
              clear hown hgrow hat
              refine hK.out _ _ ?_ (fun hHeld => ?_)
              · (try dsimp only)
                first | assumption | go_keep | exact ⟨(e9.out _).2.2.1, (e9.out _).1⟩
              clear hK K
              (try simp only [Act.put, pq])
              refine wpAnyH_ready (rs := [9]) (by kernel_rfl) (by simp) ?_
              refine AllReadyH.cons (o := ⟨some 41, _, _, _, _, _⟩) rfl (fun K hK => ?_) AllReadyH.nil
              go_simp
              refine hK.out _ _ ?_ (fun hHeld => ?_)
              · (try dsimp only)
                first | assumption | go_keep | exact ⟨(e9.out _).2.2.1, (e9.out _).1⟩
              clear hK K
              (try simp only [Act.put, pq])
              refine wpAnyH_ready (rs := [10]) (by kernel_rfl) (by simp) ?_
              refine AllReadyH.cons (o := ⟨none, _, _, _, _, _⟩) rfl (fun K hK => ?_) AllReadyH.nil
              go_simp
              refine hK.out _ _ ?_ (fun hHeld => ?_)
              · (try dsimp only)
                first | assumption | go_keep | exact ⟨(e9.out _).2.2.1, (e9.out _).1⟩
              clear hK K
              (try simp only [Act.put, pq])
              refine wpAnyH_done (by kernel_rfl) ?_ _
              go_wp2
              go_meet
              refine ⟨rfl, .slice (some ⟨g9, 0, none⟩) (k + 1) cp9, Q9.out.2.1.set_ 0 _, ⟨?_, own_set Q9.out.2.2.2.1 Q9.out.2.1, ?_⟩, Q9.out.2.2.1.setCell (Nat.le_refl _) _⟩
              · rw [EA.out.1, ints_snoc]; exact own_set Q9.out.1 Q9.out.2.1
              · intro g e; cases e; exact Q9.out.2.2.2.2
          case rest =>
            obtain ⟨rfl, u1, hb, HO1, HB1⟩ := hcut
            have ZB1 := Lib.hid hb
            obtain ⟨t0, t1, t2, g0, g1, g2⟩ := blk3 hb
            have yw1 := hb.lt
            obtain ⟨xs', xt', c0, c1, c2, _⟩ := OLD.out wc HB1.out
            clear hb
            go_wp2
            refine wp_region_held_drew (S := (fun W => W.cell? ⟨w.heap.size, 1, none⟩ = some (.slice (some ⟨bt, ft, none⟩) st.length ct) ∧ W.cell? ⟨bt, ft + a, none⟩ = some (.int .i64 s))) (by kernel_rfl) ?_ (fun hHeld => ?_)
            · (try dsimp only)
              first | assumption | go_keep | exact ⟨(e9.out _).2.2.2.1, (e9.out _).2.1⟩
            have hHd := hHeld
            (refine tk (i := 0) (oi := ⟨some 42, _, _, _, _, _⟩) (v := ?v0_42) rfl ?hy0_42 ?rest0_42; (case hy0_42 => intro w hSw; (try dsimp only at hSw); go_simp; first | done | with_reducible rfl))
            (try simp only [Act.put, pq])
            (refine tk (i := 2) (oi := ⟨some 44, _, _, _, _, _⟩) (v := ?v2_42) rfl ?hy2_42 ?rest2_42; (case hy2_42 => intro w hSw; (try dsimp only at hSw); go_simp; first | done | with_reducible rfl))
            (try simp only [Act.put, pq])
            (refine tk (i := 3) (oi := ⟨some 45, _, _, _, _, _⟩) (v := ?v3_42) rfl ?hy3_42 ?rest3_42; (case hy3_42 => intro w hSw; (try dsimp only at hSw); go_simp; first | done | with_reducible rfl))
            (try simp only [Act.put, pq])
            (refine tk (i := 4) (oi := ⟨some 46, _, _, _, _, _⟩) (v := ?v4_42) rfl ?hy4_42 ?rest4_42; (case hy4_42 => intro w hSw; (try dsimp only at hSw); go_simp; first | done | with_reducible rfl))
            (try simp only [Act.put, pq])
            (refine tk (i := 5) (oi := ⟨some 47, _, _, _, _, _⟩) (v := ?v5_42) rfl ?hy5_42 ?rest5_42; (case hy5_42 => intro w hSw; (try dsimp only at hSw); go_simp; first | done | with_reducible rfl))
            (try simp only [Act.put, pq])
            (refine tk (i := 6) (oi := ⟨some 48, _, _, _, _, _⟩) (v := ?v6_42) rfl ?hy6_42 ?rest6_42; (case hy6_42 => intro w hSw; (try dsimp only at hSw); go_simp; first | done | with_reducible rfl))
            (try simp only [Act.put, pq])
            refine wpAnyH_ready (rs := [1, 7]) (by kernel_rfl) (by simp) ?_
            refine AllReadyH.cons (o := ⟨some 43, _, _, _, _, _⟩) rfl (fun K hK => ?_) (AllReadyH.cons (o := ⟨some 49, _, _, _, _, _⟩) rfl (fun K hK => ?_) AllReadyH.nil)
            · go_simp
              refine hK.out _ _ ?_ (fun hHeld => ?_)
              · (try dsimp only)
                first | assumption | go_keep | exact ⟨(e9.out _).2.2.2.1, (e9.out _).2.1⟩
              clear hK K
              (try simp only [Act.put, pq])
              refine wpAnyH_ready (rs := [7]) (by kernel_rfl) (by simp) ?_
              refine AllReadyH.cons (o := ⟨some 49, _, _, _, _, _⟩) rfl (fun K hK => ?_) AllReadyH.nil
              go_simp
              refine hK.out _ _ ?_ (fun hHeld => ?_)
              · (try dsimp only)
                first | assumption | go_keep | exact ⟨(e9.out _).2.2.2.1, (e9.out _).2.1⟩
              clear hK K
              (try simp only [Act.put, pq])
              refine wpAnyH_ready (rs := [8]) (by kernel_rfl) (by simp) ?_
              refine AllReadyH.cons (o := ⟨some 50, _, _, _, _, _⟩) rfl (fun K hK => ?_) AllReadyH.nil
              refine step_append_lies _ (by rfl) (.tmp 43) (.tmp 49) 23 (by rfl) w2.heap.size 3 i0 (.int .i64 0) 1 8 Tryz.underlying23 hi0 hz0 hz1 hz2 rfl (by decide) ut k (ints ((trl st ax).take k)) (by rfl) (HO1.out.2.1.alloc _) ⟨wc.heap.size, 0, none⟩ 1 1 [.int .i64 s] (by rfl) rfl (cell_one_new _ _ _) (by simp [Value.oneCell']) (by decide) (by unfold maxLen; omega) (by omega) (by simp; omega) (wc.heap.size + 1) (by simp) ?_
              intro g9 cp9 w9 hown hgrow hat _
              have Q9 := Lib.hid (And.intro hown (tr_step ZB1.out HO1.out.2.1 HO1.out.1 (fun g a b => HO1.out.2.2 g b a) HB1.out hgrow hat))
              obtain ⟨_, p0, _, _, h0, _⟩ := blk3 Q9.out.2.1
              obtain ⟨_, q1, _, q0, _⟩ := OLD.out w9 Q9.out.2.2.1
              have e9 := Lib.hid (fun (z : Value) => OLD.out _ (Q9.out.2.2.1.setCell (p := ⟨w2.heap.size, 1, none⟩) (Nat.le_refl _) z))
              clear hown hgrow hat
              refine hK.out _ _ ?_ (fun hHeld => ?_)
              · (try dsimp only)
                first | assumption | go_keep | exact ⟨(e9.out _).2.2.2.1, (e9.out _).2.1⟩
              clear hK K
              (try simp only [Act.put, pq])
              refine wpAnyH_ready (rs := [9]) (by kernel_rfl) (by simp) ?_
              refine AllReadyH.cons (o := ⟨some 51, _, _, _, _, _⟩) rfl (fun K hK => ?_) AllReadyH.nil
              go_simp
              refine hK.out _ _ ?_ (fun hHeld => ?_)
              · (try dsimp only)
                first | assumption | go_keep | exact ⟨(e9.out _).2.2.2.1, (e9.out _).2.1⟩
              clear hK K
              (try simp only [Act.put, pq])
              refine wpAnyH_ready (rs := [10]) (by kernel_rfl) (by simp) ?_
              refine AllReadyH.cons (o := ⟨none, _, _, _, _, _⟩) rfl (fun K hK => ?_) AllReadyH.nil
              go_simp
              refine hK.out _ _ ?_ (fun hHeld => ?_)
              · (try dsimp only)
                first | assumption | go_keep | exact ⟨(e9.out _).2.2.2.1, (e9.out _).2.1⟩
              clear hK K
              (try simp only [Act.put, pq])
              refine wpAnyH_done (by kernel_rfl) ?_ _
              go_wp2
              refine ⟨⟨k + 1, u1, .slice (some ⟨g9, 0, none⟩) (k + 1) cp9, by omega, by go_num, Q9.out.2.1.set_ 1 _, ⟨own_set Q9.out.2.2.2.1 Q9.out.2.1, ?_, ?_⟩, Q9.out.2.2.1.setCell (Nat.le_refl _) _⟩, by simp [intOf]; omega⟩
              · rw [EA.out.2, ints_snoc]; exact own_set Q9.out.1 Q9.out.2.1
              · intro g e e2; cases e2; exact Q9.out.2.2.2.2 e
            · go_simp
              refine hK.out _ _ ?_ (fun hHeld => ?_)
              · (try dsimp only)
                first | assumption | go_keep | exact ⟨(e9.out _).2.2.2.1, (e9.out _).2.1⟩
              clear hK K
              (try simp only [Act.put, pq])
              refine wpAnyH_ready (rs := [1]) (by kernel_rfl) (by simp) ?_
              refine AllReadyH.cons (o := ⟨some 43, _, _, _, _, _⟩) rfl (fun K hK => ?_) AllReadyH.nil
              go_simp
              refine hK.out _ _ ?_ (fun hHeld => ?_)
              · (try dsimp only)
                first | assumption | go_keep | exact ⟨(e9.out _).2.2.2.1, (e9.out _).2.1⟩
              clear hK K
              (try simp only [Act.put, pq])
              refine wpAnyH_ready (rs := [8]) (by kernel_rfl) (by simp) ?_
              refine AllReadyH.cons (o := ⟨some 50, _, _, _, _, _⟩) rfl (fun K hK => ?_) AllReadyH.nil
              refine step_append_lies _ (by rfl) (.tmp 43) (.tmp 49) 23 (by rfl) w2.heap.size 3 i0 (.int .i64 0) 1 8 Tryz.underlying23 hi0 hz0 hz1 hz2 rfl (by decide) ut k (ints ((trl st ax).take k)) (by rfl) (HO1.out.2.1.alloc _) ⟨wc.heap.size, 0, none⟩ 1 1 [.int .i64 s] (by rfl) rfl (cell_one_new _ _ _) (by simp [Value.oneCell']) (by decide) (by unfold maxLen; omega) (by omega) (by simp; omega) (wc.heap.size + 1) (by simp) ?_
              intro g9 cp9 w9 hown hgrow hat _
              have Q9 := Lib.hid (And.intro hown (tr_step ZB1.out HO1.out.2.1 HO1.out.1 (fun g a b => HO1.out.2.2 g b a) HB1.out hgrow hat))
              obtain ⟨_, p0, _, _, h0, _⟩ := blk3 Q9.out.2.1
              obtain ⟨_, q1, _, q0, _⟩ := OLD.out w9 Q9.out.2.2.1
              have e9 := Lib.hid (fun (z : Value) => OLD.out _ (Q9.out.2.2.1.setCell (p := ⟨w2.heap.size, 1, none⟩) (Nat.le_refl _) z))
              clear hown hgrow hat
              refine hK.out _ _ ?_ (fun hHeld => ?_)
              · (try dsimp only)
                first | assumption | go_keep | exact ⟨(e9.out _).2.2.2.1, (e9.out _).2.1⟩
              clear hK K
              (try simp only [Act.put, pq])
              refine wpAnyH_ready (rs := [9]) (by kernel_rfl) (by simp) ?_
              refine AllReadyH.cons (o := ⟨some 51, _, _, _, _, _⟩) rfl (fun K hK => ?_) AllReadyH.nil
              go_simp
              refine hK.out _ _ ?_ (fun hHeld => ?_)
              · (try dsimp only)
                first | assumption | go_keep | exact ⟨(e9.out _).2.2.2.1, (e9.out _).2.1⟩
              clear hK K
              (try simp only [Act.put, pq])
              refine wpAnyH_ready (rs := [10]) (by kernel_rfl) (by simp) ?_
              refine AllReadyH.cons (o := ⟨none, _, _, _, _, _⟩) rfl (fun K hK => ?_) AllReadyH.nil
              go_simp
              refine hK.out _ _ ?_ (fun hHeld => ?_)
              · (try dsimp only)
                first | assumption | go_keep | exact ⟨(e9.out _).2.2.2.1, (e9.out _).2.1⟩
              clear hK K
              (try simp only [Act.put, pq])
              refine wpAnyH_done (by kernel_rfl) ?_ _
              go_wp2
              refine ⟨⟨k + 1, u1, .slice (some ⟨g9, 0, none⟩) (k + 1) cp9, by omega, by go_num, Q9.out.2.1.set_ 1 _, ⟨own_set Q9.out.2.2.2.1 Q9.out.2.1, ?_, ?_⟩, Q9.out.2.2.1.setCell (Nat.le_refl _) _⟩, by simp [intOf]; omega⟩
              · rw [EA.out.2, ints_snoc]; exact own_set Q9.out.1 Q9.out.2.1
              · intro g e e2; cases e2; exact Q9.out.2.2.2.2 e
        · obtain rfl : k = ax.length := by omega
          have h1 := HO.out.1
          have h2 := HO.out.2.1
          rw [List.take_of_length_le (by rw [trl_len]; exact Nat.le_refl _)] at h1 h2
          have hn1 := trl_len sh ax
          have hn2 := trl_len st ax
          rw [← hn1] at h1
          obtain ⟨o1, c1', e1, _⟩ := Ld.of_owns h1
          rw [← hn2] at h2
          obtain ⟨o2, c2', e2, _⟩ := Ld.of_owns h2
          subst e1 e2
          have HN := Lib.hid (And.intro hn1 hn2)
          have HF := Lib.hid (And.intro h1 h2)
          have ap := Lib.hid HO.out.2.2
          have ZF := Lib.hid (Y1.out.below HB.out (by omega))
          obtain ⟨d0, d1, d2, f0, f1, f2⟩ := blk3 ZF.out
          obtain ⟨t0, t1, t2, _⟩ := blk3 hb
          clear hn1 hn2 h1 h2 HO
          go_wp2
          refine bodyPost_ret (v := .tuple #[.agg #[.slice o1 (trl sh ax).length c1', .slice o2 (trl st ax).length c2', .int .i64 off], .int .i64 0]) (by simp [results, Tryz.results105, go_sem, d0, d1, d2]) rfl ?_
          rw [R.out]
          exact someV_end (Nat.le_succ _) (B2.out.trans (HB.out.mono b2s)) ZF.out rfl rfl (Ov.base ⟨HF.out.1, HF.out.2, ap.out⟩ b2s)
end Go.Proofs.YtmafgdinegboeaaGreat
namespace Go.Proofs.YtmafgdinegboeaaGreat
open Go.RowKit Go.Shelf
attribute [local go_sem] Oper.semAt_some

def Dt (st i : List Int) (T p : Int) (k : Nat) : Prop := k ≤ st.length ∧ 0 ≤ p ∧ p + dot (st.drop k) (i.drop k) = T
theorem dot_nn : ∀ {st i : List Int}, (∀ s ∈ st, 0 ≤ s) → (∀ x ∈ i, 0 ≤ x) → 0 ≤ dot st i
  | [], _, _, _ => by simp [dot]
  | _ :: _, [], _, _ => by simp [dot]
  | s :: r, x :: t, hs, hi => by
    have h1 := hs s (List.mem_cons_self ..)
    have h2 := hi x (List.mem_cons_self ..)
    have ih := dot_nn (st := r) (i := t) (fun y hy => hs y (List.mem_cons_of_mem _ hy)) (fun y hy => hi y (List.mem_cons_of_mem _ hy))
    have := Int.mul_nonneg h2 h1
    simp only [dot]
    omega
theorem dt_step {st i : List Int} {T p : Int} {k : Nat} (h : Dt st i T p k) (hl : st.length = i.length) (hs : ∀ s ∈ st, 0 ≤ s) (hi : ∀ x ∈ i, 0 ≤ x) (hk : k < st.length) :
    Dt st i T (p + i.getD k 0 * st.getD k 0) (k + 1) ∧ 0 ≤ i.getD k 0 * st.getD k 0 ∧ i.getD k 0 * st.getD k 0 ≤ T ∧ p + i.getD k 0 * st.getD k 0 ≤ T ∧ 0 ≤ p + i.getD k 0 * st.getD k 0 := by
  obtain ⟨a, b, c⟩ := h
  have h1 := hs _ (getD_mem hk)
  have h2 := hi _ (getD_mem (show k < i.length by omega))
  have h3 := Int.mul_nonneg h2 h1
  have h4 := dot_nn (st := st.drop (k + 1)) (i := i.drop (k + 1)) (fun s hs' => hs s (List.mem_of_mem_drop hs')) (fun x hx => hi x (List.mem_of_mem_drop hx))
  rw [dot_step hl hk] at c
  exact ⟨⟨by omega, by omega, by omega⟩, h3, by omega, by omega, by omega⟩
theorem dt_end {st i : List Int} {T p : Int} (h : Dt st i T p st.length) (hl : st.length = i.length) : p = T := by
  obtain ⟨_, _, c⟩ := h
  rw [List.drop_length, hl, List.drop_length] at c
  simpa [dot] using c
theorem atl_nn {s : List Int} {n : Int} (h : pos s) (h0 : 0 ≤ n) (h1 : n < prod s) : ∀ x ∈ atl s n, 0 ≤ x := by
  intro x hx
  obtain ⟨i, hi, rfl⟩ := List.mem_iff_getElem.1 hx
  have hh := inx_iff.1 (atl_inx s n h h0 h1)
  have := hh.2 i (by rw [hh.1]; exact hi)
  simpa [List.getD, List.getElem?_eq_getElem hi] using this.1

def KV (S : Nat → Prop) (W W' : World) : Prop := (∀ k, S k → W'.heap[k]? = W.heap[k]?) ∧ ∀ (k : Nat) (cs : Array Value) (t : TypeId) (fz : Nat × Nat), W.heap[k]? = some (Obj.cells cs t fz) → t = 3 ∨ t = 23 ∨ t = 263 → W'.heap[k]? = W.heap[k]?
theorem KV.trans {S : Nat → Prop} {a b c : World} (h : KV S a b) (k : KV S b c) : KV S a c :=
  ⟨fun i hi => (k.1 i hi).trans (h.1 i hi), fun i cs t fz e ht => (k.2 i cs t fz ((h.2 i cs t fz e ht).trans e) ht).trans (h.2 i cs t fz e ht)⟩
def plc (sh st : List Int) (off : Int) (x : Nat) : Array Value := #[.int .i64 (x : Nat), .int .i64 (off + dot st (atl sh (x : Nat)))]
theorem ld_kept {W W' : World} {row : Option Nat} {v : Value} {ls : List Int} (h : Ld W v ls) (hg : W.grownBy W' row) (hr : ∀ r, row = some r → ∃ o : Obj, W.heap[r]? = some o ∧ o.isCells = false) : Ld W' v ls := by
  obtain ⟨o, c, rfl, hc, hx⟩ := h
  refine ⟨o, c, rfl, hc, fun i hi => ?_⟩
  obtain ⟨b, f, e, hb, hcell⟩ := hx i hi
  exact ⟨b, f, e, Nat.lt_of_lt_of_le hb hg.size, cell_kept hcell hg hr⟩
theorem own_kept {W W' : World} {row : Option Nat} {base n : Nat} {e : TypeId} {v : Value} {xs : List Value} (h : W.ownsRow base e 1 v n xs) (hg : W.grownBy W' row) (hr : ∀ r, row = some r → ∃ o : Obj, W.heap[r]? = some o ∧ o.isCells = false) : W'.ownsRow base e 1 v n xs := by
  refine h.kept hg ?_
  rcases h.2 with ⟨rfl, _⟩ | ⟨g, cap, cur, rfl, _, hh, _⟩
  · exact .inl rfl
  · right
    intro e2
    obtain ⟨o, ho, hc⟩ := hr g e2.symm
    rw [hh] at ho
    cases ho
    cases hc
def Pl (W : World) (bV By : Nat) (l : Nat) (vs vt : Value) (off : Int) (st : List Int) (base B1 B2 : Nat) (N : Int) (o : Option Addr) (c : Nat) (sh : List Int) : Prop := Blk W bV 168 #[vs, vt, .int .i64 off] ∧ Ld W vt st ∧ Boxed W By 263 (.func (.yield l) #[] #[]) ∧ AllBox2 W base B1 B2 N o c sh
theorem pl_own {β : Type} (bV By l : Nat) (vs vt : Value) (off : Int) (st : List Int) (base B1 B2 : Nat) (N : Int) (o : Option Addr) (c : Nat) (sh : List Int) : Own (fun (_ : β) W => Pl W bV By l vs vt off st base B1 B2 N o c sh) := fun s X Y row hs hg hr =>
  ⟨blk_own (β := β) bV _ (fun _ => _) s X Y row hs.1 hg hr, ld_kept hs.2.1 hg hr, boxed_own (β := β) _ _ (fun _ => _) s X Y row hs.2.2.1 hg hr, boxed_own (β := β) _ _ (fun _ => _) s X Y row hs.2.2.2.1 hg hr, boxed_own (β := β) _ _ (fun _ => _) s X Y row hs.2.2.2.2.1 hg hr, own_kept hs.2.2.2.2.2 hg hr⟩
theorem pl_kv {S : Nat → Prop} {W W' : World} {bV By l : Nat} {vs vt : Value} {off : Int} {st : List Int} {base B1 B2 : Nat} {N : Int} {o : Option Addr} {c : Nat} {sh : List Int} (h : Pl W bV By l vs vt off st base B1 B2 N o c sh) (hk : KV S W W') (hsz : W.heap.size ≤ W'.heap.size) (hV : S bV) (hT : ∀ i, i < st.length → ∃ b f c, vt = .slice (some ⟨b, f, none⟩) st.length c ∧ S b) :
    Pl W' bV By l vs vt off st base B1 B2 N o c sh ∧ Kp3 B1 B2 o W W' := by
  obtain ⟨h1, h2, h3, h4, h5, h6⟩ := h
  have k4 := hk.2 B1 _ _ _ h4 (.inl rfl)
  have k5 := hk.2 B2 _ _ _ h5 (.inr (.inl rfl))
  have k6 : ∀ g, o = some ⟨g, 0, none⟩ → W'.heap[g]? = W.heap[g]? := by
    intro g e
    rcases h6.2 with ⟨e1, _⟩ | ⟨g', cap, cur, e1, _, hh, _⟩
    · simp only [Value.slice.injEq] at e1
      rw [e1.1] at e; cases e
    · simp only [Value.slice.injEq] at e1
      rw [e1.1] at e
      simp only [Option.some.injEq, Addr.mk.injEq, and_true] at e
      subst e
      exact hk.2 _ _ _ _ hh (.inl rfl)
  have kp : Kp3 B1 B2 o W W' := ⟨k4, k5, k6⟩
  refine ⟨⟨(hk.1 bV hV).trans h1, ?_, (hk.2 By _ _ _ h3 (.inr (.inr rfl))).trans h3, k4.trans h4, k5.trans h5, kp.own h6⟩, kp⟩
  obtain ⟨o2, c2, rfl, hc, hx⟩ := h2
  refine ⟨o2, c2, rfl, hc, fun i hi => ?_⟩
  obtain ⟨b, f, e, hb, hcell⟩ := hx i hi
  obtain ⟨b', f', c', e2, hS⟩ := hT i hi
  simp only [Value.slice.injEq] at e2
  rw [e] at e2
  simp only [Option.some.injEq, Addr.mk.injEq, and_true] at e2
  refine ⟨b, f, e, by omega, ?_⟩
  rw [← hcell]
  simp [World.cell?, hk.1 b (by rw [e2.1.1]; exact hS)]

set_option maxRecDepth 100000 in
set_option maxHeartbeats 4000000 in
theorem places1_told (n : Nat) (h5 : 5 ≤ n) (S : Nat → Prop) (bV : Nat) (vs vt : Value) (sh st : List Int) (off : Int) (N : Nat) (w : World) (hbV : Blk w bV 168 #[vs, vt, .int .i64 off]) (hs : Ld w vs sh) (ht : Ld w vt st) (hm : may sh = true) (hl : st.length = sh.length) (hst : sts st) (ho : 0 ≤ off) (hfar : off + far st sh < 65536) (hN : (N : Int) = prod sh)
    (hV : S bV) (hT : ∀ i, i < st.length → ∃ b f c, vt = .slice (some ⟨b, f, none⟩) st.length c ∧ S b) :
    SeqTold2 Fence.wide n Tryz.prog 208 #[.pointer (some ⟨bV, 0, none⟩)] (plc sh st off) (KV S) (fun pre x _ => x = pre.length) (fun ys => ys.length = N) (fun pre => pre.length ≤ N) N w := by
  intro l J Jx W hW hlW hJ hJx hY h0
  have hN6 : N ≤ 65536 := by have := may_prod hm; omega
  have HW1 : Below W.heap.size W (W.alloc (.cells #[.func (.yield l) #[] #[]] 263)) := (Below.refl _ _).alloc (Nat.le_refl _) _
  have hsW := hs.below hW
  have htW := ht.below hW
  have bW := hbV.below hW hbV.lt
  have CA : Hid (∀ m, (W.alloc (.cells #[.func (.yield l) #[] #[]] 263)).heap.size = m → Calls Tryz.prog 73 #[vs] (W.alloc (.cells #[.func (.yield l) #[] #[]] 263)) fun e w' => ∃ B1 B2 o c, e = .returned (.func (.func 148) #[] #[.pointer (some ⟨B1, 0, none⟩), .pointer (some ⟨B2, 0, none⟩)]) ∧ AllBox2 w' m B1 B2 N o c sh ∧ m ≤ B1 ∧ m ≤ B2 ∧ Below m (W.alloc (.cells #[.func (.yield l) #[] #[]] 263)) w') := fun m hmm => by
    subst hmm
    have := all2_any vs sh _ (hsW.below HW1) (by have := may_len hm; omega)
    rw [hm, if_pos rfl, ← hN] at this
    exact this
  replace CA := Lib.hid (CA.out (W.heap.size + 1) (by simp))
  have BV1 := Lib.hid (bW.alloc (.cells #[.func (.yield l) #[] #[]] 263))
  obtain ⟨c0, c1, c2, _⟩ := blk3 BV1.out
  have l4 := may_len hm
  have HP := Lib.hid (And.intro hm (And.intro hl (And.intro hst (And.intro hfar hN))))
  obtain ⟨os, cs, rfl, _, _⟩ := hsW
  obtain ⟨ot, ct, rfl, _, _⟩ := id htW
  have HTW := Lib.hid htW
  clear hs ht hbV hst hfar hN htW
  refine callsIn_of_wp_marks Tryz.func208 rfl trivial ?_
  simp only [Tryz.ntmps208, List.size_toArray, List.length_cons, List.length_nil, Nat.reduceAdd, Nat.reduceSub, Array.replicate_succ, Array.replicate_zero, List.push_toArray, List.append_toArray, List.nil_append, List.cons_append]
  refine wpIn_wide.2 ?_
  go_wp2_with (go_at_call 73; (with_reducible refine CA.out.mono ?_); rintro e w3 ⟨B1, B2, o3, c3, rfl, hbox, hB1, hB2, hb3⟩)
  have by0 : Boxed w3 W.heap.size 263 (.func (.yield l) #[] #[]) := (hb3.block W.heap.size (by omega)).trans (Boxed.new W _ _)
  have P0 : Pl w3 bV W.heap.size l (.slice os sh.length cs) (.slice ot st.length ct) off st (W.heap.size + 1) B1 B2 N o3 c3 sh :=
    ⟨BV1.out.below hb3 (by have := bW.lt; omega), (HTW.out.below HW1).keep (by simp) hb3, by0, hbox⟩
  have BW3 : Below W.heap.size W w3 := HW1.trans (hb3.mono (by omega))
  have J3 : J [] w3 := hJ [] W w3 none h0 ⟨BW3.os, BW3.tape, BW3.output, BW3.size, fun k hk _ => BW3.block k hk⟩ (fun r e => by cases e)
  have s3 := BW3.size
  have TO := Lib.hid (all3_told (n - 1) (W.heap.size + 1) B1 B2 N (by omega) o3 c3 sh hN6 (fun _ => ⟨HP.out.1, HP.out.2.2.2.2.symm⟩) w3 hbox)
  have HPL := Lib.hid P0
  clear hbox by0 P0 hb3 CA
  refine (wpIn_wide (n := n)).1 ?_
  refine wpIn_rangeFunc_told (F := Fence.wide) (n := n) rfl (by omega) (gf := 148) (lb := #[.pointer (some ⟨B1, 0, none⟩), .pointer (some ⟨B2, 0, none⟩)]) rfl trivial (enters_of Tryz.func148 (by kernel_rfl) rfl)
    TO.out Kp3.trans ?keepb (fun _ => rfl)
    (fun pre W' => J (List.range pre.length) W' ∧ Pl W' bV W.heap.size l (.slice os sh.length cs) (.slice ot st.length ct) off st (W.heap.size + 1) B1 B2 N o3 c3 sh)
    (fun cd pre W' => cd = .ret ∧ Jx (List.range pre.length) W')
    ?ownI ?ownX ?ownT ⟨J3, HPL.out⟩ ?a1 ?assign ?body ?done ?stop
  case keepb =>
    intro X k o o' hk _ _ _
    have hb1 := HPL.out.2.2.2.1.lt
    have hb2 := HPL.out.2.2.2.2.1.lt
    refine ⟨World.putObj_heap_other (by omega), World.putObj_heap_other (by omega), fun g e => World.putObj_heap_other ?_⟩
    subst e
    have := (HPL.out.2.2.2.2.2.lt g rfl).2
    omega
  case ownI => exact OwnFrom.and (fun s X Y row hs hg hr => hJ _ X Y row hs hg (fun r e => ⟨Nat.le_trans s3 (hr r e).1, (hr r e).2⟩)) ((pl_own (β := List (Nat × Nat)) bV W.heap.size l (.slice os sh.length cs) (.slice ot st.length ct) off st (W.heap.size + 1) B1 B2 N o3 c3 sh).from _)
  case ownX => exact fun cd => OwnFrom.and (fun _ _ _ _ h _ _ => h) (fun s X Y row hs hg hr => hJx _ X Y row hs hg (fun r e => ⟨Nat.le_trans s3 (hr r e).1, (hr r e).2⟩))
  case ownT => exact fun pre x => OwnFrom.and (fun _ _ _ _ h _ _ => h) (Own.from (blk_own _ _ (fun _ => _)) _)
  case assign =>
    intro l2 x X K hK
    unfold apr
    gi_wp2
    exact hK
  case body =>
    rintro l2 pre x X ⟨hJs, hPl⟩ hlt ⟨hx1, hx2⟩
    obtain ⟨xn, xg⟩ := x
    simp only at hx1 hx2
    subst hx1
    obtain ⟨c0, c1, c2, _⟩ := blk3 hPl.1
    obtain ⟨hm', hl', hst', hfar', hN'⟩ := HP.out
    have hp := may_pos hm'
    have h0n : (0 : Int) ≤ (pre.length : Nat) := by omega
    have h1n : ((pre.length : Nat) : Int) < prod sh := by omega
    have hlen := atl_len sh (pre.length : Nat)
    have hinx := atl_inx sh (pre.length : Nat) hp h0n h1n
    have hdb := dot_bd hl' hst' hinx
    have hnn := atl_nn hp h0n h1n
    have HD := Lib.hid (And.intro hst' (And.intro hnn (And.intro hl' hlen)))
    have HXB := Lib.hid hx2
    have HPQ := Lib.hid hPl
    have hy0 := hY (List.range pre.length) pre.length X hJs (by simpa using hlt) (by simp)
    unfold plc at hy0
    obtain ⟨fn, tmps, assign, body, hy, hR⟩ := hy0
    have HR := Lib.hid hR
    have HLD := Lib.hid hPl.2.1
    have by1 := hPl.2.2.1.cell
    have EQ1 : Hid (List.range pre.length ++ [pre.length] = List.range (pre ++ [(pre.length, xg)]).length) := by
      rw [List.length_append, List.length_singleton, List.range_succ]; exact Lib.hid rfl
    generalize hT0 : off + dot st (atl sh (pre.length : Nat)) = T at *
    have hTT : 0 ≤ T ∧ T ≤ 65536 := by omega
    have DS : Hid (Dt st (atl sh (pre.length : Nat)) T off 0) := ⟨Nat.zero_le _, ho, by simpa using hT0⟩
    clear hx2 hPl hJs hm' hl' hst' hfar' hN' hp hinx hdb hnn hR hT0
    generalize atl sh (pre.length : Nat) = ix0 at *
    have hoff : off ≤ 65536 := by
      have := DS.out.2.2
      have h2 := dot_nn (st := st) (i := ix0) (fun s hs => (HD.out.1 s hs).1) HD.out.2.1
      simp at this
      omega
    gi_wp2
    gi_loopw [5, 18] (fun s5 s18 wr => ∃ (k : Nat) (p : Int), k ≤ st.length ∧ 0 ≤ p ∧ p ≤ 65536 ∧ s18 = .int .i64 k ∧ s5 = .int .i64 p ∧ Hid (Dt st ix0 T p k) ∧ X = wr) (fun _ s18 _ => st.length - (intOf s18).toNat)
    case atStart => exact ⟨0, off, Nat.zero_le _, ho, hoff, rfl, rfl, DS, rfl⟩
    case round =>
      obtain ⟨k, p, hk, p0, p1, rfl, rfl, HK, rfl⟩ := hrel
      by_cases hlt2 : k < st.length
      · obtain ⟨o2, c2', e2, _, hx⟩ := HLD.out
        simp only [Value.slice.injEq] at e2
        obtain ⟨rfl, _, rfl⟩ := e2
        obtain ⟨b2, f2, rfl, _, xc⟩ := hx k hlt2
        have kx := HXB.out.cell k
        have hi := HD.out.2.2.2
        have hl2 := HD.out.2.2.1
        rw [ints_at (by omega)] at kx
        obtain ⟨st1, t0, t1, t2, t3⟩ := dt_step HK.out (by omega) (fun s hs => (HD.out.1 s hs).1) HD.out.2.1 hlt2
        have ST := Lib.hid st1
        have klt : k < sh.length := by omega
        clear st1 hx hi hl2
        generalize ix0.getD k 0 = y at *
        generalize st.getD k 0 = s at *
        have q1 : y * s ≤ 65536 := by omega
        have q2 : p + y * s ≤ 65536 := by omega
        gi_wp2
        go_roundw
        case rel => exact ⟨k + 1, p + y * s, by omega, t3, q2, by go_num, rfl, ST, by first | trivial | rfl⟩
        case measure => simp [intOf]; omega
      · obtain rfl : k = st.length := by omega
        obtain rfl := dt_end HK.out (by have := HD.out.2.2; omega)
        gi_wp2
        refine ⟨(fun h => by cases h), (oround_any HR.out).mono ?_⟩
        rintro e W3 ⟨hkf, (⟨rfl, hJ3, hk3⟩ | ⟨rfl, hJx3⟩)⟩
        · obtain ⟨hp3, hkp3⟩ := pl_kv HPQ.out hk3 hkf.size hV hT
          rw [EQ1.out] at hJ3
          have F3 := Lib.hid (And.intro (⟨hkf.size, fun i o hi hx hc => hkf.same i o (Nat.le_trans s3 hi) hx hc⟩ : KeepsFrom w3.heap.size X W3) (And.intro hkp3 (And.intro hJ3 hp3)))
          clear hkf hJ3 hk3 hp3 hkp3
          gi_wp2
          exact F3.out
        · rw [EQ1.out] at hJx3
          have F3 := Lib.hid (And.intro (⟨hkf.size, fun i o hi hx hc => hkf.same i o (Nat.le_trans s3 hi) hx hc⟩ : KeepsFrom w3.heap.size X W3) hJx3)
          clear hkf hJx3
          gi_wp2
          exact ⟨F3.out.1, rfl, F3.out.2⟩
  case done =>
    rintro D ys X hD hys ⟨hJs, _⟩ hK
    have hf := hJ.putObj (.deferred none) hJs (Nat.le_trans s3 hD) hK rfl
    go_wp2
    refine ⟨by simp, .inl ⟨_, _, rfl, run_takeDeferred hK, ?_⟩⟩
    refine ⟨_, results_none rfl _ _ _, ⟨_, rfl⟩, .inl ⟨List.range ys.length, by simp [hys], hf⟩⟩
  case stop =>
    rintro D cd pre X hD hpre ⟨rfl, hJs⟩ hK
    have hf := hJx.putObj (.deferred none) hJs (Nat.le_trans s3 hD) hK rfl
    gi_wp2
    go_wp2
    refine ⟨by simp, .inl ⟨_, _, rfl, run_takeDeferred hK, ?_⟩⟩
    refine ⟨_, results_none rfl _ _ _, ⟨_, rfl⟩, .inr ⟨List.range pre.length, by simpa using hpre, hf⟩⟩
end Go.Proofs.YtmafgdinegboeaaGreat
