/-
  package reduce: are these axes? what words go where.
  package reduce: where the words of a tensor go (reduced), and the place under an index.
-/
import Derived.Deep.AppendLies
import Derived.BigQuiet
import Derived.Deep.RegionHeld3
import Derived.Deep.DeepCutAuto
import Derived.Test.YtmafgdinegboeaaGreatM13
import Derived.Test.YtmafgdinegboeaaGreatM15
namespace Go.Proofs.YtmafgdinegboeaaGreat
open Go Go.RowKit Go.Shelf

set_option maxRecDepth 100000 in
set_option maxHeartbeats 4000000 in
theorem areaxes_any (v : Value) (ax : List Int) (n : Nat) (w : World) (h : Ld w v ax) (hl : ax.length ≤ 17592186044416) :
    Calls Tryz.prog 144 #[v, .int .i64 (n : Nat)] w fun e w' => e = .returned (.bool (axb (n : Int) ax (-1))) ∧ w = w' := by
  obtain ⟨o, c, rfl, _, hx⟩ := h
  have HX := Lib.hid hx
  clear hx
  obtain ⟨Q, hQ⟩ : ∃ Q, Q = axb (n : Int) ax (-1) := ⟨_, rfl⟩
  rw [← hQ]
  have HQ := Lib.hid hQ
  clear hQ
  go_enter Tryz.func144, Tryz.ntmps144
  go_wp2
  go_step3
  go_wp2
  go_step3
  go_wp2
  go_loopw [5, 6, 11] (fun s5 s6 s11 wr => ∃ (k : Nat) (l : Int), k ≤ ax.length ∧ s5 = .int .i64 l ∧ s6 = .bool true ∧ s11 = .int .i64 k ∧ Hid (Q = axb (n : Int) (ax.drop k) l) ∧ Hid (w = wr)) (fun _ _ s11 _ => ax.length - (intOf s11).toNat)
  case atStart => exact ⟨0, -1, Nat.zero_le _, rfl, rfl, rfl, HQ, Lib.hid rfl⟩
  case round =>
    obtain ⟨k, l, hk, rfl, rfl, rfl, HK, HW⟩ := hrel
    by_cases hlt : k < ax.length
    · obtain ⟨b, f, rfl, h1, c0⟩ := HX.out k hlt
      have hw := HW.out
      subst hw
      have HP := Lib.hid (fun h1 h2 => HK.out.trans (axb_step (n := (n : Int)) (l := l) hlt h1 h2))
      have HS := Lib.hid (fun h1 => HK.out.trans (axb_stop (n := (n : Int)) (l := l) hlt h1))
      generalize ax.getD k 0 = x at *
      have HLT := Lib.hid hlt
      by_cases g1 : x ≤ l
      · have R := Lib.hid (HS.out (by omega))
        clear HP HS HK
        go_wp2
        go_ret
        exact ⟨by rw [R.out]; rfl, rfl⟩
      · by_cases g2 : (n : Int) ≤ x
        · have R := Lib.hid (HS.out (by omega))
          clear HP HS HK
          go_wp2
          go_ret
          exact ⟨by rw [R.out]; rfl, rfl⟩
        · have R := Lib.hid (HP.out (by omega) (by omega))
          clear HP HS HK
          go_wp2
          exact ⟨⟨k + 1, x, by have := HLT.out; omega, rfl, rfl, by go_num, R, by first | exact Lib.hid rfl | exact Lib.hid trivial⟩, by have := HLT.out; simp [intOf]; omega⟩
    · have R : Hid (Q = true) := Lib.hid (by rw [HK.out, List.drop_of_length_le (by omega)]; rfl)
      have hw := HW.out
      subst hw
      clear HK
      go_wp2
      go_ret
      exact ⟨by rw [R.out]; rfl, rfl⟩
end Go.Proofs.YtmafgdinegboeaaGreat
namespace Go.Proofs.YtmafgdinegboeaaGreat
open Go Go.RowKit Go.Shelf

theorem blk4 {W : World} {b : Nat} {t : TypeId} {v0 v1 v2 v3 : Value} (h : Blk W b t #[v0, v1, v2, v3]) : W.cell? ⟨b, 0, none⟩ = some v0 ∧ W.cell? ⟨b, 1, none⟩ = some v1 ∧ W.cell? ⟨b, 2, none⟩ = some v2 ∧ W.cell? ⟨b, 3, none⟩ = some v3 :=
  ⟨h.cell 0, h.cell 1, h.cell 2, h.cell 3⟩
theorem frz4 {W : World} {b : Nat} {t : TypeId} {v0 v1 v2 v3 : Value} (h : Blk W b t #[v0, v1, v2, v3]) : W.frozen? ⟨b, 0, none⟩ = false ∧ W.frozen? ⟨b, 1, none⟩ = false ∧ W.frozen? ⟨b, 2, none⟩ = false ∧ W.frozen? ⟨b, 3, none⟩ = false :=
  ⟨h.frozen 0, h.frozen 1, h.frozen 2, h.frozen 3⟩
/-- Where the words go, in new memory. -/
def SomeG (w : World) (vs : Value) (sh ax : List Int) (e : Ending) (w' : World) : Prop := ∃ o1 c1 o2 c2, e = .returned (.tuple #[.agg #[vs, .slice o1 sh.length c1, .slice o2 (lf sh ax 0).length c2, .int .i64 (prod (lf sh ax 0))], .int .i64 0]) ∧
  Hid (Ld w' (.slice o1 sh.length c1) (ons sh ax 0)) ∧ Hid (w'.ownsRow w.heap.size 3 1 (.slice o2 (lf sh ax 0).length c2) (lf sh ax 0).length (ints (lf sh ax 0))) ∧ Below w.heap.size w w'
theorem own_ld {W : World} {base n c : Nat} {o : Option Addr} {e : TypeId} {ls : List Int} (h : W.ownsRow base e 1 (.slice o n c) n (ints ls)) (hn : ls.length = n) : Ld W (.slice o n c) ls := by
  subst hn
  obtain ⟨_, _, e1, h3⟩ := Ld.of_owns h
  simp only [Value.slice.injEq] at e1
  obtain ⟨rfl, _, rfl⟩ := e1
  exact h3
theorem own_at {W : World} {base g n c i : Nat} {ls : List Int} {e : TypeId} (h : W.ownsRow base e 1 (.slice (some ⟨g, 0, none⟩) n c) n (ints ls)) (hl : ls.length = n) (hi : i < n) : W.cell? ⟨g, i, none⟩ = some (.int .i64 (ls.getD i 0)) := by
  subst hl; exact own_cell h hi
theorem own_setn {w : World} {base g c i n : Nat} {ls : List Int} {e : TypeId} (h : w.ownsRow base e 1 (.slice (some ⟨g, 0, none⟩) n c) n (ints ls)) (hl : ls.length = n) (hi : i < n) (v : Int) : (w.setCell ⟨g, i, none⟩ (.int .i64 v)).ownsRow base e 1 (.slice (some ⟨g, 0, none⟩) n c) n (ints (ls.set i v)) := by
  subst hl
  have := own_put h hi v
  rwa [List.length_set] at this
theorem own_form1 {w : World} {base n : Nat} {e : TypeId} {v : Value} {xs : List Value} (h : w.ownsRow base e 1 v n xs) : ∃ o c, v = .slice o n c := by
  rcases h.2 with ⟨rfl, h0⟩ | ⟨g, cap, cur, rfl, _⟩
  · exact ⟨none, 0, by rw [h0]⟩
  · exact ⟨_, _, rfl⟩
theorem own_setx {W : World} {T base n i : Nat} {t u : TypeId} {v z : Value} {xs : List Value} {cs : Array Value} (h : W.ownsRow base t 1 v n xs) (hb : Blk W T u cs) (hne : t ≠ u) : (W.setCell ⟨T, i, none⟩ z).ownsRow base t 1 v n xs :=
  h.kept (grown_set W ⟨T, i, none⟩ z) (.inr (tens_not_row h hb hne))
set_option maxRecDepth 100000 in
set_option maxHeartbeats 4000000 in
theorem reduced_no (vs vd va : Value) (sh ds ax : List Int) (w : World) (hs : Ld w vs sh) (hd : Ld w vd ds) (ha : Ld w va ax) (l1 : sh.length ≤ 17592186044416) (l2 : ds.length ≤ 17592186044416) (l3 : ax.length ≤ 17592186044416) (h : (tnb sh ds && axb (sh.length : Nat) ax (-1)) = false) :
    Calls Tryz.prog 72 #[.agg #[vs, vd], va] w fun e w' => e = .returned (.tuple #[.agg #[.slice none 0 0, .slice none 0 0, .slice none 0 0, .int .i64 0], .int .i64 (if tnb sh ds = true then 2 else 1)]) ∧ Below w.heap.size w w' := by
  obtain ⟨w2, hw2⟩ : ∃ w2, w2 = (w.alloc (.cells #[vs, vd] 26)).alloc (.cells #[.slice none 0 0, .slice none 0 0, .slice none 0 0, .int .i64 0] 129) := ⟨_, rfl⟩
  have hsz : w2.heap.size = w.heap.size + 2 := by rw [hw2]; simp
  have B2 : Below w.heap.size w w2 := by rw [hw2]; exact ((Below.refl _ _).alloc (Nat.le_refl _) _).alloc (by simp) _
  have K0 : Hid (Blk w2 w.heap.size 26 #[vs, vd]) := by rw [hw2]; exact (Blk.new w _ _).alloc _
  have K1 : Hid (Blk w2 (w.heap.size + 1) 129 #[.slice none 0 0, .slice none 0 0, .slice none 0 0, .int .i64 0]) := by rw [hw2]; exact blk_new1 w _ _ _
  have CK : Hid (∀ n, w2.heap.size = n → Calls Tryz.prog 83 #[.agg #[vs, vd]] w2 fun e w' => e = .returned (.int .i64 (if tnb sh ds = true then 0 else 1)) ∧ Below n w2 w') := fun n hn => by
    subst hn
    exact echeck_any vs vd sh ds w2 (hs.below B2) (hd.below B2) l1 l2
  replace CK := Lib.hid (CK.out (w.heap.size + 2) hsz)
  have CA := Lib.hid (fun (W : World) (hW : Below w.heap.size w W) => areaxes_any va ax sh.length W (ha.below hW) l3)
  have HW := Lib.hid hw2
  have HB2 := Lib.hid B2
  obtain ⟨o1, n1, rfl, _, _⟩ := hs
  obtain ⟨o2, n2, rfl, _, _⟩ := hd
  obtain ⟨o3, n3, rfl, _, _⟩ := ha
  rw [hw2] at CK
  clear hw2 B2
  cases ht : tnb sh ds with
  | false =>
    rw [ht] at CK
    clear ht h CA
    go_enter Tryz.func72, Tryz.ntmps72
    go_wp2_with (first | (go_at_call 83; (with_reducible refine CK.out.mono ?_); rintro e w3 ⟨rfl, hb3⟩; rw [← HW.out] at hb3; have Z0 := Lib.hid (K0.out.below hb3 (by omega)); have Z1 := Lib.hid (K1.out.below hb3 (by omega)); have B3 := Lib.hid (HB2.out.trans (hb3.mono (by omega))); obtain ⟨c0, c1, _, _⟩ := blk2 Z0.out; obtain ⟨d0, d1, d2, d3⟩ := blk4 Z1.out; obtain ⟨f0, f1, f2, f3⟩ := frz4 Z1.out; clear hb3))
    refine bodyPost_ret (v := .tuple #[.agg #[.slice none 0 0, .slice none 0 0, .slice none 0 0, .int .i64 0], .int .i64 1]) (by simp [results, Tryz.results72, go_sem, d0, d1, d2, d3]) rfl ?_
    exact ⟨rfl, (((B3.out.setCell (p := ⟨w.heap.size + 1, 0, none⟩) (Nat.le_succ _) _).setCell (p := ⟨w.heap.size + 1, 1, none⟩) (Nat.le_succ _) _).setCell (p := ⟨w.heap.size + 1, 2, none⟩) (Nat.le_succ _) _).setCell (p := ⟨w.heap.size + 1, 3, none⟩) (Nat.le_succ _) _⟩
  | true =>
    rw [ht] at CK
    rw [ht, Bool.true_and] at h
    rw [h] at CA
    clear ht h
    go_enter Tryz.func72, Tryz.ntmps72
    go_wp2_with (first | (go_at_call 83; (with_reducible refine CK.out.mono ?_); rintro e w3 ⟨rfl, hb3⟩; rw [← HW.out] at hb3; have Z0 := Lib.hid (K0.out.below hb3 (by omega)); have Z1 := Lib.hid (K1.out.below hb3 (by omega)); have B3 := Lib.hid (HB2.out.trans (hb3.mono (by omega))); obtain ⟨c0, c1, _, _⟩ := blk2 Z0.out; obtain ⟨d0, d1, d2, d3⟩ := blk4 Z1.out; obtain ⟨f0, f1, f2, f3⟩ := frz4 Z1.out; clear hb3) | (go_at_call 144; (with_reducible refine (CA.out _ B3.out).mono ?_); rintro e w' ⟨rfl, rfl⟩))
    refine bodyPost_ret (v := .tuple #[.agg #[.slice none 0 0, .slice none 0 0, .slice none 0 0, .int .i64 0], .int .i64 2]) (by simp [results, Tryz.results72, go_sem, d0, d1, d2, d3]) rfl ?_
    exact ⟨rfl, (((B3.out.setCell (p := ⟨w.heap.size + 1, 0, none⟩) (Nat.le_succ _) _).setCell (p := ⟨w.heap.size + 1, 1, none⟩) (Nat.le_succ _) _).setCell (p := ⟨w.heap.size + 1, 2, none⟩) (Nat.le_succ _) _).setCell (p := ⟨w.heap.size + 1, 3, none⟩) (Nat.le_succ _) _⟩

set_option maxRecDepth 100000 in
set_option maxHeartbeats 8000000 in
theorem reduced_ok (vs vd va : Value) (sh ds ax : List Int) (w : World) (hs : Ld w vs sh) (hd : Ld w vd ds) (ha : Ld w va ax) (l3 : ax.length ≤ 17592186044416) (ht : tnb sh ds = true) (hax : axb (sh.length : Nat) ax (-1) = true) :
    Calls Tryz.prog 72 #[.agg #[vs, vd], va] w (SomeG w vs sh ax) := by
  obtain ⟨i0, hi0, hz0, hz1, hz2⟩ := info_parts infoI
  have hm := (tnb_parts ht).1
  have l4 := may_len hm
  have hp := may_prod hm
  have hdl := (tnb_parts ht).2.1
  obtain ⟨w2, hw2⟩ : ∃ w2, w2 = (w.alloc (.cells #[vs, vd] 26)).alloc (.cells #[.slice none 0 0, .slice none 0 0, .slice none 0 0, .int .i64 0] 129) := ⟨_, rfl⟩
  have hsz : w2.heap.size = w.heap.size + 2 := by rw [hw2]; simp
  have B2 : Below w.heap.size w w2 := by rw [hw2]; exact ((Below.refl _ _).alloc (Nat.le_refl _) _).alloc (by simp) _
  have K0 : Hid (Blk w2 w.heap.size 26 #[vs, vd]) := by rw [hw2]; exact (Blk.new w _ _).alloc _
  have K1 : Hid (Blk w2 (w.heap.size + 1) 129 #[.slice none 0 0, .slice none 0 0, .slice none 0 0, .int .i64 0]) := by rw [hw2]; exact blk_new1 w _ _ _
  have CK : Hid (∀ n, w2.heap.size = n → Calls Tryz.prog 83 #[.agg #[vs, vd]] w2 fun e w' => e = .returned (.int .i64 0) ∧ Below n w2 w') := fun n hn => by
    subst hn
    have := echeck_any vs vd sh ds w2 (hs.below B2) (hd.below B2) (by omega) (by omega)
    rwa [ht, if_pos rfl] at this
  replace CK := Lib.hid (CK.out (w.heap.size + 2) hsz)
  have CA := Lib.hid (fun (W : World) (hW : Below w.heap.size w W) => areaxes_any va ax sh.length W (ha.below hW) l3)
  rw [hax] at CA
  have CL := Lib.hid (fun (W : World) (hW : Below w.heap.size w W) => cloned_any vs sh W (hs.below hW) (by omega))
  have CC := Lib.hid (fun (x : Int) (W : World) (hW : Below w.heap.size w W) => contains_any va ax x W (ha.below hW) l3)
  have HP := Lib.hid (fun k => lf_take_prod ax hm k)
  have HD := Lib.hid (fun k hk => may_dim (i := k) hm hk)
  have HW := Lib.hid hw2
  have HB2 := Lib.hid B2
  obtain ⟨o1, n1, rfl, _, hx1⟩ := hs
  have HX := Lib.hid hx1
  obtain ⟨o2, n2, rfl, _, _⟩ := hd
  obtain ⟨o3, n3, rfl, _, _⟩ := ha
  rw [hw2] at CK
  clear hw2 B2 hx1 hm hax ht hdl hp
  go_enter Tryz.func72, Tryz.ntmps72
  go_upto_region 6 with (first | (go_at_call 83; (with_reducible refine CK.out.mono ?_); rintro e w3 ⟨rfl, hb3⟩; rw [← HW.out] at hb3; have Z0 := Lib.hid (K0.out.below hb3 (by omega)); have Z1 := Lib.hid (K1.out.below hb3 (by omega)); have B3 := Lib.hid (HB2.out.trans (hb3.mono (by omega))); obtain ⟨c0, c1, _, _⟩ := blk2 Z0.out; clear hb3) | (go_at_call 144; (with_reducible refine (CA.out _ B3.out).mono ?_); rintro e w' ⟨rfl, rfl⟩))
  have s3 := B3.out.size
  have z0l := Z0.out.lt
  have z1l := Z1.out.lt
  have KS := Lib.hid (fun (W : World) (hW : Below w3.heap.size w3 W) => (blk2 (Z0.out.below hW z0l)).1)
  go_cut [7] (fun s7 wx => ∃ (P : Nat) (o4 : Option Addr) (c4 : Nat), s7 = .pointer (some ⟨P, 0, none⟩) ∧ Hid (w3.heap.size ≤ P) ∧ Hid (Blk wx P 129 #[.slice o1 sh.length n1, .slice o4 sh.length c4, .slice none 0 0, .int .i64 1]) ∧ Hid (wx.ownsRow w3.heap.size 3 1 (.slice o4 sh.length c4) sh.length (ints sh)) ∧ Hid (Below w3.heap.size w3 wx))
  case first =>
    -- BEGIN drawn
    have B0 : Hid (Below w3.heap.size w3 w3.drew) := Lib.hid (below_drw (Below.refl _ _) 1)
    refine wp_region_held_drew (S := fun W => W.cell? ⟨w.heap.size, 0, none⟩ = some (.slice o1 sh.length n1)) (by kernel_rfl) ?_ (fun hHeld => ?_)
    · exact KS.out _ B0.out
    have hHd := hHeld
    generalize w3.drew = wd at *
    (refine wpAnyH_take (i := 0) (oi := ⟨some 23, _, _, _, _, _⟩) (v := ?v0_r1) rfl (by kernel_rfl) (by kernel_rfl) (by kernel_rfl) (fun _ _ _ h => h) (Or.inl ⟨by rfl, ?hy0_r1⟩) (by assumption) ?rest0_r1; (case hy0_r1 => ((intro w hSw); (try dsimp only at hSw); go_simp; first | done | (with_reducible rfl))))
    (try simp only [Act.put, List.setIfInBounds_toArray, List.set_cons_zero, List.set_cons_succ])
    (refine wpAnyH_take (i := 1) (oi := ⟨some 24, _, _, _, _, _⟩) (v := ?v1_r2) rfl (by kernel_rfl) (by kernel_rfl) (by kernel_rfl) (fun _ _ _ h => h) (Or.inl ⟨by rfl, ?hy1_r2⟩) (by assumption) ?rest1_r2; (case hy1_r2 => ((intro w hSw); (try dsimp only at hSw); go_simp; first | done | (with_reducible rfl))))
    (try simp only [Act.put, List.setIfInBounds_toArray, List.set_cons_zero, List.set_cons_succ])
    (refine wpAnyH_take (i := 2) (oi := ⟨some 25, _, _, _, _, _⟩) (v := ?v2_r3) rfl (by kernel_rfl) (by kernel_rfl) (by kernel_rfl) (fun _ _ _ h => h) (Or.inl ⟨by rfl, ?hy2_r3⟩) (by assumption) ?rest2_r3; (case hy2_r3 => ((intro w hSw); (try dsimp only at hSw); go_simp; first | done | (with_reducible rfl))))
    (try simp only [Act.put, List.setIfInBounds_toArray, List.set_cons_zero, List.set_cons_succ])
    (refine wpAnyH_take (i := 3) (oi := ⟨some 26, _, _, _, _, _⟩) (v := ?v3_r4) rfl (by kernel_rfl) (by kernel_rfl) (by kernel_rfl) (fun _ _ _ h => h) (Or.inl ⟨by rfl, ?hy3_r4⟩) (by assumption) ?rest3_r4; (case hy3_r4 => ((intro w hSw); (try dsimp only at hSw); go_simp; first | done | (with_reducible rfl))))
    (try simp only [Act.put, List.setIfInBounds_toArray, List.set_cons_zero, List.set_cons_succ])
    refine wpAnyH_ready (rs := [4, 6]) (by kernel_rfl) (by simp) ?_
    refine AllReadyH.cons (o := ⟨some 27, _, _, _, _, _⟩) rfl (fun K hK => ?_) (AllReadyH.cons (o := ⟨some 7, _, _, _, _, _⟩) rfl (fun K hK => ?_) (AllReadyH.nil))
    · go_simp
      (go_at_call 145; (with_reducible refine Go.Calls.mono (CL.out _ (B3.out.trans (B0.out.mono s3))) ?_); rintro e w5 ⟨o5, c5, rfl, ho5, _, hb5⟩; have b5 := Lib.hid (B0.out.trans (hb5.mono B0.out.size)); have O5 := Lib.hid (own_base (base' := w3.heap.size) ho5 B0.out.size); clear ho5 hb5)
      refine hK.out _ _ ?_ (fun hHeld => ?_)
      · (try dsimp only)
        exact KS.out _ b5.out
      clear hK K
      (try simp only [Act.put, List.setIfInBounds_toArray, List.set_cons_zero, List.set_cons_succ])
      (refine wpAnyH_take (i := 5) (oi := ⟨some 28, _, _, _, _, _⟩) (v := ?v5_r5) rfl (by kernel_rfl) (by kernel_rfl) (by kernel_rfl) (fun _ _ _ h => h) (Or.inl ⟨by rfl, ?hy5_r5⟩) (by assumption) ?rest5_r5; (case hy5_r5 => ((intro w hSw); (try dsimp only at hSw); go_simp; first | done | (with_reducible rfl))))
      (try simp only [Act.put, List.setIfInBounds_toArray, List.set_cons_zero, List.set_cons_succ])
      refine wpAnyH_ready (rs := [6]) (by kernel_rfl) (by simp) ?_
      refine AllReadyH.cons (o := ⟨some 7, _, _, _, _, _⟩) rfl (fun K hK => ?_) (AllReadyH.nil)
      go_simp
      have bA := Lib.hid (b5.out.alloc b5.out.size (.cells #[.slice none 0 0, .slice none 0 0, .slice none 0 0, .int .i64 0] 129))
      have ZA := Lib.hid (Blk.new w5 129 #[.slice none 0 0, .slice none 0 0, .slice none 0 0, .int .i64 0])
      have ZP := Lib.hid (b5.out.size)
      refine hK.out _ _ ?_ (fun hHeld => ?_)
      · (try dsimp only)
        exact KS.out _ bA.out
      clear hK K
      (try simp only [Act.put, List.setIfInBounds_toArray, List.set_cons_zero, List.set_cons_succ])
      refine wpAnyH_ready (rs := [7]) (by kernel_rfl) (by simp) ?_
      refine AllReadyH.cons (o := ⟨none, _, _, _, _, _⟩) rfl (fun K hK => ?_) (AllReadyH.nil)
      obtain ⟨p0, p1, p2, p3⟩ := blk4 ZA.out
      obtain ⟨f0, f1, f2, f3⟩ := frz4 ZA.out
      go_simp
      refine hK.out _ _ ?_ (fun hHeld => ?_)
      · (try dsimp only)
        exact KS.out _ (b5.out.alloc b5.out.size _)
      clear hK K
      (try simp only [Act.put, List.setIfInBounds_toArray, List.set_cons_zero, List.set_cons_succ])
      refine wpAnyH_done (by kernel_rfl) ?_ _
      go_wp2
      go_meet
      exact ⟨_, _, _, rfl, ZP, Lib.hid (Blk.new w5 _ _), Lib.hid (O5.out.alloc _), Lib.hid (b5.out.alloc b5.out.size _)⟩
    · go_simp
      have bA := Lib.hid (B0.out.alloc B0.out.size (.cells #[.slice none 0 0, .slice none 0 0, .slice none 0 0, .int .i64 0] 129))
      have ZA := Lib.hid (Blk.new wd 129 #[.slice none 0 0, .slice none 0 0, .slice none 0 0, .int .i64 0])
      have ZP := Lib.hid (B0.out.size)
      refine hK.out _ _ ?_ (fun hHeld => ?_)
      · (try dsimp only)
        exact KS.out _ bA.out
      clear hK K
      (try simp only [Act.put, List.setIfInBounds_toArray, List.set_cons_zero, List.set_cons_succ])
      refine wpAnyH_ready (rs := [4]) (by kernel_rfl) (by simp) ?_
      refine AllReadyH.cons (o := ⟨some 27, _, _, _, _, _⟩) rfl (fun K hK => ?_) (AllReadyH.nil)
      go_simp
      (go_at_call 145; (with_reducible refine Go.Calls.mono (CL.out _ (B3.out.trans (bA.out.mono s3))) ?_); rintro e w5 ⟨o5, c5, rfl, ho5, _, hb5⟩; have b5 := Lib.hid (bA.out.trans (hb5.mono bA.out.size)); have O5 := Lib.hid (own_base (base' := w3.heap.size) ho5 bA.out.size); have Z5 := Lib.hid (ZA.out.below hb5 ZA.out.lt); clear ho5 hb5)
      refine hK.out _ _ ?_ (fun hHeld => ?_)
      · (try dsimp only)
        exact KS.out _ b5.out
      clear hK K
      (try simp only [Act.put, List.setIfInBounds_toArray, List.set_cons_zero, List.set_cons_succ])
      (refine wpAnyH_take (i := 5) (oi := ⟨some 28, _, _, _, _, _⟩) (v := ?v5_r6) rfl (by kernel_rfl) (by kernel_rfl) (by kernel_rfl) (fun _ _ _ h => h) (Or.inl ⟨by rfl, ?hy5_r6⟩) (by assumption) ?rest5_r6; (case hy5_r6 => ((intro w hSw); (try dsimp only at hSw); go_simp; first | done | (with_reducible rfl))))
      (try simp only [Act.put, List.setIfInBounds_toArray, List.set_cons_zero, List.set_cons_succ])
      refine wpAnyH_ready (rs := [7]) (by kernel_rfl) (by simp) ?_
      refine AllReadyH.cons (o := ⟨none, _, _, _, _, _⟩) rfl (fun K hK => ?_) (AllReadyH.nil)
      obtain ⟨p0, p1, p2, p3⟩ := blk4 Z5.out
      obtain ⟨f0, f1, f2, f3⟩ := frz4 Z5.out
      go_simp
      refine hK.out _ _ ?_ (fun hHeld => ?_)
      · (try dsimp only)
        exact KS.out _ ((((b5.out.setCell (p := ⟨_, 0, none⟩) ZP.out _).setCell (p := ⟨_, 1, none⟩) ZP.out _).setCell (p := ⟨_, 2, none⟩) ZP.out _).setCell (p := ⟨_, 3, none⟩) ZP.out _)
      clear hK K
      (try simp only [Act.put, List.setIfInBounds_toArray, List.set_cons_zero, List.set_cons_succ])
      refine wpAnyH_done (by kernel_rfl) ?_ _
      go_wp2
      go_meet
      exact ⟨_, _, _, rfl, ZP, Lib.hid ((((Z5.out.set_ 0 _).set_ 1 _).set_ 2 _).set_ 3 _), Lib.hid (own_setx (own_setx (own_setx (own_setx O5.out Z5.out (by decide)) (Z5.out.set_ 0 _) (by decide)) ((Z5.out.set_ 0 _).set_ 1 _) (by decide)) (((Z5.out.set_ 0 _).set_ 1 _).set_ 2 _) (by decide)), Lib.hid ((((b5.out.setCell (p := ⟨_, 0, none⟩) ZP.out _).setCell (p := ⟨_, 1, none⟩) ZP.out _).setCell (p := ⟨_, 2, none⟩) ZP.out _).setCell (p := ⟨_, 3, none⟩) ZP.out _)⟩
    -- END drawn
  case rest =>
    obtain ⟨P, o4, c4, rfl, hP, KT, KO, KB⟩ := hcut
    have HPl := Lib.hid KT.out.lt
    have HOl := Lib.hid (fun g e => (KO.out.lt g e).2)
    have k0 := KS.out _ KB.out
    have HWC := Lib.hid KB.out.size
    obtain ⟨n, hn⟩ : ∃ n, n = sh.length := ⟨_, rfl⟩
    obtain ⟨wv, hwv⟩ : ∃ wv, wv = wc.heap.size := ⟨_, rfl⟩
    rw [← hwv] at HPl HOl HWC
    have HV := Lib.hid hwv
    clear hwv
    have hP' := hP.out
    go_wp2
    go_loopw [32] (fun s32 wr => ∃ (k : Nat) (L : List Int) (us : Value), k ≤ sh.length ∧ s32 = .int .i64 k ∧ Hid (L.length = sh.length ∧ ∀ j, j < sh.length → L.getD j 0 = if j < k ∧ (j : Int) ∈ ax then 1 else sh.getD j 0) ∧ Hid (Blk wr P 129 #[.slice o1 sh.length n1, .slice o4 sh.length c4, us, .int .i64 (prod (lf (sh.take k) ax 0))]) ∧
      Hid (wr.ownsRow w3.heap.size 3 1 (.slice o4 sh.length c4) sh.length (ints L)) ∧ Hid (wr.ownsRow wv 3 1 us (lf (sh.take k) ax 0).length (ints (lf (sh.take k) ax 0))) ∧ Hid (Below w3.heap.size w3 wr) ∧ Hid (wv ≤ wr.heap.size)) (fun s32 _ => sh.length - (intOf s32).toNat)
    case atStart => exact ⟨0, sh, .slice none 0 0, Nat.zero_le _, rfl, Lib.hid ⟨rfl, fun j hj => by rw [if_neg (by omega)]⟩, KT, KO, Lib.hid (World.ownsRow_nil _ _ _ _), KB, Lib.hid (by rw [HV.out]; exact Nat.le_refl _)⟩
    case round =>
      clear KT KO KB k0
      obtain ⟨k, L, us, hk, rfl, HL, KT, KO, KU, KB, KZ⟩ := hrel
      obtain ⟨p0, p1, p2, p3⟩ := blk4 KT.out
      obtain ⟨f0, f1, f2, f3⟩ := frz4 KT.out
      have hz := KZ.out
      by_cases hlt : k < sh.length
      · obtain ⟨b, f, rfl, h1, c1⟩ := HX.out k hlt
        have BW := B3.out.trans (KB.out.mono s3)
        have c2 : wr.cell? ⟨b, f + k, none⟩ = some (.int .i64 (sh.getD k 0)) := (BW.cell (p := ⟨b, f + k, none⟩) h1).trans c1
        have C1 := CC.out (k : Int) wr BW
        have HS := Lib.hid (lf_step (ax := ax) hlt)
        have HPS := Lib.hid (lf_prod_step (ax := ax) hlt)
        have d1 := HD.out k hlt
        have q1 := HP.out k
        have q2 := HP.out (k + 1)
        have HLT := Lib.hid hlt
        clear c1 BW
        by_cases hin : (k : Int) ∈ ax
        · as_aux_lemma =>
          have HI := Lib.hid hin
          rw [decide_eq_true hin] at C1
          replace C1 := Lib.hid C1
          have HS2 : Hid (lf (sh.take (k + 1)) ax 0 = lf (sh.take k) ax 0) := Lib.hid (by rw [HS.out, if_pos hin, List.append_nil])
          have HP2 : Hid (prod (lf (sh.take (k + 1)) ax 0) = prod (lf (sh.take k) ax 0)) := Lib.hid (by rw [HS2.out])
          obtain ⟨g, rfl⟩ := own_some KO.out (by omega)
          have kc := own_at KO.out HL.out.1 hlt
          have kf := own_frozen KO.out k
          have hg := HOl.out g rfl
          have gP : P ≠ g := fun e => tens_not_row KO.out KT.out (by decide) (by rw [e]; rfl)
          have hgl : w3.heap.size ≤ g := (KO.out.lt g rfl).1
          have R1 := Lib.hid (KT.out.far (p := ⟨g, k, none⟩) gP (.int .i64 1))
          have R2 := Lib.hid (own_setn KO.out HL.out.1 hlt 1)
          have R3 := Lib.hid (KU.out.kept (grown_set wr ⟨g, k, none⟩ (.int .i64 1)) (by
            cases e : us.ownBlock with
            | none => exact .inl rfl
            | some j => exact .inr (fun e2 => by have := (KU.out.lt j e).1; simp at e2; omega)))
          have R4 := Lib.hid (KB.out.setCell (p := ⟨g, k, none⟩) hgl (.int .i64 1))
          have HL2 : Hid ((L.set k 1).length = sh.length ∧ ∀ j, j < sh.length → (L.set k 1).getD j 0 = if j < k + 1 ∧ (j : Int) ∈ ax then 1 else sh.getD j 0) := Lib.hid ⟨by rw [List.length_set]; exact HL.out.1, fun j hj => by
            by_cases e : k = j
            · subst e; rw [set_getD_self (by have := HL.out.1; omega), if_pos ⟨by omega, hin⟩]
            · rw [set_getD_ne e, HL.out.2 j hj]
              by_cases e2 : j < k ∧ (j : Int) ∈ ax
              · rw [if_pos e2, if_pos ⟨by omega, e2.2⟩]
              · rw [if_neg e2, if_neg (fun h => e2 ⟨by omega, h.2⟩)]⟩
          generalize L.getD k 0 = l0 at kc
          clear hin HS HPS d1 q1 q2
          generalize prod (lf (sh.take k) ax 0) = A at *
          generalize sh.getD k 0 = d at *
          go_wp2_with (go_at_call 146; (with_reducible refine C1.out.mono ?_); rintro e w' ⟨rfl, rfl⟩)
          refine ⟨⟨k + 1, L.set k 1, us, by omega, by go_num, HL2, Lib.hid (by rw [HP2.out]; exact R1.out), R2, Lib.hid (by rw [HS2.out]; exact R3.out), R4, Lib.hid (by simpa using KZ.out)⟩, by simp [intOf]; omega⟩
        · as_aux_lemma =>
          have HI := Lib.hid hin
          rw [decide_eq_false hin] at C1
          replace C1 := Lib.hid C1
          have HS2 : Hid (lf (sh.take (k + 1)) ax 0 = lf (sh.take k) ax 0 ++ [sh.getD k 0]) := Lib.hid (by rw [HS.out, if_neg hin])
          have HP2 : Hid (prod (lf (sh.take (k + 1)) ax 0) = prod (lf (sh.take k) ax 0) * sh.getD k 0) := Lib.hid (by rw [HPS.out, if_neg hin])
          have ew : IntKind.i64.wrap (prod (lf (sh.take k) ax 0) * sh.getD k 0) = prod (lf (sh.take k) ax 0) * sh.getD k 0 := IntWalk.i64_in _ (by rw [← HP2.out]; omega)
          have EW : Hid (wrap64 (prod (lf (sh.take k) ax 0) * sh.getD k 0) = prod (lf (sh.take k) ax 0) * sh.getD k 0) := Lib.hid (IntWalk.wrap64_in _ (by rw [← HP2.out]; omega))
          have lm : (lf (sh.take k) ax 0).length ≤ 4 := by
            have := lf_len_le ax (sh.take k) 0
            simp only [List.length_take] at this
            omega
          have HL2 : Hid (L.length = sh.length ∧ ∀ j, j < sh.length → L.getD j 0 = if j < k + 1 ∧ (j : Int) ∈ ax then 1 else sh.getD j 0) := Lib.hid ⟨HL.out.1, fun j hj => by
            rw [HL.out.2 j hj]
            by_cases e2 : j < k ∧ (j : Int) ∈ ax
            · rw [if_pos e2, if_pos ⟨by omega, e2.2⟩]
            · rw [if_neg e2, if_neg (fun h => by
                by_cases e : j = k
                · subst e; exact hin h.2
                · exact e2 ⟨by omega, h.2⟩)]⟩
          clear hin HS HPS d1 q1 q2 hn
          obtain ⟨A2, hA2⟩ : ∃ A2, A2 = prod (lf (sh.take k) ax 0) * sh.getD k 0 := ⟨_, rfl⟩
          have ew2 : wrap64 (prod (lf (sh.take k) ax 0) * sh.getD k 0) = A2 := by rw [hA2]; exact EW.out
          replace HP2 := Lib.hid (HP2.out.trans hA2.symm)
          clear EW ew
          clear hA2
          generalize prod (lf (sh.take k) ax 0) = A at *
          generalize sh.getD k 0 = d at *
          obtain ⟨M, hM⟩ : ∃ M, M = lf (sh.take k) ax 0 := ⟨_, rfl⟩
          rw [← hM] at KU HS2 lm
          clear hM
          go_wp2_with (first | (go_at_call 146; (with_reducible refine C1.out.mono ?_); rintro e w' ⟨rfl, rfl⟩) | (at_builtin; refine wpList_append_own _ rfl _ _ 23 rfl wv 3 i0 (.int .i64 0) 1 8 Tryz.underlying23 hi0 hz0 hz1 hz2 rfl (by decide) us M.length (ints M) rfl (KU.out.alloc _) ⟨wr.heap.size, 0, none⟩ 1 1 [.int .i64 d] rfl rfl ?c1 ?c2 ?c3 ?c4 ?c5 ?_))
          case c1 => exact (cell_one_new _ _ _)
          case c2 => simp [Value.oneCell']
          case c3 => unfold maxLen; omega
          case c4 => omega
          case c5 => simp; omega
          intro u9 w9 hown1 hgrow _
          obtain ⟨o9, c9, rfl⟩ := own_form1 hown1
          have KT9 := Lib.hid ((KT.out.alloc (.cells #[.int .i64 d] 3)).kept hgrow (fun e => by have := (KU.out.lt P e.symm).1; have := HPl.out; omega))
          have KB9 := Lib.hid ((KB.out.alloc KB.out.size (.cells #[.int .i64 d] 3)).grown hgrow (by have := KB.out.size; simp; omega) (fun j e => by have := (KU.out.lt j e).1; have := HWC.out; omega))
          have KO9 := Lib.hid ((KO.out.alloc (.cells #[.int .i64 d] 3)).kept hgrow (by
            cases e : (Value.slice o4 sh.length c4).ownBlock with
            | none => exact .inl rfl
            | some j => exact .inr (fun e2 => by have := (KU.out.lt j e2.symm).1; have := HOl.out j e; omega)))
          have KU9 : Hid (w9.ownsRow wv 3 1 (.slice o9 (M.length + 1) c9) (M.length + 1) (ints M ++ [.int .i64 d])) := Lib.hid hown1
          have KZ9 := Lib.hid (Nat.le_trans hz (Nat.le_trans (Nat.le_succ _) (Nat.le_trans (Nat.le_of_eq (World.size_alloc _ _).symm) hgrow.size)))
          obtain ⟨p0, p1, p2, p3⟩ := blk4 KT9.out
          obtain ⟨f0, f1, f2, f3⟩ := frz4 KT9.out
          clear hown1 hgrow
          go_wp2
          refine ⟨⟨k + 1, L, .slice o9 (M.length + 1) c9, by omega, by go_num, HL2, Lib.hid (by rw [HP2.out]; exact (KT9.out.set_ 2 _).set_ 3 _), Lib.hid (own_setx (own_setx KO9.out KT9.out (by decide)) (KT9.out.set_ 2 (.slice o9 (M.length + 1) c9)) (by decide)), Lib.hid ?_, Lib.hid ((KB9.out.setCell (p := ⟨P, 2, none⟩) hP.out _).setCell (p := ⟨P, 3, none⟩) hP.out _), Lib.hid (by simpa using KZ9.out)⟩, by simp [intOf]; omega⟩
          rw [HS2.out, ints_snoc, List.length_append]
          exact own_setx (own_setx KU9.out KT9.out (by decide)) (KT9.out.set_ 2 (.slice o9 (M.length + 1) c9)) (by decide)
      · as_aux_lemma =>
        obtain rfl : k = sh.length := by omega
        have e1 : L = ons sh ax 0 := ons_end HL.out.1 (fun j hj => by
          rw [HL.out.2 j hj]
          by_cases e : (j : Int) ∈ ax
          · rw [if_pos ⟨hj, e⟩, if_pos e]
          · rw [if_neg (fun h => e h.2), if_neg e])
        subst e1
        rw [List.take_length] at p3 KU
        obtain ⟨o5, c5, rfl⟩ := own_form1 KU.out
        have KX := Lib.hid (Z1.out.below KB.out z1l)
        obtain ⟨d0, d1, d2, d3⟩ := blk4 KX.out
        obtain ⟨g0, g1, g2, g3⟩ := frz4 KX.out
        clear hlt hn HV
        go_wp2
        refine bodyPost_ret (v := .tuple #[.agg #[.slice o1 sh.length n1, .slice o4 sh.length c4, .slice o5 (lf sh ax 0).length c5, .int .i64 (prod (lf sh ax 0))], .int .i64 0]) (by simp [results, Tryz.results72, go_sem, d0, d1, d2, d3]) rfl ?_
        have x1 := own_setx (i := 3) (z := .int .i64 (prod (lf sh ax 0))) (own_setx (i := 2) (z := .slice o5 (lf sh ax 0).length c5) (own_setx (i := 1) (z := .slice o4 sh.length c4) (own_setx (i := 0) (z := .slice o1 sh.length n1) KO.out KX.out (by decide)) (KX.out.set_ 0 _) (by decide)) ((KX.out.set_ 0 _).set_ 1 _) (by decide)) (((KX.out.set_ 0 _).set_ 1 _).set_ 2 _) (by decide)
        have x2 := own_setx (i := 3) (z := .int .i64 (prod (lf sh ax 0))) (own_setx (i := 2) (z := .slice o5 (lf sh ax 0).length c5) (own_setx (i := 1) (z := .slice o4 sh.length c4) (own_setx (i := 0) (z := .slice o1 sh.length n1) KU.out KX.out (by decide)) (KX.out.set_ 0 _) (by decide)) ((KX.out.set_ 0 _).set_ 1 _) (by decide)) (((KX.out.set_ 0 _).set_ 1 _).set_ 2 _) (by decide)
        exact ⟨o4, c4, o5, c5, rfl, Lib.hid (own_ld x1 (ons_len ax sh 0)), Lib.hid (own_base x2 (by have := HWC.out; omega)), ((((B3.out.trans (KB.out.mono s3)).setCell (p := ⟨w.heap.size + 1, 0, none⟩) (Nat.le_succ _) _).setCell (p := ⟨w.heap.size + 1, 1, none⟩) (Nat.le_succ _) _).setCell (p := ⟨w.heap.size + 1, 2, none⟩) (Nat.le_succ _) _).setCell (p := ⟨w.heap.size + 1, 3, none⟩) (Nat.le_succ _) _⟩

set_option maxRecDepth 100000 in
set_option maxHeartbeats 2000000 in
/-- The place under an index. -/
theorem under9_any (vs vo vt vi : Value) (sh ax : List Int) (c : Int) (n : Nat) (w : World) (hs : Ld w vs sh) (ho : Ld w vo (ons sh ax 0)) (ht : ∃ o m k, vt = .slice o m k) (hi : Ld w vi (atl sh (n : Nat))) (hm : may sh = true) (hn : (n : Int) < prod sh) :
    Calls Tryz.prog 74 #[.agg #[vs, vo, vt, .int .i64 c], vi] w fun e w' => e = .returned (.int .i64 (into sh ax n)) ∧ Below w.heap.size w w' := by
  have C := Lib.hid (fun (W : World) (hW : Below w.heap.size w W) => under_ok vo vs vi (ons sh ax 0) sh (atl sh (n : Nat)) W (ho.below hW) (hs.below hW) (hi.below hW) (ons_may ax hm) hm (ons_goes ax hm) (atl_inx sh (n : Nat) (may_pos hm) (by omega) hn))
  rw [ons_und ax (may_pos hm) hn] at C
  have B0 := Lib.hid ((Below.refl w.heap.size w).alloc (Nat.le_refl _) (.cells #[vs, vo, vt, .int .i64 c] 129))
  obtain ⟨o1, c1, rfl, _, _⟩ := hs
  obtain ⟨o2, c2, rfl, _, _⟩ := ho
  obtain ⟨o3, m3, c3, rfl⟩ := ht
  obtain ⟨o4, c4, rfl, _, _⟩ := hi
  clear hm hn
  go_enter Tryz.func74, Tryz.ntmps74
  go_wp2_with (go_at_call 150; (with_reducible refine (C.out _ B0.out).mono ?_); rintro e w' ⟨rfl, rfl⟩)
  go_ret
  exact ⟨rfl, B0.out⟩
end Go.Proofs.YtmafgdinegboeaaGreat
