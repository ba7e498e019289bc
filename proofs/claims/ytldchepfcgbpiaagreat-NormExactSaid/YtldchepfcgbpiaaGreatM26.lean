/-
  package norm: Norm of a tensor.
  What the laws of package norm call: an error's number, a row's length, a short tensor normed; Norm's answer as lists; a row turned.
-/
import Derived.BigRegion
import Derived.Test.YtldchepfcgbpiaaGreatM13
import Derived.Test.YtldchepfcgbpiaaGreatM25
namespace Go.Proofs.YtldchepfcgbpiaaGreat
open Go Go.RowKit Go.Shelf
attribute [local go_sem] Oper.semAt_some

set_option maxRecDepth 100000 in
set_option maxHeartbeats 8000000 in
theorem norm_ok (vs vd : Value) (sh ds : List Int) (eps : Int) (f : Nat) (w : World) (hs : Ld w vs sh) (hd : Ld w vd ds) (ta : tnb sh ds = true) (we : wd eps = true) (e0 : 0 < eps) (hf : fb (f : Int) = true) (h0 : sh.length ≠ 0) (n : Nat) (hn : sh.getD (sh.length - 1) 0 = (n : Nat)) :
    Calls Tryz.prog 10 #[.agg #[vs, vd], .int .i64 eps, .int .i64 (f : Int)] w (SomeT w 0 sh (nrt n ds eps f)) := by
  obtain ⟨ma, la, hwd⟩ := tnb_parts ta
  have hl4 := may_len ma
  have hp := may_prod ma
  have hn1 := may_dim ma (i := sh.length - 1) (by omega)
  rw [hn] at hn1
  have HROW := Lib.hid (rows_of h0 hn la hp.1 (by omega))
  obtain ⟨m, hm⟩ : ∃ m, m = sh.length - 1 := ⟨_, rfl⟩
  rw [← hm] at hn
  have KC : Hid (∀ W, Below w.heap.size w W → Calls Tryz.prog 21 #[.agg #[vs, vd]] W fun e w' => e = .returned (.int .i64 0) ∧ Below W.heap.size W w') := Lib.hid (fun W hW => by
    have q := echeck_any vs vd sh ds W (hs.below hW) (hd.below hW) (by omega) (by omega)
    rwa [ta, if_pos rfl] at q)
  have KE : Hid (∀ W : World, Calls Tryz.prog 22 #[.int .i64 eps] W fun e w' => e = .returned (.int .i64 0) ∧ W = w') := Lib.hid (fun W => by
    have q := check_any eps W
    rwa [we, if_pos rfl] at q)
  have KF : Hid (∀ W : World, Calls Tryz.prog 23 #[.int .i64 (f : Int)] W fun e w' => e = .returned (.int .i64 0) ∧ W = w') := Lib.hid (fun W => by
    have q := checkf_any (f : Int) W
    rwa [hf, if_pos rfl] at q)
  obtain ⟨os, cs, rfl, _, _⟩ := id hs
  obtain ⟨od, cd, rfl, hcd0, _⟩ := id hd
  have HCD : Hid (ds.length ≤ cd) := Lib.hid hcd0
  clear hcd0
  obtain ⟨gS, fS, hoS, _⟩ := ld_at hs (k := 0) (by omega)
  subst hoS
  obtain ⟨gX, fX, hoX, _⟩ := ld_at hd (k := 0) (by omega)
  subst hoX
  have KCL := Lib.hid (fun (W : World) (hW : Below w.heap.size w W) => Tryz.slices_Clone_int gS fS sh.length cs sh W (Nat.le_refl _) (by omega) (fun j hj => ld_cell (hs.below hW) hj))
  have KCH := Lib.hid (fun (W : World) => chunk_any gX fX ds.length cd n (by omega) W)
  obtain ⟨FR, hFR⟩ : ∃ FR : World → Prop, FR = NmF w (.slice (some ⟨gS, fS, none⟩) sh.length cs) (.slice (some ⟨gX, fX, none⟩) ds.length cd) eps (f : Int) := ⟨_, rfl⟩
  have FRb : Hid (∀ W, FR W → Below w.heap.size w W) := Lib.hid (fun W h => by rw [hFR] at h; exact h.1)
  have FRn : Hid (∀ W W', FR W → Below W.heap.size W W' → FR W') := Lib.hid (fun W W' h hb => by rw [hFR] at h ⊢; exact h.next hb)
  have FRm : Hid (∀ W W' m, FR W → w.heap.size + 4 ≤ m → Below m W W' → FR W') := Lib.hid (fun W W' m h hm hb => by rw [hFR] at h ⊢; exact ⟨h.1.trans (hb.mono (by omega)), h.2.1.below hb (by omega), h.2.2.1.below hb (by omega), h.2.2.2.1.below hb (by omega), h.2.2.2.2.below hb (by omega)⟩)
  have HWF := Lib.hid (And.intro we (show f ≤ 32 by have := fb_bd hf; omega))
  have FRr : Hid (∀ W, FR W → Blk W (w.heap.size + 3) 26 #[.slice none 0 0, .slice none 0 0]) := Lib.hid (fun W h => by rw [hFR] at h; exact h.2.2.2.2)
  have FRk : Hid (∀ W, FR W → W.cell? ⟨w.heap.size, 0, none⟩ = some (.slice (some ⟨gS, fS, none⟩) sh.length cs) ∧ W.cell? ⟨w.heap.size, 1, none⟩ = some (.slice (some ⟨gX, fX, none⟩) ds.length cd) ∧ W.cell? ⟨w.heap.size + 1, 0, none⟩ = some (.int .i64 eps) ∧ W.cell? ⟨w.heap.size + 2, 0, none⟩ = some (.int .i64 (f : Int)) ∧ W.cell? ⟨w.heap.size + 3, 0, none⟩ = some (.slice none 0 0) ∧ W.cell? ⟨w.heap.size + 3, 1, none⟩ = some (.slice none 0 0) ∧ W.frozen? ⟨w.heap.size + 3, 0, none⟩ = false ∧ W.frozen? ⟨w.heap.size + 3, 1, none⟩ = false) := Lib.hid (fun W h => by rw [hFR] at h; exact ⟨h.2.1.cell 0, h.2.1.cell 1, h.2.2.1.cell 0, h.2.2.2.1.cell 0, h.2.2.2.2.cell 0, h.2.2.2.2.cell 1, h.2.2.2.2.frozen 0, h.2.2.2.2.frozen 1⟩)
  have F1 : Hid (FR ((((w.alloc (.cells #[.slice (some ⟨gS, fS, none⟩) sh.length cs, .slice (some ⟨gX, fX, none⟩) ds.length cd] 26)).alloc (.cells #[.int .i64 eps] 2)).alloc (.cells #[.int .i64 (f : Int)] 3)).alloc (.cells #[.slice none 0 0, .slice none 0 0] 26))) := Lib.hid (by rw [hFR]; exact NmF.start w _ _ _ _)
  have HDIM : Hid (∀ W, FR W → W.cell? ⟨gS, fS + m, none⟩ = some (.int .i64 (n : Nat))) := Lib.hid (fun W h => by
    have q := ld_cell (hs.below (FRb.out _ h)) (k := m) (by omega)
    rwa [hn] at q)
  have HSD := Lib.hid (And.intro hs hd)
  have HNM := Lib.hid (And.intro hn1 (And.intro la (And.intro hwd (And.intro hp hm))))
  have z1 : ¬ sh.length = 0 := h0
  have z2 : ((sh.length : Int) == 0) = false := by rw [beq_eq_false_iff_ne]; omega
  have E1 : Hid (wrap64 ((sh.length : Int) - 1) = (m : Int) ∧ IntKind.i64.wrap ((sh.length : Int) - 1) = (m : Int) ∧ m < sh.length) := Lib.hid (by
    rw [show (sh.length : Int) - 1 = (m : Int) by omega]
    exact ⟨IntWalk.wrap64_in _ (by omega), IntWalk.i64_in _ (by omega), by omega⟩)
  have F4s : Hid (∀ W, FR W → w.heap.size + 4 ≤ W.heap.size) := Lib.hid (fun W h => by rw [hFR] at h; exact h.2.2.2.2.lt)
  clear hFR hs hd ta we hf hn hm hn1 ma la hwd hp h0
  refine (callsIn_wide (n := 12)).1 ?_
  refine callsIn_of_wp_marks Tryz.func10 rfl trivial ?_
  simp only [Tryz.ntmps10, List.size_toArray, List.length_cons, List.length_nil, Nat.reduceAdd, Nat.reduceSub, Array.replicate_succ, Array.replicate_zero, List.push_toArray, List.append_toArray, List.nil_append, List.cons_append]
  refine wpIn_wide.2 ?_
  go_upto_region 1 with fail
  go_upto_region 5 with (first | (go_at_call 21; (with_reducible refine (KC.out _ (FRb.out _ F1.out)).mono ?_); rintro e w2 ⟨rfl, hb⟩; have F2 := Lib.hid (FRn.out _ _ F1.out hb); obtain ⟨x0, x1, x2, x3, x4, x5, pf4, pf5⟩ := FRk.out _ F2.out; clear hb) | (go_at_call 22; (with_reducible refine (KE.out _).mono ?_); rintro e w' ⟨rfl, rfl⟩) | (go_at_call 23; (with_reducible refine (KF.out _).mono ?_); rintro e w' ⟨rfl, rfl⟩))
  have HF4 : Hid (w.heap.size + 4 ≤ w2.heap.size) := Lib.hid (F4s.out _ F2.out)
  go_upto_region 6 with (go_at_call 24; (with_reducible refine (KCL.out _ (FRb.out _ F2.out)).mono ?_); rintro e w3 ⟨v, rfl, ho, _, hb⟩; obtain ⟨oT, cT, rfl⟩ := own_form1 ho; have F3 := Lib.hid (FRn.out _ _ F2.out hb); have OT := Lib.hid ho; have HB3 := Lib.hid hb; clear ho hb)
  obtain ⟨v1, hv1⟩ : ∃ v, v = w3.alloc (.cells #[.slice oT sh.length cT, .slice none 0 0] 26) := ⟨_, rfl⟩
  obtain ⟨T1, hT1⟩ : ∃ T, T = w3.heap.size := ⟨_, rfl⟩
  rw [← hv1, ← hT1]
  obtain ⟨P1, hP⟩ : ∃ P : World → Prop, P = fun W => FR W ∧ Blk W T1 26 #[.slice oT sh.length cT, .slice none 0 0] ∧ W.ownsRow w.heap.size 3 1 (.slice oT sh.length cT) sh.length (ints sh) := ⟨_, rfl⟩
  have G1 : Hid (P1 v1) := Lib.hid (by
    rw [hP, hv1, hT1]
    refine ⟨FRn.out _ _ F3.out (al_below _), Blk.new _ _ _, (own_base (base' := w.heap.size) ?_ (FRb.out _ F2.out).size).alloc _⟩
    have q := OT.out
    rw [List.take_length] at q
    exact q)
  have P1f : Hid (∀ W, P1 W → FR W) := Lib.hid (fun W h => by rw [hP] at h; exact h.1)
  have P1n : Hid (∀ W W', P1 W → Below W.heap.size W W' → P1 W') := Lib.hid (fun W W' h hb => by rw [hP] at h ⊢; exact ⟨FRn.out _ _ h.1 hb, h.2.1.below hb h.2.1.lt, Below.keepOwn h.2.2 hb (Nat.le_refl _)⟩)
  have P1t : Hid (∀ W, P1 W → Blk W T1 26 #[.slice oT sh.length cT, .slice none 0 0] ∧ W.ownsRow w.heap.size 3 1 (.slice oT sh.length cT) sh.length (ints sh)) := Lib.hid (fun W h => by rw [hP] at h; exact h.2)
  have HT1 : Hid (w.heap.size + 4 ≤ T1 ∧ v1.heap.size = T1 + 1) := Lib.hid (by
    rw [hv1, hT1, World.size_alloc]
    have q := (FRb.out _ F2.out)
    refine ⟨?_, rfl⟩
    have := HB3.out.size
    have := HF4.out
    omega)
  have OWb : Hid (∀ g, (Value.slice oT sh.length cT).ownBlock = some g → g < T1) := Lib.hid (fun g e => by rw [hT1]; exact (OT.out.lt g e).2)
  clear hv1 hT1 hP F2 F3 OT HB3 x0 x1 x2 x3 x4 x5 pf4 pf5
  have KS : Hid (∀ W, P1 W → (W.cell? ⟨w.heap.size, 0, none⟩ = some (.slice (some ⟨gS, fS, none⟩) sh.length cs) ∧ W.cell? ⟨w.heap.size, 1, none⟩ = some (.slice (some ⟨gX, fX, none⟩) ds.length cd)) ∧ W.cell? ⟨gS, fS + m, none⟩ = some (.int .i64 (n : Nat))) := Lib.hid (fun W h => ⟨⟨(FRk.out _ (P1f.out _ h)).1, (FRk.out _ (P1f.out _ h)).2.1⟩, HDIM.out _ (P1f.out _ h)⟩)
  obtain ⟨e1, e2, e3⟩ := E1.out
  go_cut [50] from 40 to 51 (fun s50 wx => ∃ C1 : Nat, s50 = .func (.func 40) #[] #[.pointer (some ⟨C1, 0, none⟩), .pointer (some ⟨C1 + 1, 0, none⟩)] ∧ Boxed wx C1 24 (.slice (some ⟨gX, fX, none⟩) ds.length cd) ∧ Boxed wx (C1 + 1) 3 (.int .i64 (n : Nat)) ∧ Hid (v1.heap.size ≤ C1) ∧ Hid (P1 wx))
  case first =>
    as_aux_lemma =>
    have B_0 : Hid (Below v1.heap.size v1 v1.drew) := Lib.hid (below_drw (Below.refl _ _) 1)
    have GB_0 := Lib.hid (P1n.out _ _ G1.out B_0.out)
    refine wp_region_noPanic ?_
    refine wp_region_held_drew (S := fun W => (W.cell? ⟨w.heap.size, 0, none⟩ = some (.slice (some ⟨gS, fS, none⟩) sh.length cs) ∧ W.cell? ⟨w.heap.size, 1, none⟩ = some (.slice (some ⟨gX, fX, none⟩) ds.length cd)) ∧ W.cell? ⟨gS, fS + m, none⟩ = some (.int .i64 (n : Nat))) (by kernel_rfl) ?_ (fun hHeld => ?_)
    · exact KS.out _ GB_0.out
    have hHd := hHeld
    have HV1 : Hid (v1.heap.size ≤ v1.drew.heap.size) := Lib.hid (Nat.le_refl _)
    generalize v1.drew = w_0 at *
    (refine wpAnyH_take (i := 0) (oi := ⟨some 40, _, _, _, _, _⟩) (v := ?v0_a1) rfl (by kernel_rfl) (by kernel_rfl) (by kernel_rfl) (fun _ _ _ h => h) (Or.inl ⟨by rfl, ?hy0_a1⟩) (by assumption) ?rest0_a1; (case hy0_a1 => ((intro w hSw); (try dsimp only at hSw); go_simp; first | done | (with_reducible rfl))))
    (try simp only [Act.put, List.setIfInBounds_toArray, List.set_cons_zero, List.set_cons_succ])
    (refine wpAnyH_take (i := 1) (oi := ⟨some 41, _, _, _, _, _⟩) (v := ?v1_a2) rfl (by kernel_rfl) (by kernel_rfl) (by kernel_rfl) (fun _ _ _ h => h) (Or.inl ⟨by rfl, ?hy1_a2⟩) (by assumption) ?rest1_a2; (case hy1_a2 => ((intro w hSw); (try dsimp only at hSw); go_simp; first | done | (with_reducible rfl))))
    (try simp only [Act.put, List.setIfInBounds_toArray, List.set_cons_zero, List.set_cons_succ])
    (refine wpAnyH_take (i := 2) (oi := ⟨some 42, _, _, _, _, _⟩) (v := ?v2_a3) rfl (by kernel_rfl) (by kernel_rfl) (by kernel_rfl) (fun _ _ _ h => h) (Or.inl ⟨by rfl, ?hy2_a3⟩) (by assumption) ?rest2_a3; (case hy2_a3 => ((intro w hSw); (try dsimp only at hSw); go_simp; first | done | (with_reducible rfl))))
    (try simp only [Act.put, List.setIfInBounds_toArray, List.set_cons_zero, List.set_cons_succ])
    (refine wpAnyH_take (i := 3) (oi := ⟨some 43, _, _, _, _, _⟩) (v := ?v3_a4) rfl (by kernel_rfl) (by kernel_rfl) (by kernel_rfl) (fun _ _ _ h => h) (Or.inl ⟨by rfl, ?hy3_a4⟩) (by assumption) ?rest3_a4; (case hy3_a4 => ((intro w hSw); (try dsimp only at hSw); go_simp; first | done | (with_reducible rfl))))
    (try simp only [Act.put, List.setIfInBounds_toArray, List.set_cons_zero, List.set_cons_succ])
    (refine wpAnyH_take (i := 4) (oi := ⟨some 44, _, _, _, _, _⟩) (v := ?v4_a5) rfl (by kernel_rfl) (by kernel_rfl) (by kernel_rfl) (fun _ _ _ h => h) (Or.inl ⟨by rfl, ?hy4_a5⟩) (by assumption) ?rest4_a5; (case hy4_a5 => ((intro w hSw); (try dsimp only at hSw); go_simp; first | done | (with_reducible rfl))))
    (try simp only [Act.put, List.setIfInBounds_toArray, List.set_cons_zero, List.set_cons_succ])
    (refine wpAnyH_take (i := 5) (oi := ⟨some 45, _, _, _, _, _⟩) (v := ?v5_a6) rfl (by kernel_rfl) (by kernel_rfl) (by kernel_rfl) (fun _ _ _ h => h) (Or.inl ⟨by rfl, ?hy5_a6⟩) (by assumption) ?rest5_a6; (case hy5_a6 => ((intro w hSw); (try dsimp only at hSw); go_simp; first | done | (with_reducible rfl))))
    (try simp only [Act.put, List.setIfInBounds_toArray, List.set_cons_zero, List.set_cons_succ])
    (refine wpAnyH_take (i := 6) (oi := ⟨some 46, _, _, _, _, _⟩) (v := ?v6_a7) rfl (by kernel_rfl) (by kernel_rfl) (by kernel_rfl) (fun _ _ _ h => h) (Or.inl ⟨by rfl, ?hy6_a7⟩) (by assumption) ?rest6_a7; (case hy6_a7 => ((intro w hSw); (try dsimp only at hSw); go_simp; first | done | (with_reducible rfl))))
    (try simp only [Act.put, List.setIfInBounds_toArray, List.set_cons_zero, List.set_cons_succ])
    (refine wpAnyH_take (i := 7) (oi := ⟨some 47, _, _, _, _, _⟩) (v := ?v7_a8) rfl (by kernel_rfl) (by kernel_rfl) (by kernel_rfl) (fun _ _ _ h => h) (Or.inl ⟨by rfl, ?hy7_a8⟩) (by assumption) ?rest7_a8; (case hy7_a8 => ((intro w hSw); (try dsimp only at hSw); go_simp; first | done | (with_reducible rfl))))
    (try simp only [Act.put, List.setIfInBounds_toArray, List.set_cons_zero, List.set_cons_succ])
    (refine wpAnyH_take (i := 8) (oi := ⟨some 48, _, _, _, _, _⟩) (v := ?v8_a9) rfl (by kernel_rfl) (by kernel_rfl) (by kernel_rfl) (fun _ _ _ h => h) (Or.inl ⟨by rfl, ?hy8_a9⟩) (by assumption) ?rest8_a9; (case hy8_a9 => ((intro w hSw); (try dsimp only at hSw); go_simp; first | done | (with_reducible rfl))))
    (try simp only [Act.put, List.setIfInBounds_toArray, List.set_cons_zero, List.set_cons_succ])
    (refine wpAnyH_take (i := 9) (oi := ⟨some 49, _, _, _, _, _⟩) (v := ?v9_a10) rfl (by kernel_rfl) (by kernel_rfl) (by kernel_rfl) (fun _ _ _ h => h) (Or.inl ⟨by rfl, ?hy9_a10⟩) (by assumption) ?rest9_a10; (case hy9_a10 => ((intro w hSw); (try dsimp only at hSw); go_simp; first | done | (with_reducible rfl))))
    (try simp only [Act.put, List.setIfInBounds_toArray, List.set_cons_zero, List.set_cons_succ])
    refine wpAnyH_ready (rs := [10]) (by kernel_rfl) (by simp) ?_
    refine AllReadyH.cons (o := ⟨some 50, _, _, _, _, _⟩) rfl (fun K hK => ?_) (AllReadyH.nil)
    go_simp
    (go_at_call 25; (with_reducible refine (KCH.out _).mono ?_); rintro e w' ⟨rfl, rfl⟩)
    refine hK.out _ _ ?_ (fun hHeld => ?_)
    · (try dsimp only)
      exact KS.out _ (P1n.out _ _ G1.out ((B_0.out.alloc B_0.out.size _).alloc (Nat.le_trans B_0.out.size (by simp)) _))
    clear hK K
    (try simp only [Act.put, List.setIfInBounds_toArray, List.set_cons_zero, List.set_cons_succ])
    refine wpAnyH_done (by kernel_rfl) ?_ _
    refine NoPanic.normal ?_
    go_wp2
    go_meet
    exact ⟨_, rfl, (Boxed.new w_0 _ _).alloc _, (by have q := Boxed.new (w_0.alloc (.cells #[.slice (some ⟨gX, fX, none⟩) ds.length cd] 24)) 3 (.int .i64 (n : Nat)); rwa [World.size_alloc] at q), HV1, Lib.hid (P1n.out _ _ G1.out ((B_0.out.alloc B_0.out.size _).alloc (Nat.le_trans B_0.out.size (by simp)) _))⟩
  case rest =>
    as_aux_lemma =>
    obtain ⟨C1, rfl, X1, X2, HC1, HX⟩ := hcut
    go_wp2
    obtain ⟨W0, hW0⟩ : ∃ W0, W0 = wc := ⟨_, rfl⟩
    subst hW0
    have F1W := Lib.hid (P1f.out _ HX.out)
    have F0 : Hid (Below w.heap.size w W0) := Lib.hid (FRb.out _ (P1f.out _ HX.out))
    have R1 : Hid (Blk W0 T1 26 #[.slice oT sh.length cT, .slice none 0 0]) := Lib.hid (P1t.out _ HX.out).1
    have RW : Hid (W0.ownsRow w.heap.size 3 1 (.slice oT sh.length cT) sh.length (ints sh)) := Lib.hid (P1t.out _ HX.out).2
    have E0 : Hid (w.heap.size + 4 ≤ T1 ∧ T1 < C1 ∧ C1 + 1 < W0.heap.size) := Lib.hid (by
      have h1 := HT1.out
      have h2 := HC1.out
      have h3 := (show Blk W0 (C1 + 1) 3 #[.int .i64 (n : Nat)] from X2).lt
      omega)
    obtain ⟨hn1, hld, hwd, hp, hm⟩ := HNM.out
    obtain ⟨N, hN1, hNn⟩ := HROW.out
    have hN6 : N * n ≤ 65536 := by omega
    have hcd : N * n ≤ cd := by rw [← hNn]; exact HCD.out
    have HND := Lib.hid hNn
    have HN1 := Lib.hid (And.intro hN1 (And.intro hN6 hwd))
    rw [hNn] at X1
    clear hNn
    have X1h := Lib.hid X1
    have X2h := Lib.hid X2
    clear hld hwd hp hm X1 X2 HX
    obtain ⟨i1, hi1, hy0, hy1, hy2⟩ := info_parts infoW
    refine (wpIn_wide (n := 12)).1 ?_
    refine wpIn_rangeFunc_ownH (F := Fence.wide) (n := 12) rfl (by decide) (gf := 40) (lb := #[.pointer (some ⟨C1, 0, none⟩), .pointer (some ⟨C1 + 1, 0, none⟩)]) rfl trivial (enters_of Tryz.func40 (by kernel_rfl) rfl)
      (chunk_stops 11 (by decide) C1 (C1 + 1) gX fX n N cd (by omega) hN6 hcd W0 X1h.out X2h.out)
      Kp2.trans (Kp2.put (by have := E0.out; omega) (by have := E0.out; omega)) (Below.refl _ _) (fun _ => rfl)
      (fun pre W => NSt n ds eps f W0 T1 (.slice oT sh.length cT) (pre.map (fun x : Fin N => x.1)) [] W ∧ pre.length ≤ N)
      (fun c pre W => False)
      ?ownI ?ownX ?i0
      (fun x a' W => a' = { tmps := #[Value.agg #[Value.slice (some { block := gS, off := fS }) sh.length cs, Value.slice (some { block := gX, off := fX }) ds.length cd], Value.int IntKind.i64 eps, Value.int IntKind.i64 (f : Int), Value.pointer (some { block := w.heap.size, off := 0 }), Value.pointer (some { block := w.heap.size + 1, off := 0 }), Value.pointer (some { block := w.heap.size + 1 + 1, off := 0 }), Value.pointer (some { block := w.heap.size + 1 + 1 + 1, off := 0 }), Value.int IntKind.i64 0, Value.pointer (some { block := T1, off := 0 }), Value.slice (some ⟨gX, fX + x.1 * n, none⟩) n n, undef, undef, undef, Value.agg #[Value.slice (some { block := gS, off := fS }) sh.length cs, Value.slice (some { block := gX, off := fX }) ds.length cd], Value.int IntKind.i64 0, Value.bool false, Value.bool false, Value.int IntKind.i64 eps, Value.int IntKind.i64 0, Value.bool false, Value.bool false, Value.bool false, Value.int IntKind.i64 eps, Value.bool (decide (eps ≤ 0)), Value.bool (decide (eps ≤ 0)), Value.bool (decide (eps ≤ 0)), Value.int IntKind.i64 (f : Int), Value.int IntKind.i64 0, Value.bool false, Value.bool (decide (eps ≤ 0)), undef, Value.pointer (some { block := w.heap.size, off := 0 }), Value.slice (some { block := gS, off := fS }) sh.length cs, Value.int IntKind.i64 (sh.length : Int), Value.bool false, undef, Value.pointer (some { block := w.heap.size, off := 0 }), Value.slice (some { block := gS, off := fS }) sh.length cs, Value.slice oT sh.length cT, Value.agg #[Value.slice oT sh.length cT, Value.slice none 0 0], u40, u41, u42, u43, u44, u45, u46, u47, u48, u49, Value.func (Fn.func 40) #[] #[Value.pointer (some { block := C1, off := 0 }), Value.pointer (some { block := C1 + 1, off := 0 })], Value.slice (some ⟨gX, fX + x.1 * n, none⟩) n n, undef, undef, undef, undef, undef, undef, undef, undef, undef, undef, undef, undef, undef, undef, undef, undef, undef, undef, undef, undef], defers := [] })
      ?ownA ?assign ?body ?done ?stop
    case ownI =>
      rintro s X Y row ⟨h1, h2⟩ hg hr
      exact ⟨nst_own n ds eps f W0 T1 (.slice oT sh.length cT) (ll := fun s : List (Fin N) => s.map (fun x : Fin N => x.1)) (by have := E0.out; omega) s X Y row h1 hg hr, h2⟩
    case ownX => exact fun c s X Y row h _ _ => h.elim
    case i0 => exact ⟨⟨_, R1.out, World.ownsRow_nil _ _ _ _, Below.refl _ _, Nat.le_refl _⟩, Nat.zero_le _⟩
    case ownA => exact fun x a' _ X Y row hs hg hr => hs
    case assign =>
      rintro l pre x W K hi hK
      unfold pck
      gi_wp2
      exact hK _ _ (KeepsFrom.refl _ _) (Kp2.refl _ _ _) hi rfl
    case body =>
      rintro l pre x a' W hl ⟨r, hr⟩ ⟨⟨vdx, hT, hO, hBW, hSz⟩, hpl⟩ rfl hlt
      have hxN : x.1 < N := x.2
      have hxl : x.1 * n + n ≤ ds.length := by
        rw [HND.out]
        have : (x.1 + 1) * n ≤ N * n := Nat.mul_le_mul_right n hxN
        rwa [Nat.add_mul, Nat.one_mul] at this
      have hBw : Below w.heap.size w W := F0.out.trans (hBW.mono (by have := E0.out; omega))
      have hFW : FR W := FRm.out _ _ T1 F1W.out E0.out.1 hBW
      obtain ⟨_, _, x2, x3, _, _, _, _⟩ := FRk.out _ hFW
      obtain ⟨rl, hrl⟩ : ∃ rl, rl = (ds.drop (x.1 * n)).take n := ⟨_, rfl⟩
      have hll : rl.length = n := by rw [hrl]; simp; omega
      have hwl : wds rl = true := by rw [hrl]; exact wds_midq HN1.out.2.2 hxl
      have HLD : Hid (∀ V, Below w.heap.size w V → Ld V (.slice (some ⟨gX, fX + x.1 * n, none⟩) n n) rl) := Lib.hid (fun V hV => by rw [hrl]; exact ld_midq (HSD.out.2.below hV) hxl)
      have hq0 : 0 ≤ rsq rl eps f := rsq_pos (by omega)
      have hqR : R (rsq rl eps f) := rsq_R hwl (by rw [hll]; omega) HWF.out.1 HWF.out.2
      have hrow := fun (j : Nat) (hj : j < n) => nrw_at (l := x.1) ds eps f hj
      rw [← hrl] at hrow
      have hdis : ∀ j, j < n → ((n : Int) * rl.getD j 0).natAbs ≤ 576460752303423488 ∧ ((n : Int) * rl.getD j 0 - rl.sum).natAbs ≤ 1152921504606846976 := fun j hj => row_bd hwl (by rw [hll]) (by omega) hj
      have KRO : Hid (Calls Tryz.prog 26 #[.slice (some ⟨gX, fX + x.1 * n, none⟩) n n, .int .i64 eps, .int .i64 (f : Int)] W fun e w' => e = .returned (Rw n rl.sum (rsq rl eps f) f) ∧ Below W.heap.size W w') := Lib.hid (by
        have q := rowof_any _ rl eps f W (HLD.out W hBw) hwl (by rw [hll]; omega) HWF.out.1 HWF.out.2
        rwa [hll] at q)
      have KN : Hid (∀ j, j < n → ∀ V, Calls Tryz.prog 27 #[Rw n rl.sum (rsq rl eps f) f, .int .i64 (rl.getD j 0)] V fun e w' => e = .returned (.int .i64 ((nrw n ds eps f x.1).getD j 0)) ∧ Below V.heap.size V w') := Lib.hid (fun j hj V => by
        rw [hrow j hj]
        exact norm1_any n rl.sum (rsq rl eps f) (rl.getD j 0) f HWF.out.2 hq0 hqR (by have := hdis j hj; omega) (by have := hdis j hj; omega) V)
      unfold Rw at KRO KN
      generalize rsq rl eps f = QQ at *
      generalize hi QQ = hQ at *
      generalize lo QQ = lQ at *
      generalize rl.sum = SM at *
      have HW := Lib.hid (And.intro hT (And.intro hO (And.intro hBW (And.intro hSz (And.intro hpl hlt)))))
      have HXL := Lib.hid (And.intro hll hxl)
      clear hT hO hBW hSz hpl hlt hrl hll hwl hq0 hqR hrow hdis hxl hxN hFW hBw
      gi_wp2_with (refine And.intro trivial ?_; (with_reducible refine CallsIn.mono (CallsIn.inRound _ (callsIn_wide.2 KRO.out)) ?_); rintro e X1 ⟨rfl, hb1⟩; have b1 := Lib.hid hb1; clear hb1)
      obtain ⟨X2, hX2⟩ : ∃ X, X = X1.alloc (.cells #[.int .i64 (n : Int), .int .i64 SM, .int .i64 hQ, .int .u64 lQ, .int .i64 (f : Int)] 61) := ⟨_, rfl⟩
      obtain ⟨P10, hP10⟩ : ∃ P, P = X1.heap.size := ⟨_, rfl⟩
      rw [← hX2, ← hP10]
      have K2 : Hid (Below W.heap.size W X2) := Lib.hid (by rw [hX2]; exact b1.out.alloc b1.out.size _)
      have HR : Hid (Blk X2 P10 61 #[.int .i64 (n : Int), .int .i64 SM, .int .i64 hQ, .int .u64 lQ, .int .i64 (f : Int)]) := Lib.hid (by rw [hX2, hP10]; exact Blk.new _ _ _)
      have HP : Hid (W.heap.size ≤ P10 ∧ P10 < X2.heap.size) := Lib.hid (by rw [hX2, hP10, World.size_alloc]; exact ⟨b1.out.size, Nat.lt_succ_self _⟩)
      clear hX2 hP10 b1
      obtain ⟨L, hL⟩ : ∃ L, L = pre.map (fun x : Fin N => x.1) := ⟨_, rfl⟩
      obtain ⟨NR, hNR⟩ : ∃ NR, NR = nrw n ds eps f x.1 := ⟨_, rfl⟩
      rw [← hNR] at KN
      have HNR := Lib.hid (And.intro hNR (show NR.length = n by rw [hNR]; exact nrw_len _ _ _ _ _))
      have HLL := Lib.hid (And.intro hL (show L.length = pre.length by rw [hL, List.length_map]))
      have HM0 : Hid (NSt n ds eps f W0 T1 (.slice oT sh.length cT) L (NR.take 0) X2) := Lib.hid (by
        obtain ⟨a1, a2, a3, a4, _, _⟩ := HW.out
        rw [hL, List.take_zero]
        exact ⟨_, a1.below K2.out a1.lt, Below.keepOwn a2 K2.out (Nat.le_refl _), a3.trans (K2.out.mono (by have := E0.out; omega)), Nat.le_trans a4 K2.out.size⟩)
      clear hL hNR
      gi_loopw [58] (fun s58 wQ => ∃ j : Nat, j ≤ n ∧ s58 = .int .i64 j ∧ Hid (NSt n ds eps f W0 T1 (.slice oT sh.length cT) L (NR.take j) wQ) ∧ Hid (Sq W0.heap.size T1 X2 wQ)) (fun s58 _ => n - (intOf s58).toNat)
      case atStart => exact ⟨0, Nat.zero_le _, rfl, HM0, Lib.hid (Sq.refl _ _ _)⟩
      case round =>
        obtain ⟨j, hj, rfl, HM, HS⟩ := hrel
        obtain ⟨vj, m1, m2, m3, m4⟩ := HM.out
        obtain ⟨oj, cj, rfl⟩ := own_form1 m2
        have hHR := HS.out.blk HR.out (by have := HP.out; have := E0.out; have := HW.out.2.2.2.1; omega) (by decide)
        have hBw : Below w.heap.size w wr := F0.out.trans (m3.mono (by have := E0.out; omega))
        by_cases hjn : j < n
        · have hcell := ld_cell (HLD.out wr hBw) (k := j) (by rw [HXL.out.1]; exact hjn)
          have KN1 := Lib.hid (KN.out j hjn)
          have hNS : NR.take (j + 1) = NR.take j ++ [NR.getD j 0] := take_snoc (by rw [HNR.out.2]; exact hjn)
          have hlen : (nrs n ds eps f L ++ NR.take j).length ≤ 65535 := by
            rw [List.length_append, nrs_len, List.length_take, HLL.out.2, HNR.out.2]
            have h1 := HW.out.2.2.2.2.2
            have : (pre.length + 1) * n ≤ N * n := Nat.mul_le_mul_right n h1
            rw [Nat.add_mul, Nat.one_mul] at this
            have := HN1.out.2.1
            omega
          have HNS := Lib.hid hNS
          generalize rl.getD j 0 = aj at *
          generalize NR.getD j 0 = vN at *
          obtain ⟨DL, hDL⟩ : ∃ DL, DL = nrs n ds eps f L ++ NR.take j := ⟨_, rfl⟩
          rw [← hDL] at m1 m2 hlen
          have HDL := Lib.hid hDL
          clear hNS hDL hBw
          obtain ⟨Q, hQq⟩ : ∃ Q : World → Prop, Q = fun V => Below wr.heap.size wr V ∧ Blk V T1 26 #[.slice oT sh.length cT, .slice oj DL.length cj] ∧ V.ownsRow W0.heap.size 2 1 (.slice oj DL.length cj) DL.length (ints DL) ∧ Blk V P10 61 #[.int .i64 (n : Int), .int .i64 SM, .int .i64 hQ, .int .u64 lQ, .int .i64 (f : Int)] := ⟨_, rfl⟩
          have Q0 : Hid (Q wr) := Lib.hid (by rw [hQq]; exact ⟨Below.refl _ _, m1, m2, hHR⟩)
          have Qn : Hid (∀ V V', Q V → Below V.heap.size V V' → Q V') := Lib.hid (fun V V' h hb => by rw [hQq] at h ⊢; exact ⟨h.1.trans (hb.mono h.1.size), h.2.1.below hb h.2.1.lt, Below.keepOwn h.2.2.1 hb (Nat.le_refl _), h.2.2.2.below hb h.2.2.2.lt⟩)
          have Qt : Hid (∀ V, Q V → Below wr.heap.size wr V ∧ Blk V T1 26 #[.slice oT sh.length cT, .slice oj DL.length cj] ∧ V.ownsRow W0.heap.size 2 1 (.slice oj DL.length cj) DL.length (ints DL) ∧ Blk V P10 61 #[.int .i64 (n : Int), .int .i64 SM, .int .i64 hQ, .int .u64 lQ, .int .i64 (f : Int)]) := Lib.hid (fun V h => by rw [hQq] at h; exact h)
          have KSb : Hid (∀ V, Blk V P10 61 #[.int .i64 (n : Int), .int .i64 SM, .int .i64 hQ, .int .u64 lQ, .int .i64 (f : Int)] → V.cell? ⟨P10, 0, none⟩ = some (.int .i64 (n : Int)) ∧ V.cell? ⟨P10, 1, none⟩ = some (.int .i64 SM) ∧ V.cell? ⟨P10, 2, none⟩ = some (.int .i64 hQ) ∧ V.cell? ⟨P10, 3, none⟩ = some (.int .u64 lQ) ∧ V.cell? ⟨P10, 4, none⟩ = some (.int .i64 (f : Int))) := Lib.hid (fun V h => ⟨h.cell 0, h.cell 1, h.cell 2, h.cell 3, h.cell 4⟩)
          have HWR := Lib.hid (And.intro m3 m4)
          clear hQq m1 m2 m3 m4 hHR
          gi_wp2
          have HZ : Hid (∀ V, Q V → W0.heap.size ≤ V.heap.size) := Lib.hid (fun V h => Nat.le_trans HWR.out.2 (Qt.out V h).1.size)
          have B_0 : Hid (Q wr.drew) := Lib.hid (Qn.out _ _ Q0.out (below_drw (Below.refl _ _) 1))
          refine region_inT (S := fun V => V.cell? ⟨P10, 0, none⟩ = some (.int .i64 (n : Int)) ∧ V.cell? ⟨P10, 1, none⟩ = some (.int .i64 SM) ∧ V.cell? ⟨P10, 2, none⟩ = some (.int .i64 hQ) ∧ V.cell? ⟨P10, 3, none⟩ = some (.int .u64 lQ) ∧ V.cell? ⟨P10, 4, none⟩ = some (.int .i64 (f : Int))) (R := fun a2 V2 => ∃ v62 v63 v64 v65 v66 v67 v68 v69 : Value, a2 = { tmps := #[Value.agg #[Value.slice (some { block := gS, off := fS }) sh.length cs, Value.slice (some { block := gX, off := fX }) ds.length cd], Value.int IntKind.i64 eps, Value.int IntKind.i64 (f : Int), Value.pointer (some { block := w.heap.size, off := 0 }), Value.pointer (some { block := w.heap.size + 1, off := 0 }), Value.pointer (some { block := w.heap.size + 1 + 1, off := 0 }), Value.pointer (some { block := w.heap.size + 1 + 1 + 1, off := 0 }), Value.int IntKind.i64 0, Value.pointer (some { block := T1, off := 0 }), Value.slice (some ⟨gX, fX + x.1 * n, none⟩) n n, .pointer (some ⟨P10, 0, none⟩), undef, .int .i64 aj, Value.agg #[Value.slice (some { block := gS, off := fS }) sh.length cs, Value.slice (some { block := gX, off := fX }) ds.length cd], Value.int IntKind.i64 0, Value.bool false, Value.bool false, Value.int IntKind.i64 eps, Value.int IntKind.i64 0, Value.bool false, Value.bool false, Value.bool false, Value.int IntKind.i64 eps, Value.bool (decide (eps ≤ 0)), Value.bool (decide (eps ≤ 0)), Value.bool (decide (eps ≤ 0)), Value.int IntKind.i64 (f : Int), Value.int IntKind.i64 0, Value.bool false, Value.bool (decide (eps ≤ 0)), undef, Value.pointer (some { block := w.heap.size, off := 0 }), Value.slice (some { block := gS, off := fS }) sh.length cs, Value.int IntKind.i64 (sh.length : Int), Value.bool false, undef, Value.pointer (some { block := w.heap.size, off := 0 }), Value.slice (some { block := gS, off := fS }) sh.length cs, Value.slice oT sh.length cT, Value.agg #[Value.slice oT sh.length cT, Value.slice none 0 0], u40, u41, u42, u43, u44, u45, u46, u47, u48, u49, Value.func (Fn.func 40) #[] #[Value.pointer (some { block := C1, off := 0 }), Value.pointer (some { block := C1 + 1, off := 0 })], Value.slice (some ⟨gX, fX + x.1 * n, none⟩) n n, Value.slice (some ⟨gX, fX + x.1 * n, none⟩) n n, .int .i64 eps, .int .i64 (f : Int), .agg #[.int .i64 (n : Int), .int .i64 SM, .int .i64 hQ, .int .u64 lQ, .int .i64 (f : Int)], Value.slice (some ⟨gX, fX + x.1 * n, none⟩) n n, .int .i64 (n : Int), .int .i64 (j : Int), .bool true, .pointer (some ⟨gX, fX + x.1 * n + j, none⟩), .int .i64 aj, v62, v63, v64, v65, v66, v67, v68, v69, u70, undef], defers := [] } ∧ (NSt n ds eps f W0 T1 (.slice oT sh.length cT) L (NR.take (j + 1)) V2 ∧ Sq W0.heap.size T1 wr V2)) (by kernel_rfl) (by kernel_rfl) ?s12 (fun hHeld => ?r12) ?q12
          case s12 => exact KSb.out _ (Qt.out _ B_0.out).2.2.2
          case r12 =>
            as_aux_lemma =>
            have hHd := hHeld
            generalize wr.drew = w_0 at *
            simp only [List.size_toArray, List.length_cons, List.length_nil, Nat.reduceAdd, Array.replicate_succ, Array.replicate_zero, List.push_toArray, List.nil_append, List.cons_append]
            (refine wpAnyH_take (i := 0) (oi := ⟨some 62, _, _, _, _, _⟩) (v := ?v0_q1) rfl (by kernel_rfl) (by kernel_rfl) (by kernel_rfl) (fun _ _ _ h => by cases h.1) (Or.inl ⟨by rfl, ?hy0_q1⟩) (by assumption) ?rest0_q1; (case hy0_q1 => ((intro w hSw); (try dsimp only at hSw); go_simp; first | done | (with_reducible rfl))))
            (try simp only [Act.put, List.setIfInBounds_toArray, List.set_cons_zero, List.set_cons_succ])
            (refine wpAnyH_take (i := 2) (oi := ⟨some 64, _, _, _, _, _⟩) (v := ?v2_q2) rfl (by kernel_rfl) (by kernel_rfl) (by kernel_rfl) (fun _ _ _ h => by cases h.1) (Or.inl ⟨by rfl, ?hy2_q2⟩) (by assumption) ?rest2_q2; (case hy2_q2 => ((intro w hSw); (try dsimp only at hSw); go_simp; first | done | (with_reducible rfl))))
            (try simp only [Act.put, List.setIfInBounds_toArray, List.set_cons_zero, List.set_cons_succ])
            (refine wpAnyH_take (i := 3) (oi := ⟨some 65, _, _, _, _, _⟩) (v := ?v3_q3) rfl (by kernel_rfl) (by kernel_rfl) (by kernel_rfl) (fun _ _ _ h => by cases h.1) (Or.inl ⟨by rfl, ?hy3_q3⟩) (by assumption) ?rest3_q3; (case hy3_q3 => ((intro w hSw); (try dsimp only at hSw); go_simp; first | done | (with_reducible rfl))))
            (try simp only [Act.put, List.setIfInBounds_toArray, List.set_cons_zero, List.set_cons_succ])
            refine wpAnyH_ready (rs := [1, 4]) (by kernel_rfl) (by simp) ?_
            refine AllReadyH.cons (o := ⟨some 63, _, _, _, _, _⟩) rfl (fun K hK => ?_) (AllReadyH.cons (o := ⟨some 66, _, _, _, _, _⟩) rfl (fun K hK => ?_) (AllReadyH.nil))
            · (try clear p0 p1 pf0 pf1)
              obtain ⟨p0, p1, pf0, pf1⟩ := blkz2 (Qt.out _ B_0.out).2.1
              go_simp
              refine hK.out _ _ ?_ (fun hHeld => ?_)
              · (try dsimp only)
                exact KSb.out _ (Qt.out _ B_0.out).2.2.2
              clear hK K
              (try simp only [List.setIfInBounds_toArray, List.set_cons_zero, List.set_cons_succ])
              refine wpAnyH_ready (rs := [4]) (by kernel_rfl) (by simp) ?_
              refine AllReadyH.cons (o := ⟨some 66, _, _, _, _, _⟩) rfl (fun K hK => ?_) (AllReadyH.nil)
              go_simp
              (try clear p0 p1 pf0 pf1)
              (go_at_call 27; (with_reducible refine (KN1.out _).mono ?_); rintro e w_1 ⟨rfl, hb⟩; have B_1 := Lib.hid (Qn.out _ _ B_0.out hb); clear hb)
              refine hK.out _ _ ?_ (fun hHeld => ?_)
              · (try dsimp only)
                exact KSb.out _ (Qt.out _ B_1.out).2.2.2
              clear hK K
              (try simp only [List.setIfInBounds_toArray, List.set_cons_zero, List.set_cons_succ])
              refine wpAnyH_ready (rs := [5]) (by kernel_rfl) (by simp) ?_
              refine AllReadyH.cons (o := ⟨some 67, _, _, _, _, _⟩) rfl (fun K hK => ?_) (AllReadyH.nil)
              (try clear p0 p1 pf0 pf1)
              have X_2 := Lib.hid (Blk.new w_1 2 #[.int .i64 vN])
              have B_2 := Lib.hid (Qn.out _ _ B_1.out (al_below (.cells #[.int .i64 vN] 2)))
              go_simp
              refine hK.out _ _ ?_ (fun hHeld => ?_)
              · (try dsimp only)
                exact KSb.out _ (Qt.out _ B_2.out).2.2.2
              clear hK K
              generalize w_1.alloc (.cells #[.int .i64 vN] 2) = w_2 at *
              (try simp only [List.setIfInBounds_toArray, List.set_cons_zero, List.set_cons_succ])
              refine wpAnyH_ready (rs := [6]) (by kernel_rfl) (by simp) ?_
              refine AllReadyH.cons (o := ⟨some 68, _, _, _, _, _⟩) rfl (fun K hK => ?_) (AllReadyH.nil)
              (try clear p0 p1 pf0 pf1)
              refine step_append_lies _ (by rfl) (.tmp 63) (.tmp 67) 24 (by rfl) W0.heap.size 2 i1 (.int .i64 0) 1 8 Tryz.underlying24 hi1 hy0 hy1 hy2 rfl (by decide) (.slice oj DL.length cj) DL.length (ints DL) (by rfl) (Qt.out _ B_2.out).2.2.1 ⟨w_1.heap.size, 0, none⟩ 1 1 [.int .i64 vN] (by rfl) rfl (World.news_of_block X_2.out) (by simp [Value.oneCell']) (by decide) (by unfold maxLen; omega) (by omega) (HZ.out _ B_2.out) w_2.heap.size rfl ?_
              intro g9 cp9 w9 hown hgrow hat _
              have HOW := Lib.hid hown
              have Q9 := Lib.hid ((Qt.out _ B_2.out).2.1.kept hgrow (fun e => by have := ((Qt.out _ B_2.out).2.2.1.lt T1 e.symm).1; have := E0.out; omega))
              have R9 := Lib.hid ((Qt.out _ B_2.out).2.2.2.kept hgrow (fun e => tens_not_row (Qt.out _ B_2.out).2.2.1 (Qt.out _ B_2.out).2.2.2 (by decide) e.symm))
              have S9 := Lib.hid ((Sq.of (B := W0.heap.size) (T := T1) (Qt.out _ B_2.out).1).trans (sq_step (T := T1) (Qt.out _ B_2.out).2.2.1 hgrow))
              have E9 := Lib.hid ((HWR.out.1.trans ((Qt.out _ B_2.out).1.mono (by have := HWR.out.2; have := E0.out; omega))).grown hgrow (by have := HZ.out _ B_2.out; have := E0.out; omega) (fun q e => by have := ((Qt.out _ B_2.out).2.2.1.lt q e).1; have := E0.out; omega))
              have Z9 := Lib.hid (Nat.le_trans (HZ.out _ B_2.out) hgrow.size)
              clear hown hgrow hat
              refine hK.out _ _ ?_ (fun hHeld => ?_)
              · (try dsimp only)
                exact KSb.out _ R9.out
              clear hK K
              (try simp only [Act.put, List.setIfInBounds_toArray, List.set_cons_zero, List.set_cons_succ])
              (refine wpAnyH_take (i := 7) (oi := ⟨some 69, _, _, _, _, _⟩) (v := ?v7_q4) rfl (by kernel_rfl) (by kernel_rfl) (by kernel_rfl) (fun _ _ _ h => by cases h.1) (Or.inl ⟨by rfl, ?hy7_q4⟩) (by assumption) ?rest7_q4; (case hy7_q4 => ((intro w hSw); (try dsimp only at hSw); go_simp; first | done | (with_reducible rfl))))
              (try simp only [Act.put, List.setIfInBounds_toArray, List.set_cons_zero, List.set_cons_succ])
              refine wpAnyH_ready (rs := [8]) (by kernel_rfl) (by simp) ?_
              refine AllReadyH.cons (o := ⟨none, _, _, _, _, _⟩) rfl (fun K hK => ?_) (AllReadyH.nil)
              (try clear p0 p1 pf0 pf1)
              obtain ⟨p0, p1, pf0, pf1⟩ := blkz2 Q9.out
              have ZF := Lib.hid (Q9.out.set_ 1 (.slice (some ⟨g9, 0, none⟩) (DL.length + 1) cp9))
              have RF := Lib.hid (R9.out.far (p := ⟨T1, 1, none⟩) (by show ¬ P10 = T1; have := HP.out; have := E0.out; have := HW.out.2.2.2.1; omega) (.slice (some ⟨g9, 0, none⟩) (DL.length + 1) cp9))
              go_simp
              refine hK.out _ _ ?_ (fun hHeld => ?_)
              · (try dsimp only)
                exact KSb.out _ RF.out
              clear hK K
              (try simp only [List.setIfInBounds_toArray, List.set_cons_zero, List.set_cons_succ])
              refine wpAnyH_done (by kernel_rfl) ?_ _
              refine ⟨rfl, _, _, _, _, _, _, _, _, rfl, ⟨_, ZF.out, ?_, E9.out.setCell (p := ⟨T1, 1, none⟩) (Nat.le_refl _) _, by rw [World.size_setCell]; exact Z9.out⟩, S9.out.trans (Sq.set _ _)⟩
              rw [HNS.out, ← List.append_assoc, ← HDL.out, ints_snoc, List.length_append]
              exact own_setx (i := 1) HOW.out Q9.out (by decide)
            · go_simp
              (try clear p0 p1 pf0 pf1)
              (go_at_call 27; (with_reducible refine (KN1.out _).mono ?_); rintro e w_3 ⟨rfl, hb⟩; have B_3 := Lib.hid (Qn.out _ _ B_0.out hb); clear hb)
              refine hK.out _ _ ?_ (fun hHeld => ?_)
              · (try dsimp only)
                exact KSb.out _ (Qt.out _ B_3.out).2.2.2
              clear hK K
              (try simp only [List.setIfInBounds_toArray, List.set_cons_zero, List.set_cons_succ])
              refine wpAnyH_ready (rs := [1, 5]) (by kernel_rfl) (by simp) ?_
              refine AllReadyH.cons (o := ⟨some 63, _, _, _, _, _⟩) rfl (fun K hK => ?_) (AllReadyH.cons (o := ⟨some 67, _, _, _, _, _⟩) rfl (fun K hK => ?_) (AllReadyH.nil))
              · (try clear p0 p1 pf0 pf1)
                obtain ⟨p0, p1, pf0, pf1⟩ := blkz2 (Qt.out _ B_3.out).2.1
                go_simp
                refine hK.out _ _ ?_ (fun hHeld => ?_)
                · (try dsimp only)
                  exact KSb.out _ (Qt.out _ B_3.out).2.2.2
                clear hK K
                (try simp only [List.setIfInBounds_toArray, List.set_cons_zero, List.set_cons_succ])
                refine wpAnyH_ready (rs := [5]) (by kernel_rfl) (by simp) ?_
                refine AllReadyH.cons (o := ⟨some 67, _, _, _, _, _⟩) rfl (fun K hK => ?_) (AllReadyH.nil)
                (try clear p0 p1 pf0 pf1)
                have X_4 := Lib.hid (Blk.new w_3 2 #[.int .i64 vN])
                have B_4 := Lib.hid (Qn.out _ _ B_3.out (al_below (.cells #[.int .i64 vN] 2)))
                go_simp
                refine hK.out _ _ ?_ (fun hHeld => ?_)
                · (try dsimp only)
                  exact KSb.out _ (Qt.out _ B_4.out).2.2.2
                clear hK K
                generalize w_3.alloc (.cells #[.int .i64 vN] 2) = w_4 at *
                (try simp only [List.setIfInBounds_toArray, List.set_cons_zero, List.set_cons_succ])
                refine wpAnyH_ready (rs := [6]) (by kernel_rfl) (by simp) ?_
                refine AllReadyH.cons (o := ⟨some 68, _, _, _, _, _⟩) rfl (fun K hK => ?_) (AllReadyH.nil)
                (try clear p0 p1 pf0 pf1)
                refine step_append_lies _ (by rfl) (.tmp 63) (.tmp 67) 24 (by rfl) W0.heap.size 2 i1 (.int .i64 0) 1 8 Tryz.underlying24 hi1 hy0 hy1 hy2 rfl (by decide) (.slice oj DL.length cj) DL.length (ints DL) (by rfl) (Qt.out _ B_4.out).2.2.1 ⟨w_3.heap.size, 0, none⟩ 1 1 [.int .i64 vN] (by rfl) rfl (World.news_of_block X_4.out) (by simp [Value.oneCell']) (by decide) (by unfold maxLen; omega) (by omega) (HZ.out _ B_4.out) w_4.heap.size rfl ?_
                intro g9 cp9 w9 hown hgrow hat _
                have HOW := Lib.hid hown
                have Q9 := Lib.hid ((Qt.out _ B_4.out).2.1.kept hgrow (fun e => by have := ((Qt.out _ B_4.out).2.2.1.lt T1 e.symm).1; have := E0.out; omega))
                have R9 := Lib.hid ((Qt.out _ B_4.out).2.2.2.kept hgrow (fun e => tens_not_row (Qt.out _ B_4.out).2.2.1 (Qt.out _ B_4.out).2.2.2 (by decide) e.symm))
                have S9 := Lib.hid ((Sq.of (B := W0.heap.size) (T := T1) (Qt.out _ B_4.out).1).trans (sq_step (T := T1) (Qt.out _ B_4.out).2.2.1 hgrow))
                have E9 := Lib.hid ((HWR.out.1.trans ((Qt.out _ B_4.out).1.mono (by have := HWR.out.2; have := E0.out; omega))).grown hgrow (by have := HZ.out _ B_4.out; have := E0.out; omega) (fun q e => by have := ((Qt.out _ B_4.out).2.2.1.lt q e).1; have := E0.out; omega))
                have Z9 := Lib.hid (Nat.le_trans (HZ.out _ B_4.out) hgrow.size)
                clear hown hgrow hat
                refine hK.out _ _ ?_ (fun hHeld => ?_)
                · (try dsimp only)
                  exact KSb.out _ R9.out
                clear hK K
                (try simp only [Act.put, List.setIfInBounds_toArray, List.set_cons_zero, List.set_cons_succ])
                (refine wpAnyH_take (i := 7) (oi := ⟨some 69, _, _, _, _, _⟩) (v := ?v7_q5) rfl (by kernel_rfl) (by kernel_rfl) (by kernel_rfl) (fun _ _ _ h => by cases h.1) (Or.inl ⟨by rfl, ?hy7_q5⟩) (by assumption) ?rest7_q5; (case hy7_q5 => ((intro w hSw); (try dsimp only at hSw); go_simp; first | done | (with_reducible rfl))))
                (try simp only [Act.put, List.setIfInBounds_toArray, List.set_cons_zero, List.set_cons_succ])
                refine wpAnyH_ready (rs := [8]) (by kernel_rfl) (by simp) ?_
                refine AllReadyH.cons (o := ⟨none, _, _, _, _, _⟩) rfl (fun K hK => ?_) (AllReadyH.nil)
                (try clear p0 p1 pf0 pf1)
                obtain ⟨p0, p1, pf0, pf1⟩ := blkz2 Q9.out
                have ZF := Lib.hid (Q9.out.set_ 1 (.slice (some ⟨g9, 0, none⟩) (DL.length + 1) cp9))
                have RF := Lib.hid (R9.out.far (p := ⟨T1, 1, none⟩) (by show ¬ P10 = T1; have := HP.out; have := E0.out; have := HW.out.2.2.2.1; omega) (.slice (some ⟨g9, 0, none⟩) (DL.length + 1) cp9))
                go_simp
                refine hK.out _ _ ?_ (fun hHeld => ?_)
                · (try dsimp only)
                  exact KSb.out _ RF.out
                clear hK K
                (try simp only [List.setIfInBounds_toArray, List.set_cons_zero, List.set_cons_succ])
                refine wpAnyH_done (by kernel_rfl) ?_ _
                refine ⟨rfl, _, _, _, _, _, _, _, _, rfl, ⟨_, ZF.out, ?_, E9.out.setCell (p := ⟨T1, 1, none⟩) (Nat.le_refl _) _, by rw [World.size_setCell]; exact Z9.out⟩, S9.out.trans (Sq.set _ _)⟩
                rw [HNS.out, ← List.append_assoc, ← HDL.out, ints_snoc, List.length_append]
                exact own_setx (i := 1) HOW.out Q9.out (by decide)
              · (try clear p0 p1 pf0 pf1)
                have X_5 := Lib.hid (Blk.new w_3 2 #[.int .i64 vN])
                have B_5 := Lib.hid (Qn.out _ _ B_3.out (al_below (.cells #[.int .i64 vN] 2)))
                go_simp
                refine hK.out _ _ ?_ (fun hHeld => ?_)
                · (try dsimp only)
                  exact KSb.out _ (Qt.out _ B_5.out).2.2.2
                clear hK K
                generalize w_3.alloc (.cells #[.int .i64 vN] 2) = w_5 at *
                (try simp only [List.setIfInBounds_toArray, List.set_cons_zero, List.set_cons_succ])
                refine wpAnyH_ready (rs := [1]) (by kernel_rfl) (by simp) ?_
                refine AllReadyH.cons (o := ⟨some 63, _, _, _, _, _⟩) rfl (fun K hK => ?_) (AllReadyH.nil)
                (try clear p0 p1 pf0 pf1)
                obtain ⟨p0, p1, pf0, pf1⟩ := blkz2 (Qt.out _ B_5.out).2.1
                go_simp
                refine hK.out _ _ ?_ (fun hHeld => ?_)
                · (try dsimp only)
                  exact KSb.out _ (Qt.out _ B_5.out).2.2.2
                clear hK K
                (try simp only [List.setIfInBounds_toArray, List.set_cons_zero, List.set_cons_succ])
                refine wpAnyH_ready (rs := [6]) (by kernel_rfl) (by simp) ?_
                refine AllReadyH.cons (o := ⟨some 68, _, _, _, _, _⟩) rfl (fun K hK => ?_) (AllReadyH.nil)
                (try clear p0 p1 pf0 pf1)
                refine step_append_lies _ (by rfl) (.tmp 63) (.tmp 67) 24 (by rfl) W0.heap.size 2 i1 (.int .i64 0) 1 8 Tryz.underlying24 hi1 hy0 hy1 hy2 rfl (by decide) (.slice oj DL.length cj) DL.length (ints DL) (by rfl) (Qt.out _ B_5.out).2.2.1 ⟨w_3.heap.size, 0, none⟩ 1 1 [.int .i64 vN] (by rfl) rfl (World.news_of_block X_5.out) (by simp [Value.oneCell']) (by decide) (by unfold maxLen; omega) (by omega) (HZ.out _ B_5.out) w_5.heap.size rfl ?_
                intro g9 cp9 w9 hown hgrow hat _
                have HOW := Lib.hid hown
                have Q9 := Lib.hid ((Qt.out _ B_5.out).2.1.kept hgrow (fun e => by have := ((Qt.out _ B_5.out).2.2.1.lt T1 e.symm).1; have := E0.out; omega))
                have R9 := Lib.hid ((Qt.out _ B_5.out).2.2.2.kept hgrow (fun e => tens_not_row (Qt.out _ B_5.out).2.2.1 (Qt.out _ B_5.out).2.2.2 (by decide) e.symm))
                have S9 := Lib.hid ((Sq.of (B := W0.heap.size) (T := T1) (Qt.out _ B_5.out).1).trans (sq_step (T := T1) (Qt.out _ B_5.out).2.2.1 hgrow))
                have E9 := Lib.hid ((HWR.out.1.trans ((Qt.out _ B_5.out).1.mono (by have := HWR.out.2; have := E0.out; omega))).grown hgrow (by have := HZ.out _ B_5.out; have := E0.out; omega) (fun q e => by have := ((Qt.out _ B_5.out).2.2.1.lt q e).1; have := E0.out; omega))
                have Z9 := Lib.hid (Nat.le_trans (HZ.out _ B_5.out) hgrow.size)
                clear hown hgrow hat
                refine hK.out _ _ ?_ (fun hHeld => ?_)
                · (try dsimp only)
                  exact KSb.out _ R9.out
                clear hK K
                (try simp only [Act.put, List.setIfInBounds_toArray, List.set_cons_zero, List.set_cons_succ])
                (refine wpAnyH_take (i := 7) (oi := ⟨some 69, _, _, _, _, _⟩) (v := ?v7_q6) rfl (by kernel_rfl) (by kernel_rfl) (by kernel_rfl) (fun _ _ _ h => by cases h.1) (Or.inl ⟨by rfl, ?hy7_q6⟩) (by assumption) ?rest7_q6; (case hy7_q6 => ((intro w hSw); (try dsimp only at hSw); go_simp; first | done | (with_reducible rfl))))
                (try simp only [Act.put, List.setIfInBounds_toArray, List.set_cons_zero, List.set_cons_succ])
                refine wpAnyH_ready (rs := [8]) (by kernel_rfl) (by simp) ?_
                refine AllReadyH.cons (o := ⟨none, _, _, _, _, _⟩) rfl (fun K hK => ?_) (AllReadyH.nil)
                (try clear p0 p1 pf0 pf1)
                obtain ⟨p0, p1, pf0, pf1⟩ := blkz2 Q9.out
                have ZF := Lib.hid (Q9.out.set_ 1 (.slice (some ⟨g9, 0, none⟩) (DL.length + 1) cp9))
                have RF := Lib.hid (R9.out.far (p := ⟨T1, 1, none⟩) (by show ¬ P10 = T1; have := HP.out; have := E0.out; have := HW.out.2.2.2.1; omega) (.slice (some ⟨g9, 0, none⟩) (DL.length + 1) cp9))
                go_simp
                refine hK.out _ _ ?_ (fun hHeld => ?_)
                · (try dsimp only)
                  exact KSb.out _ RF.out
                clear hK K
                (try simp only [List.setIfInBounds_toArray, List.set_cons_zero, List.set_cons_succ])
                refine wpAnyH_done (by kernel_rfl) ?_ _
                refine ⟨rfl, _, _, _, _, _, _, _, _, rfl, ⟨_, ZF.out, ?_, E9.out.setCell (p := ⟨T1, 1, none⟩) (Nat.le_refl _) _, by rw [World.size_setCell]; exact Z9.out⟩, S9.out.trans (Sq.set _ _)⟩
                rw [HNS.out, ← List.append_assoc, ← HDL.out, ints_snoc, List.length_append]
                exact own_setx (i := 1) HOW.out Q9.out (by decide)
          case q12 =>
            rintro a2 X3 ⟨v62, v63, v64, v65, v66, v67, v68, v69, rfl, hN3, hS3⟩
            have HN3 := Lib.hid hN3
            have HS3 := Lib.hid (HS.out.trans hS3)
            clear hN3 hS3
            gi_wp2
            go_roundw
            case rel => exact ⟨j + 1, by omega, by go_num, HN3, HS3⟩
            case measure => simp [intOf]; omega
        · have hjN : j = n := by omega
          subst hjN
          have hF : NSt j ds eps f W0 T1 (.slice oT sh.length cT) ((pre ++ [x]).map (fun x : Fin N => x.1)) [] wr := by
            obtain ⟨vd, c1, c2, c3, c4⟩ := HM.out
            refine ⟨vd, c1, ?_, c3, c4⟩
            have e : nrs j ds eps f L ++ NR.take j = nrs j ds eps f ((pre ++ [x]).map (fun x : Fin N => x.1)) ++ [] := by
              rw [List.append_nil, List.map_append, List.map_cons, List.map_nil, nrs_snoc, ← HLL.out.1, ← HNR.out.1, List.take_of_length_le (by rw [HNR.out.2]; exact Nat.le_refl _)]
            rwa [e] at c2
          have hSW := (Sq.of (B := W0.heap.size) (T := T1) K2.out).trans HS.out
          have hsz := HW.out.2.2.2.1
          have KK := Lib.hid (And.intro (hSW.keeps (show T1 < W0.heap.size by have := E0.out; omega)) (And.intro (show Kp2 C1 (C1 + 1) W wr from ⟨hSW.low (by have := E0.out; omega) (by have := E0.out; omega) (by have := E0.out; omega), hSW.low (by have := E0.out; omega) (by have := E0.out; omega) (by have := E0.out; omega)⟩) (And.intro hF (show (pre ++ [x]).length ≤ N by rw [List.length_append]; have := HW.out.2.2.2.2.2; simp; omega))))
          clear hF hSW hsz m1 m2 m3 m4 hHR hBw
          gi_wp2
          exact KK.out
    case done =>
      as_aux_lemma =>
      rintro Dq ys X hD hys ⟨⟨dv, hTb, hDv, hBX, hXs⟩, _⟩ hK
      have hL : (ys.map (fun x : Fin N => x.1)) = List.range N := by rw [show ys = _ from hys]; exact cks_mapq N _
      rw [hL, List.append_nil, nrs_all eps f HND.out] at hDv
      have hFX : FR X := FRm.out _ _ T1 F1W.out E0.out.1 hBX
      have hBw : Below w.heap.size w X := FRb.out _ hFX
      have R2 := FRr.out _ hFX
      have e0 := E0.out
      have hsz : W0.heap.size ≤ X.heap.size := hXs
      obtain ⟨c0', c1', f0, f1⟩ := blk2 hTb
      obtain ⟨d0, d1, g0, g1⟩ := blk2 R2
      obtain ⟨od, cd2, rfl, _⟩ := Ld.of_owns hDv
      have hRW := own_lowq RW.out hBX OWb.out
      generalize hVL : nrt n ds eps f = VL at *
      have hDa : ¬ Dq = w.heap.size + 3 := by omega
      have HX := Lib.hid (And.intro R2 (And.intro hBw (And.intro hK (And.intro hRW hDv))))
      have HN4 := Lib.hid (And.intro hD (And.intro e0 hsz))
      clear hTb hDv hBX hFX hBw R2 hRW hK hys hL hXs e0 hD hsz hVL
      have HK2 := Lib.hid (show ((X.setCell ⟨w.heap.size + 3, 0, none⟩ (.slice oT sh.length cT)).setCell ⟨w.heap.size + 3, 1, none⟩ (.slice od VL.length cd2)).heap[Dq]? = some (.deferred (some [])) from ((Below.heap_setCell _ _ _ _ hDa).trans (Below.heap_setCell _ _ _ _ hDa)).trans HX.out.2.2.1)
      have E1 := Lib.hid (own_endq HX.out.2.2.2.1 HX.out.1 HX.out.2.2.1 rfl (by decide) (.slice oT sh.length cT) (.slice od VL.length cd2) (.deferred none))
      have E2 := Lib.hid (own_endq HX.out.2.2.2.2 HX.out.1 HX.out.2.2.1 rfl (by decide) (.slice oT sh.length cT) (.slice od VL.length cd2) (.deferred none))
      have E3 := Lib.hid (((HX.out.2.1.setCell (p := ⟨w.heap.size + 3, 0, none⟩) (by show w.heap.size ≤ w.heap.size + 3; omega) (.slice oT sh.length cT)).setCell (p := ⟨w.heap.size + 3, 1, none⟩) (by show w.heap.size ≤ w.heap.size + 3; omega) (.slice od VL.length cd2)).trans (belowK_b (w := w) (Nat.le_refl _) _ Dq _ (.deferred none) (by have := HN4.out; omega) HK2.out rfl rfl))
      have q1 : Blk (((X.setCell ⟨w.heap.size + 3, 0, none⟩ (.slice oT sh.length cT)).setCell ⟨w.heap.size + 3, 1, none⟩ (.slice od VL.length cd2)).putObj Dq (.deferred none)) (w.heap.size + 3) 26 #[.slice oT sh.length cT, .slice od VL.length cd2] := ((HX.out.1.set_ 0 _).set_ 1 _).kept (grownBy_putObj' _ Dq _) (by intro e; cases e; omega)
      have Q := Lib.hid (And.intro (q1.cell 0) (q1.cell 1))
      clear q1 HX
      go_wp2
      refine ⟨by simp, .inl ⟨_, _, rfl, run_takeDeferred HK2.out, ?_⟩⟩
      obtain ⟨p0, p1⟩ := Q.out
      refine ⟨.tuple #[.agg #[.slice oT sh.length cT, .slice od VL.length cd2], .int .i64 0], by simp [results, Tryz.results10, go_sem, p0, p1], ?_⟩
      exact ⟨oT, cT, od, cd2, rfl, E1.out, own_base E2.out (by have := HN4.out; omega), E3.out⟩
    case stop =>
      rintro Dq c pre X hD hp h hK
      exact h.elim
end Go.Proofs.YtldchepfcgbpiaaGreat
namespace Go.Proofs.YtldchepfcgbpiaaGreat
open Go Go.RowKit Go.Shelf
attribute [local go_sem] Oper.semAt_some

theorem num14_any (x : Int) (w : World) : Calls Tryz.prog 32 #[.int .i64 x] w fun e w' => e = .returned (.int .i64 x) ∧ w = w' := by
  go_enter Tryz.func32, Tryz.ntmps32
  go_wp2
  go_ret
  exact ⟨rfl, rfl⟩
/-- Norm's answer, as lists. -/
theorem norm_ld (vs vd : Value) (sh ds : List Int) (eps : Int) (f : Nat) (w : World) (hs : Ld w vs sh) (hd : Ld w vd ds) (ta : tnb sh ds = true) (we : wd eps = true) (e0 : 0 < eps) (hf : fb (f : Int) = true) (h0 : sh.length ≠ 0) (n : Nat) (hn : sh.getD (sh.length - 1) 0 = (n : Nat)) :
    Calls Tryz.prog 10 #[.agg #[vs, vd], .int .i64 eps, .int .i64 (f : Int)] w fun e w' => ∃ os cs od cd, e = .returned (.tuple #[.agg #[.slice os sh.length cs, .slice od ds.length cd], .int .i64 0]) ∧ Ld w' (.slice os sh.length cs) sh ∧ Ld w' (.slice od ds.length cd) (nrt n ds eps f) ∧ Below w.heap.size w w' :=
  (norm_ok vs vd sh ds eps f w hs hd ta we e0 hf h0 n hn).mono fun e w' hh => by
    obtain ⟨ws, wv, rfl, h1, h2, h3⟩ := someT_ld hh
    obtain ⟨os, cs, rfl, _, _⟩ := id h1
    obtain ⟨od, cd, rfl, _, _⟩ := id h2
    rw [nrt_len] at h2
    rw [nrt_len]
    exact ⟨os, cs, od, cd, rfl, h1, h2, h3⟩
set_option maxRecDepth 100000 in
set_option maxHeartbeats 4000000 in
theorem rows13_any (vs vd : Value) (sh : List Int) (n : Int) (w : World) (hs : Ld w vs sh) (h0 : sh.length ≠ 0) (h8 : sh.length ≤ 8) (hn : sh.getD (sh.length - 1) 0 = n) :
    Calls Tryz.prog 17 #[.agg #[vs, vd]] w fun e w' => e = .returned (.int .i64 n) ∧ Below w.heap.size w w' := by
  obtain ⟨os, cs, rfl, _, _⟩ := id hs
  obtain ⟨gS, fS, hoS, _⟩ := ld_at hs (k := 0) (by omega)
  subst hoS
  obtain ⟨m, hm⟩ : ∃ m, m = sh.length - 1 := ⟨_, rfl⟩
  have B1 := Lib.hid ((Below.refl w.heap.size w).alloc (Nat.le_refl _) (.cells #[.slice (some ⟨gS, fS, none⟩) sh.length cs, vd] 26))
  have hc := ld_cell (hs.below B1.out) (k := m) (by omega)
  rw [hm, hn, ← hm] at hc
  obtain ⟨x0, x1, _⟩ := blk2 (Blk.new w 26 #[.slice (some ⟨gS, fS, none⟩) sh.length cs, vd])
  have E1 : wrap64 ((sh.length : Int) - 1) = (m : Int) ∧ IntKind.i64.wrap ((sh.length : Int) - 1) = (m : Int) ∧ m < sh.length := by
    rw [show (sh.length : Int) - 1 = (m : Int) by omega]
    exact ⟨IntWalk.wrap64_in _ (by omega), IntWalk.i64_in _ (by omega), by omega⟩
  obtain ⟨e1, e2, e3⟩ := E1
  have z1 : ¬ sh.length = 0 := h0
  clear hs hm hn h0
  go_enter Tryz.func17, Tryz.ntmps17
  go_wp2
  go_ret
  exact ⟨rfl, B1.out⟩
theorem nrt_wake : nrt 2 [256, 512] 1 8 = [-254, 254] := by decide
theorem ld254 {W : World} {n : Nat} {t : TypeId} (h : W.heap.size = n) : Ld (W.alloc (.cells #[.int .i64 (-254), .int .i64 254] t)) (.slice (some ⟨n, 0, none⟩) 2 2) [-254, 254] := ld2 h
theorem eq14 (W : World) (va vb : Value) (ha : Ld W va [-254, 254]) (hb : Ld W vb [-254, 254]) : Calls Tryz.prog 31 #[va, vb] W fun e w' => e = .returned (.bool true) ∧ Below W.heap.size W w' := eqw_same va vb _ W ha hb (by decide)
set_option maxRecDepth 100000 in
set_option maxHeartbeats 8000000 in
theorem wakes14_any (w : World) : Calls Tryz.prog 13 #[] w fun e w' => e = .returned (.bool true) ∧ Below w.heap.size w w' := by
  obtain ⟨w2, hw2⟩ : ∃ w2, w2 = (w.alloc (.cells #[.int .i64 2] 3)).alloc (.cells #[.int .i64 256, .int .i64 512] 2) := ⟨_, rfl⟩
  have B2 : Hid (Below w.heap.size w w2) := Lib.hid (by rw [hw2]; exact ((Below.refl _ _).alloc (Nat.le_refl _) _).alloc (by simp) _)
  have CN : Hid (Calls Tryz.prog 10 #[.agg #[.slice (some ⟨w.heap.size, 0, none⟩) 1 1, .slice (some ⟨w.heap.size + 1, 0, none⟩) 2 2], .int .i64 1, .int .i64 8] w2 fun e w' => ∃ os cs od cd, e = .returned (.tuple #[.agg #[.slice os 1 cs, .slice od 2 cd], .int .i64 0]) ∧ Ld w' (.slice od 2 cd) [-254, 254] ∧ Below w2.heap.size w2 w') := Lib.hid (by
    have h1 : Ld w2 (.slice (some ⟨w.heap.size, 0, none⟩) 1 1) [2] := by rw [hw2]; exact (ld1 rfl).below (al_below _)
    have h2 : Ld w2 (.slice (some ⟨w.heap.size + 1, 0, none⟩) 2 2) [256, 512] := by rw [hw2]; exact ld2 (by simp)
    refine (norm_ld _ _ [2] [256, 512] 1 8 w2 h1 h2 (by decide) (by decide) (by decide) (by decide) (by decide) 2 rfl).mono fun e w' hh => ?_
    obtain ⟨os, cs, od, cd, rfl, _, h4, h5⟩ := hh
    rw [nrt_wake] at h4
    exact ⟨os, cs, od, cd, rfl, h4, h5⟩)
  have HW2 := Lib.hid hw2
  clear hw2
  go_enter Tryz.func13, Tryz.ntmps13
  go_wp2_with (first
    | (go_at_call 10; rw [← HW2.out]; (with_reducible refine CN.out.mono ?_); rintro e w10 ⟨o4, k4, o5, k5, rfl, h4, hb4⟩; have B10 := Lib.hid (B2.out.trans (hb4.mono B2.out.size)); have H4 := Lib.hid h4; clear h4 hb4)
    | (go_at_call 31; (with_reducible refine (eq14 _ _ _ ((H4.out.below (al_below _)).below (al_below _)) (ld254 (World.size_alloc _ _))).mono ?_); rintro e w11 ⟨rfl, hb6⟩; have B11 := Lib.hid (((B10.out.alloc B10.out.size _).alloc (by have := B10.out.size; simp; omega) _).trans (hb6.mono (by have := B10.out.size; simp; omega))); clear hb6)
    | (go_at_call 32; (with_reducible refine (num14_any _ _).mono ?_); rintro e w' ⟨rfl, rfl⟩))
  go_ret
  exact ⟨rfl, B11.out⟩
end Go.Proofs.YtldchepfcgbpiaaGreat
