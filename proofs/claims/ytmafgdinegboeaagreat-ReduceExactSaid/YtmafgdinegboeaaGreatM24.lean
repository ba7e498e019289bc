/-
  The reference's maxima.
-/
import Derived.Deep.AppendLies
import Derived.Test.YtmafgdinegboeaaGreatM23
namespace Go.Proofs.YtmafgdinegboeaaGreat
open Go Go.RowKit Go.Shelf
attribute [local go_sem] Oper.semAt_some

/-- What the reference's Max hands out. -/
def SomeX (w : World) (s L P : List Int) (e : Ending) (w' : World) : Prop := ∃ os cs od cd op cp, e = .returned (.tuple #[.agg #[.slice os s.length cs, .slice od L.length cd], .slice op P.length cp]) ∧ Ld w' (.slice os s.length cs) s ∧ Ld w' (.slice od L.length cd) L ∧ Ld w' (.slice op P.length cp) P ∧ Below w.heap.size w w'
set_option maxRecDepth 100000 in
set_option maxHeartbeats 6000000 in
theorem rmax_any (vs vd : Value) (sh ds : List Int) (a M : Nat) (w : World) (hs : Ld w vs sh) (hd : Ld w vd ds) (ht : tnb sh ds = true) (ha : a < sh.length) (hM : (M : Int) = prod (lf sh [(a : Int)] 0)) :
    Calls Tryz.prog 34 #[.agg #[vs, vd], .int .i64 (a : Nat)] w (SomeX w (lf sh [(a : Int)] 0) (mxl sh ds a ds.length M) (mpl sh ds a ds.length M)) := by
  obtain ⟨i0, hi0, hz0, hz1, hz2⟩ := info_parts infoI
  obtain ⟨i1, hi1, hy0, hy1, hy2⟩ := info_parts infoW
  obtain ⟨hm, hdl, hw⟩ := tnb_parts ht
  have l4 := may_len hm
  have hp := may_prod hm
  have hM6 : 1 ≤ M ∧ M ≤ ds.length ∧ ds.length ≤ 65536 := by
    have := lf_prod [(a : Int)] sh 0 (may_pos hm)
    omega
  have mkI : ∀ W : World, (Instr.makeSlice 23 (.int .i64 (M : Int)) (.int .i64 (M : Int))).run Tryz.prog W = .ok (.slice (some ⟨W.heap.size, 0, none⟩) M M) (W.alloc (.cells (ints (List.replicate M 0)).toArray 3)) := fun W => by
    have := run_make (w := W) 23 3 i0 (.int .i64 0) Tryz.underlying23 hi0 hz0 .i64 .i64 M M (by omega) (by omega) (by rw [hz2]; omega) (by omega)
    rw [this, hz1, ← made_ints]; simp [Value.cells]
  have mkW : ∀ W : World, (Instr.makeSlice 24 (.int .i64 (M : Int)) (.int .i64 (M : Int))).run Tryz.prog W = .ok (.slice (some ⟨W.heap.size, 0, none⟩) M M) (W.alloc (.cells (ints (List.replicate M 0)).toArray 2)) := fun W => by
    have := run_make (w := W) 24 2 i1 (.int .i64 0) Tryz.underlying24 hi1 hy0 .i64 .i64 M M (by omega) (by omega) (by rw [hy2]; omega) (by omega)
    rw [this, hy1, ← made_ints]; simp [Value.cells]
  obtain ⟨w2, hw2⟩ : ∃ w2, w2 = ((w.alloc (.cells #[vs, vd] 26)).alloc (.cells #[.slice none 0 0, .slice none 0 0] 26)).alloc (.cells #[.int .i64 (a : Int)] 3) := ⟨_, rfl⟩
  have hsz : w2.heap.size = w.heap.size + 3 := by rw [hw2]; simp
  have B2 : Hid (Below w.heap.size w w2) := Lib.hid (by rw [hw2]; exact (((Below.refl _ _).alloc (Nat.le_refl _) _).alloc (by simp) _).alloc (by simp; omega) _)
  have K0 : Hid (Blk w2 w.heap.size 26 #[vs, vd]) := Lib.hid (by rw [hw2]; exact ((Blk.new w _ _).alloc _).alloc _)
  have K1 : Hid (Blk w2 (w.heap.size + 1) 26 #[.slice none 0 0, .slice none 0 0]) := Lib.hid (by rw [hw2]; exact (blk_new1 w _ _ _).alloc _)
  have LA : Hid (Ld w2 (.slice (some ⟨w.heap.size + 2, 0, none⟩) 1 1) [(a : Int)]) := Lib.hid (by
    have q := Blk.new ((w.alloc (.cells #[vs, vd] 26)).alloc (.cells #[.slice none 0 0, .slice none 0 0] 26)) 3 #[.int .i64 (a : Int)]
    rw [World.size_alloc, World.size_alloc, ← hw2] at q
    exact Ld.of_blk (ls := [(a : Int)]) q (Nat.le_refl _))
  have CL := Lib.hid (rleft_any vs _ sh [(a : Int)] w2 (hs.below B2.out) LA.out l4 (by simp))
  have CI := Lib.hid (fun (W : World) (n : Nat) (hW : Below w2.heap.size w2 W) (hn : n < ds.length) => rinto_any vs _ sh [(a : Int)] n W ((hs.below B2.out).below hW) (LA.out.below hW) hm (by omega) (by simp))
  have CT := Lib.hid (fun (W : World) (n : Nat) (hW : Below w2.heap.size w2 W) (hn : n < ds.length) => rat_any vs sh n W ((hs.below B2.out).below hW) hm (by omega) (by omega))
  have CC : Hid (∀ (W : World) (v : Value), Ld W v (lf sh [(a : Int)] 0) → Calls Tryz.prog 46 #[v] W fun e w' => e = .returned (.int .i64 (M : Int)) ∧ W = w') := Lib.hid (fun W v h => by
    have := rcount_any v (lf sh [(a : Int)] 0) W h (may_dms (lf_may [(a : Int)] hm)) (by have := lf_len_le [(a : Int)] sh 0; omega)
    rwa [rct_may (lf_may [(a : Int)] hm), ← hM] at this)
  have HIB := Lib.hid (fun (n : Nat) (hn : n < ds.length) => (into_bd [(a : Int)] (may_pos hm) (n := n) (by omega)).2)
  have HIX := Lib.hid (fun (n : Nat) (hn : n < ds.length) => (inx_iff.1 (atl_inx sh (n : Nat) (may_pos hm) (by omega) (by omega))).2 a ha)
  have HAL := Lib.hid (fun (n : Nat) => atl_len sh (n : Nat))
  have HNM := Lib.hid hM
  have HM6 := Lib.hid hM6
  have HA := Lib.hid (And.intro ha l4)
  obtain ⟨o1, n1, rfl, _, _⟩ := hs
  obtain ⟨o2, n2, rfl, _, hdx⟩ := hd
  have HDX := Lib.hid (fun k (hk : k < ds.length) => hdx k hk)
  have HW := Lib.hid hw2
  have HSZ := Lib.hid hsz
  rw [hw2] at CL
  obtain ⟨L6, hL6⟩ : ∃ L6, L6 = lf sh [(a : Int)] 0 := ⟨_, rfl⟩
  rw [← hL6] at CL CC ⊢
  clear hw2 hsz ht hm hdl hw hM hM6 hp l4 ha hdx hL6
  go_enter Tryz.func34, Tryz.ntmps34
  go_upto_region 3 with (go_at_call 93; (with_reducible refine CL.out.mono ?_); rintro e w3 ⟨v1, rfl, h1, hb1⟩; obtain ⟨oS, cS, rfl, _, _⟩ := id h1; rw [← HW.out] at hb1; have B3 := Lib.hid hb1; have H1 := Lib.hid h1; clear hb1 h1)
  go_upto_region 5 with (go_at_call 46; (with_reducible refine (CC.out _ _ H1.out).mono ?_); rintro e w' ⟨rfl, rfl⟩)
  obtain ⟨w6, hw6⟩ : ∃ w6, w6 = ((w3.alloc (.cells (ints (List.replicate M 0)).toArray 2)).alloc (.cells #[.slice oS L6.length cS, .slice (some ⟨w3.heap.size, 0, none⟩) M M] 26)).alloc (.cells (ints (List.replicate M 0)).toArray 3) := ⟨_, rfl⟩
  rw [← hw6]
  obtain ⟨gd, hgd⟩ : ∃ g, g = w3.heap.size := ⟨_, rfl⟩
  rw [← hgd] at hw6 ⊢
  obtain ⟨T8, hT8⟩ : ∃ g, g = gd + 1 := ⟨_, rfl⟩
  rw [← hT8]
  obtain ⟨gp, hgp⟩ : ∃ g, g = T8 + 1 := ⟨_, rfl⟩
  rw [← hgp]
  have KD0 : Hid (Blk w6 gd 2 (ints (mxl sh ds a 0 M)).toArray) := Lib.hid (by rw [(mxl_zero sh ds a M).1, hw6, hgd]; exact ((Blk.new w3 _ _).alloc _).alloc _)
  have KT0 : Hid (Blk w6 T8 26 #[.slice oS L6.length cS, .slice (some ⟨gd, 0, none⟩) M M]) := Lib.hid (by rw [hw6, hT8, hgd]; exact (blk_new1 w3 _ _ _).alloc _)
  have KP0 : Hid (Blk w6 gp 3 (ints (mpl sh ds a 0 M)).toArray) := Lib.hid (by
    rw [(mxl_zero sh ds a M).2, hw6, hgp, hT8, hgd]
    have q := Blk.new ((w3.alloc (.cells (ints (List.replicate M 0)).toArray 2)).alloc (.cells #[.slice oS L6.length cS, .slice (some ⟨w3.heap.size, 0, none⟩) M M] 26)) 3 (ints (List.replicate M 0)).toArray
    rwa [World.size_alloc, World.size_alloc] at q)
  have BG0 : Hid (Below gd w3 w6) := Lib.hid (by rw [hw6, hgd]; exact (((Below.refl _ _).alloc (Nat.le_refl _) _).alloc (by simp) _).alloc (by simp; omega) _)
  have KF : Hid (∀ W, Below gd w3 W → Below w2.heap.size w2 W ∧ Below w.heap.size w W ∧ Blk W w.heap.size 26 #[.slice o1 sh.length n1, .slice o2 ds.length n2] ∧ Blk W (w.heap.size + 1) 26 #[.slice none 0 0, .slice none 0 0] ∧ Ld W (.slice oS L6.length cS) L6) := Lib.hid (fun W hW => by
    rw [hgd] at hW
    have b := B3.out
    have hs := b.size
    have e2 := HSZ.out
    have b2 := b.trans (hW.mono hs)
    exact ⟨b2, B2.out.trans (b2.mono (by omega)), K0.out.below b2 (by omega), K1.out.below b2 (by omega), H1.out.below hW⟩)
  have HG : Hid (w.heap.size + 3 ≤ gd) := Lib.hid (by have := B3.out.size; have := HSZ.out; omega)
  have nTD : ¬ T8 = gd := by omega
  have nPD : ¬ gp = gd := by omega
  have nDP : ¬ gd = gp := by omega
  have nTP : ¬ T8 = gp := by omega
  have hGP : gd ≤ gp := by omega
  clear hw6 hgd hT8 hgp H1 B3 K0 K1 B2 HW HSZ CL CC mkI mkW LA
  go_wp2
  go_loopw [10] (fun s10 wr => ∃ n : Nat, n ≤ ds.length ∧ s10 = .int .i64 n ∧ Hid (Blk wr gd 2 (ints (mxl sh ds a n M)).toArray) ∧ Hid (Blk wr gp 3 (ints (mpl sh ds a n M)).toArray) ∧ Hid (Blk wr T8 26 #[.slice oS L6.length cS, .slice (some ⟨gd, 0, none⟩) M M]) ∧ Hid (Below gd w3 wr)) (fun s10 _ => ds.length - (intOf s10).toNat)
  case atStart => exact ⟨0, Nat.zero_le _, rfl, KD0, KP0, KT0, BG0⟩
  case round =>
    clear KD0 KP0 KT0 BG0
    obtain ⟨n, hn, rfl, KD, KP, KT, BG⟩ := hrel
    have q0 := KF.out wr BG.out
    have t0 : wr.cell? ⟨w.heap.size, 0, none⟩ = some (.slice o1 sh.length n1) := q0.2.2.1.cell 0
    have t1 : wr.cell? ⟨w.heap.size, 1, none⟩ = some (.slice o2 ds.length n2) := q0.2.2.1.cell 1
    clear q0
    have hnb : n ≤ 65536 := by have := HM6.out; omega
    by_cases hlt : n < ds.length
    · as_aux_lemma =>
      obtain ⟨bD, fD, rfl, hbD, hcD⟩ := HDX.out n hlt
      obtain ⟨k, hka⟩ := Int.eq_ofNat_of_zero_le (HIB.out n hlt).1
      have hkM : k < M := by have h1 := (HIB.out n hlt).2; rw [← HNM.out] at h1; omega
      have CIk := Lib.hid (fun (W : World) (hW : Below w2.heap.size w2 W) => CI.out W n hW hlt)
      rw [hka] at CIk
      have hst := HIX.out n hlt
      have CTk : Hid (∀ (W : World), Below w2.heap.size w2 W → Calls Tryz.prog 50 #[.slice o1 sh.length n1, .int .i64 n] W fun e w' => ∃ b5 f5 c5, e = .returned (.slice (some ⟨b5, f5, none⟩) sh.length c5) ∧ w'.cell? ⟨b5, f5 + a, none⟩ = some (.int .i64 (stx sh a n)) ∧ Below W.heap.size W w') := Lib.hid (fun W hW => (CT.out W n hW hlt).mono (fun e w' hh => by
        obtain ⟨v, rfl, hv, hb⟩ := hh
        obtain ⟨o5, c5, rfl, _, hx5⟩ := hv
        rw [HAL.out n] at hx5
        obtain ⟨b5, f5, rfl, _, hc5⟩ := hx5 a HA.out.1
        exact ⟨b5, f5, c5, by rw [HAL.out n], hc5, hb⟩))
      obtain ⟨st, hstx⟩ : ∃ st, st = stx sh a n := ⟨_, rfl⟩
      have hst0 : 0 ≤ st := by rw [hstx]; exact hst.1
      have hmx := mxl_put (ds := ds) (M := M) hka hkM
      have hmk := mxl_keep (ds := ds) (M := M) hka hkM
      obtain ⟨x, hx⟩ : ∃ x, x = ds.getD n 0 := ⟨_, rfl⟩
      obtain ⟨y, hy⟩ : ∃ y, y = (mxl sh ds a n M).getD k 0 := ⟨_, rfl⟩
      obtain ⟨z, hz⟩ : ∃ z, z = (mpl sh ds a n M).getD k 0 := ⟨_, rfl⟩
      rw [← hx] at hcD hmx hmk
      rw [← hy] at hmx hmk
      rw [← hstx] at CTk hmx hmk
      have HMP := Lib.hid hmx
      have HMK := Lib.hid hmk
      have HY : Hid (∀ W : World, Blk W gd 2 (ints (mxl sh ds a n M)).toArray → W.cell? ⟨gd, k, none⟩ = some (.int .i64 y)) := Lib.hid (fun W h => by rw [hy]; exact (h.cell k).trans (ints_at (by rw [mxl_len]; exact hkM)))
      have HZ : Hid (∀ W : World, Blk W gp 3 (ints (mpl sh ds a n M)).toArray → W.cell? ⟨gp, k, none⟩ = some (.int .i64 z)) := Lib.hid (fun W h => by rw [hz]; exact (h.cell k).trans (ints_at (by rw [mpl_len]; exact hkM)))
      have HXD : Hid (∀ W, Below w.heap.size w W → W.cell? ⟨bD, fD + n, none⟩ = some (.int .i64 x)) := Lib.hid (fun W hW => (hW.cell (p := ⟨bD, fD + n, none⟩) hbD).trans hcD)
      have i1 : (n : Int) < (ds.length : Int) := by omega
      have i2 : (k : Int) < (M : Int) := by omega
      have i3 : (a : Int) < (sh.length : Int) := by have := HA.out.1; omega
      clear hx hy hz hstx hst hmx hmk hka hcD hbD
      go_upto_region 10 with (first
        | (go_at_call 50; (with_reducible refine (CTk.out _ (KF.out _ BG.out).1).mono ?_); rintro e w5 ⟨b5, f5, c5, rfl, hc5, hb5⟩; have B5 := Lib.hid hb5; have HC5 := Lib.hid hc5; have t5 : w5.cell? ⟨w.heap.size, 0, none⟩ = some (.slice o1 sh.length n1) := (KF.out _ (BG.out.trans (hb5.mono (Nat.le_of_lt KD.out.lt)))).2.2.1.cell 0; clear hb5)
        | (go_at_call 94; (with_reducible refine (CIk.out _ (KF.out _ (BG.out.trans (B5.out.mono (Nat.le_of_lt KD.out.lt)))).1).mono ?_); rintro e w7 ⟨rfl, hb7⟩; have B7 := Lib.hid (B5.out.trans (hb7.mono B5.out.size)); clear hb7))
      have KD7 := Lib.hid (KD.out.below B7.out KD.out.lt)
      have KP7 := Lib.hid (KP.out.below B7.out KP.out.lt)
      have KT7 := Lib.hid (KT.out.below B7.out KT.out.lt)
      have BG7 := Lib.hid (BG.out.trans (B7.out.mono (Nat.le_of_lt KD.out.lt)))
      clear hc5 t5 HC5 B5 B7 KD KP KT BG t0 t1 CTk CIk
      have KS : Hid (∀ W, Below w7.heap.size w7 W → W.cell? ⟨w.heap.size, 1, none⟩ = some (.slice (some ⟨bD, fD, none⟩) ds.length n2) ∧ W.cell? ⟨bD, fD + n, none⟩ = some (.int .i64 x) ∧ W.cell? ⟨T8, 1, none⟩ = some (.slice (some ⟨gd, 0, none⟩) M M) ∧ W.cell? ⟨gd, k, none⟩ = some (.int .i64 y)) := Lib.hid (fun W hW => by
        have q := KF.out W (BG7.out.trans (hW.mono (Nat.le_of_lt KD7.out.lt)))
        exact ⟨q.2.2.1.cell 1, HXD.out W q.2.1, (KT7.out.below hW KT7.out.lt).cell 1, HY.out W (KD7.out.below hW KD7.out.lt)⟩)
      have KS2 : Hid (∀ W, Below w7.heap.size w7 W → W.cell? ⟨w.heap.size, 1, none⟩ = some (.slice (some ⟨bD, fD, none⟩) ds.length n2) ∧ W.cell? ⟨bD, fD + n, none⟩ = some (.int .i64 x) ∧ W.cell? ⟨T8, 1, none⟩ = some (.slice (some ⟨gd, 0, none⟩) M M)) := Lib.hid (fun W hW => by
        have q := KS.out W hW
        exact ⟨q.1, q.2.1, q.2.2.1⟩)
      have KS3 : Hid (∀ (W : World) (v : Value), Below w7.heap.size w7 W → (W.setCell ⟨gd, k, none⟩ v).cell? ⟨w.heap.size, 1, none⟩ = some (.slice (some ⟨bD, fD, none⟩) ds.length n2) ∧ (W.setCell ⟨gd, k, none⟩ v).cell? ⟨bD, fD + n, none⟩ = some (.int .i64 x) ∧ (W.setCell ⟨gd, k, none⟩ v).cell? ⟨T8, 1, none⟩ = some (.slice (some ⟨gd, 0, none⟩) M M)) := Lib.hid (fun W v hW => by
        have q := KF.out _ ((BG7.out.trans (hW.mono (Nat.le_of_lt KD7.out.lt))).setCell (p := ⟨gd, k, none⟩) (Nat.le_refl _) v)
        exact ⟨q.2.2.1.cell 1, HXD.out _ q.2.1, ((KT7.out.below hW KT7.out.lt).far (p := ⟨gd, k, none⟩) nTD v).cell 1⟩)
      have B_0 : Hid (Below w7.heap.size w7 w7.drew) := Lib.hid (below_drw (Below.refl _ _) 1)
      by_cases c0 : st = 0
      · as_aux_lemma =>
        have HMX := Lib.hid (HMP.out (.inl c0))
        have d0 : (st == 0) = true := by rw [c0]; rfl
        clear HMP HMK c0 hst0
        refine wp_region_held_drew (S := fun W => W.cell? ⟨w.heap.size, 1, none⟩ = some (.slice (some ⟨bD, fD, none⟩) ds.length n2) ∧ W.cell? ⟨bD, fD + n, none⟩ = some (.int .i64 x) ∧ W.cell? ⟨T8, 1, none⟩ = some (.slice (some ⟨gd, 0, none⟩) M M) ∧ W.cell? ⟨gd, k, none⟩ = some (.int .i64 y)) (by kernel_rfl) ?_ (fun hHeld => ?_)
        · exact KS.out _ B_0.out
        have hHd := hHeld
        (refine wpAnyH_take (i := 0) (oi := ⟨some 47, _, _, _, _, _⟩) (v := ?v0_m111) rfl (by kernel_rfl) (by kernel_rfl) (by kernel_rfl) (fun _ _ _ h => h) (Or.inl ⟨by rfl, ?hy0_m111⟩) (by assumption) ?rest0_m111; (case hy0_m111 => ((intro w hSw); (try dsimp only at hSw); go_simp; first | done | (with_reducible rfl))))
        (try simp only [Act.put, List.setIfInBounds_toArray, List.set_cons_zero, List.set_cons_succ])
        (refine wpAnyH_take (i := 1) (oi := ⟨some 48, _, _, _, _, _⟩) (v := ?v1_m112) rfl (by kernel_rfl) (by kernel_rfl) (by kernel_rfl) (fun _ _ _ h => h) (Or.inl ⟨by rfl, ?hy1_m112⟩) (by assumption) ?rest1_m112; (case hy1_m112 => ((intro w hSw); (try dsimp only at hSw); go_simp; first | done | (with_reducible rfl))))
        (try simp only [Act.put, List.setIfInBounds_toArray, List.set_cons_zero, List.set_cons_succ])
        (refine wpAnyH_take (i := 2) (oi := ⟨some 49, _, _, _, _, _⟩) (v := .bool true) rfl (by kernel_rfl) (by kernel_rfl) (by kernel_rfl) (fun _ _ _ h => h) (Or.inl ⟨by rfl, ?hy2_m113⟩) (by assumption) ?rest2_m113; (case hy2_m113 => ((intro w hSw); (try dsimp only at hSw); go_simp; first | done | (with_reducible rfl))))
        (try simp only [Act.put, List.setIfInBounds_toArray, List.set_cons_zero, List.set_cons_succ])
        (refine wpAnyH_take (i := 3) (oi := ⟨some 50, _, _, _, _, _⟩) (v := _) rfl (by kernel_rfl) (by kernel_rfl) (by kernel_rfl) (fun _ _ _ h => h) (Or.inr ⟨by rfl, rfl⟩) (by assumption) ?_)
        (try simp only [Act.put, List.setIfInBounds_toArray, List.set_cons_zero, List.set_cons_succ])
        (refine wpAnyH_take (i := 4) (oi := ⟨some 51, _, _, _, _, _⟩) (v := _) rfl (by kernel_rfl) (by kernel_rfl) (by kernel_rfl) (fun _ _ _ h => h) (Or.inr ⟨by rfl, rfl⟩) (by assumption) ?_)
        (try simp only [Act.put, List.setIfInBounds_toArray, List.set_cons_zero, List.set_cons_succ])
        (refine wpAnyH_take (i := 5) (oi := ⟨some 52, _, _, _, _, _⟩) (v := _) rfl (by kernel_rfl) (by kernel_rfl) (by kernel_rfl) (fun _ _ _ h => h) (Or.inr ⟨by rfl, rfl⟩) (by assumption) ?_)
        (try simp only [Act.put, List.setIfInBounds_toArray, List.set_cons_zero, List.set_cons_succ])
        (refine wpAnyH_take (i := 6) (oi := ⟨some 53, _, _, _, _, _⟩) (v := _) rfl (by kernel_rfl) (by kernel_rfl) (by kernel_rfl) (fun _ _ _ h => h) (Or.inr ⟨by rfl, rfl⟩) (by assumption) ?_)
        (try simp only [Act.put, List.setIfInBounds_toArray, List.set_cons_zero, List.set_cons_succ])
        (refine wpAnyH_take (i := 7) (oi := ⟨some 54, _, _, _, _, _⟩) (v := _) rfl (by kernel_rfl) (by kernel_rfl) (by kernel_rfl) (fun _ _ _ h => h) (Or.inr ⟨by rfl, rfl⟩) (by assumption) ?_)
        (try simp only [Act.put, List.setIfInBounds_toArray, List.set_cons_zero, List.set_cons_succ])
        (refine wpAnyH_take (i := 8) (oi := ⟨some 55, _, _, _, _, _⟩) (v := _) rfl (by kernel_rfl) (by kernel_rfl) (by kernel_rfl) (fun _ _ _ h => h) (Or.inr ⟨by rfl, rfl⟩) (by assumption) ?_)
        (try simp only [Act.put, List.setIfInBounds_toArray, List.set_cons_zero, List.set_cons_succ])
        (refine wpAnyH_take (i := 9) (oi := ⟨some 56, _, _, _, _, _⟩) (v := _) rfl (by kernel_rfl) (by kernel_rfl) (by kernel_rfl) (fun _ _ _ h => h) (Or.inr ⟨by rfl, rfl⟩) (by assumption) ?_)
        (try simp only [Act.put, List.setIfInBounds_toArray, List.set_cons_zero, List.set_cons_succ])
        (refine wpAnyH_take (i := 10) (oi := ⟨some 57, _, _, _, _, _⟩) (v := _) rfl (by kernel_rfl) (by kernel_rfl) (by kernel_rfl) (fun _ _ _ h => h) (Or.inr ⟨by rfl, rfl⟩) (by assumption) ?_)
        (try simp only [Act.put, List.setIfInBounds_toArray, List.set_cons_zero, List.set_cons_succ])
        (refine wpAnyH_take (i := 11) (oi := ⟨some 58, _, _, _, _, _⟩) (v := _) rfl (by kernel_rfl) (by kernel_rfl) (by kernel_rfl) (fun _ _ _ h => h) (Or.inr ⟨by rfl, rfl⟩) (by assumption) ?_)
        (try simp only [Act.put, List.setIfInBounds_toArray, List.set_cons_zero, List.set_cons_succ])
        (refine wpAnyH_take (i := 12) (oi := ⟨some 59, _, _, _, _, _⟩) (v := _) rfl (by kernel_rfl) (by kernel_rfl) (by kernel_rfl) (fun _ _ _ h => h) (Or.inr ⟨by rfl, rfl⟩) (by assumption) ?_)
        (try simp only [Act.put, List.setIfInBounds_toArray, List.set_cons_zero, List.set_cons_succ])
        (refine wpAnyH_take (i := 13) (oi := ⟨some 60, _, _, _, _, _⟩) (v := _) rfl (by kernel_rfl) (by kernel_rfl) (by kernel_rfl) (fun _ _ _ h => h) (Or.inr ⟨by rfl, rfl⟩) (by assumption) ?_)
        (try simp only [Act.put, List.setIfInBounds_toArray, List.set_cons_zero, List.set_cons_succ])
        (refine wpAnyH_take (i := 14) (oi := ⟨some 61, _, _, _, _, _⟩) (v := ?v14_m1115) rfl (by kernel_rfl) (by kernel_rfl) (by kernel_rfl) (fun _ _ _ h => h) (Or.inl ⟨by rfl, ?hy14_m1115⟩) (by assumption) ?rest14_m1115; (case hy14_m1115 => ((intro w hSw); (try dsimp only at hSw); go_simp; first | done | (with_reducible rfl))))
        (try simp only [Act.put, List.setIfInBounds_toArray, List.set_cons_zero, List.set_cons_succ])
        refine wpAnyH_done (by kernel_rfl) ?_ _
        go_upto_region 11 with fail
        have B_8 : Hid (Below w7.heap.size w7 w7.drew.drew) := Lib.hid (below_drw (below_drw (Below.refl _ _) 1) 1)
        have KD8 : Hid (Blk w7.drew.drew gd 2 (ints (mxl sh ds a n M)).toArray) := Lib.hid (KD7.out.below B_8.out KD7.out.lt)
        have KP8 : Hid (Blk w7.drew.drew gp 3 (ints (mpl sh ds a n M)).toArray) := Lib.hid (KP7.out.below B_8.out KP7.out.lt)
        have KT8 : Hid (Blk w7.drew.drew T8 26 #[.slice oS L6.length cS, .slice (some ⟨gd, 0, none⟩) M M]) := Lib.hid (KT7.out.below B_8.out KT7.out.lt)
        have BG8 : Hid (Below gd w3 w7.drew.drew) := Lib.hid (BG7.out.trans (B_8.out.mono (by have := KD7.out.lt; omega)))
        refine wp_region_held_drew (S := fun W => W.cell? ⟨w.heap.size, 1, none⟩ = some (.slice (some ⟨bD, fD, none⟩) ds.length n2) ∧ W.cell? ⟨bD, fD + n, none⟩ = some (.int .i64 x) ∧ W.cell? ⟨T8, 1, none⟩ = some (.slice (some ⟨gd, 0, none⟩) M M)) (by kernel_rfl) ?_ (fun hHeld => ?_)
        · exact KS2.out _ B_8.out
        have hHd := hHeld
        generalize w7.drew.drew = w_8 at *
        (refine wpAnyH_take (i := 0) (oi := ⟨some 62, _, _, _, _, _⟩) (v := ?v0_na1) rfl (by kernel_rfl) (by kernel_rfl) (by kernel_rfl) (fun _ _ _ h => h) (Or.inl ⟨by rfl, ?hy0_na1⟩) (by assumption) ?rest0_na1; (case hy0_na1 => ((intro w hSw); (try dsimp only at hSw); go_simp; first | done | (with_reducible rfl))))
        (try simp only [Act.put, List.setIfInBounds_toArray, List.set_cons_zero, List.set_cons_succ])
        (refine wpAnyH_take (i := 1) (oi := ⟨some 63, _, _, _, _, _⟩) (v := ?v1_na2) rfl (by kernel_rfl) (by kernel_rfl) (by kernel_rfl) (fun _ _ _ h => h) (Or.inl ⟨by rfl, ?hy1_na2⟩) (by assumption) ?rest1_na2; (case hy1_na2 => ((intro w hSw); (try dsimp only at hSw); go_simp; first | done | (with_reducible rfl))))
        (try simp only [Act.put, List.setIfInBounds_toArray, List.set_cons_zero, List.set_cons_succ])
        (refine wpAnyH_take (i := 2) (oi := ⟨some 64, _, _, _, _, _⟩) (v := ?v2_na3) rfl (by kernel_rfl) (by kernel_rfl) (by kernel_rfl) (fun _ _ _ h => h) (Or.inl ⟨by rfl, ?hy2_na3⟩) (by assumption) ?rest2_na3; (case hy2_na3 => ((intro w hSw); (try dsimp only at hSw); go_simp; first | done | (with_reducible rfl))))
        (try simp only [Act.put, List.setIfInBounds_toArray, List.set_cons_zero, List.set_cons_succ])
        (refine wpAnyH_take (i := 3) (oi := ⟨some 65, _, _, _, _, _⟩) (v := ?v3_na4) rfl (by kernel_rfl) (by kernel_rfl) (by kernel_rfl) (fun _ _ _ h => h) (Or.inl ⟨by rfl, ?hy3_na4⟩) (by assumption) ?rest3_na4; (case hy3_na4 => ((intro w hSw); (try dsimp only at hSw); go_simp; first | done | (with_reducible rfl))))
        (try simp only [Act.put, List.setIfInBounds_toArray, List.set_cons_zero, List.set_cons_succ])
        (refine wpAnyH_take (i := 4) (oi := ⟨some 66, _, _, _, _, _⟩) (v := ?v4_na5) rfl (by kernel_rfl) (by kernel_rfl) (by kernel_rfl) (fun _ _ _ h => h) (Or.inl ⟨by rfl, ?hy4_na5⟩) (by assumption) ?rest4_na5; (case hy4_na5 => ((intro w hSw); (try dsimp only at hSw); go_simp; first | done | (with_reducible rfl))))
        (try simp only [Act.put, List.setIfInBounds_toArray, List.set_cons_zero, List.set_cons_succ])
        (refine wpAnyH_take (i := 5) (oi := ⟨some 67, _, _, _, _, _⟩) (v := ?v5_na6) rfl (by kernel_rfl) (by kernel_rfl) (by kernel_rfl) (fun _ _ _ h => h) (Or.inl ⟨by rfl, ?hy5_na6⟩) (by assumption) ?rest5_na6; (case hy5_na6 => ((intro w hSw); (try dsimp only at hSw); go_simp; first | done | (with_reducible rfl))))
        (try simp only [Act.put, List.setIfInBounds_toArray, List.set_cons_zero, List.set_cons_succ])
        (refine wpAnyH_take (i := 6) (oi := ⟨some 68, _, _, _, _, _⟩) (v := ?v6_na7) rfl (by kernel_rfl) (by kernel_rfl) (by kernel_rfl) (fun _ _ _ h => h) (Or.inl ⟨by rfl, ?hy6_na7⟩) (by assumption) ?rest6_na7; (case hy6_na7 => ((intro w hSw); (try dsimp only at hSw); go_simp; first | done | (with_reducible rfl))))
        (try simp only [Act.put, List.setIfInBounds_toArray, List.set_cons_zero, List.set_cons_succ])
        (refine wpAnyH_take (i := 7) (oi := ⟨some 69, _, _, _, _, _⟩) (v := ?v7_na8) rfl (by kernel_rfl) (by kernel_rfl) (by kernel_rfl) (fun _ _ _ h => h) (Or.inl ⟨by rfl, ?hy7_na8⟩) (by assumption) ?rest7_na8; (case hy7_na8 => ((intro w hSw); (try dsimp only at hSw); go_simp; first | done | (with_reducible rfl))))
        (try simp only [Act.put, List.setIfInBounds_toArray, List.set_cons_zero, List.set_cons_succ])
        (refine wpAnyH_take (i := 8) (oi := ⟨some 70, _, _, _, _, _⟩) (v := ?v8_na9) rfl (by kernel_rfl) (by kernel_rfl) (by kernel_rfl) (fun _ _ _ h => h) (Or.inl ⟨by rfl, ?hy8_na9⟩) (by assumption) ?rest8_na9; (case hy8_na9 => ((intro w hSw); (try dsimp only at hSw); go_simp; first | done | (with_reducible rfl))))
        (try simp only [Act.put, List.setIfInBounds_toArray, List.set_cons_zero, List.set_cons_succ])
        refine wpAnyH_ready (rs := [9]) (by kernel_rfl) (by simp) ?_
        refine AllReadyH.cons (o := ⟨none, _, _, _, _, _⟩) rfl (fun K hK => ?_) (AllReadyH.nil)
        have c0 : w_8.cell? ⟨gd, k, none⟩ = some (.int .i64 y) := HY.out _ KD8.out
        have f0 := KD8.out.frozen k
        go_simp
        refine hK.out _ _ ?_ (fun hHeld => ?_)
        · (try dsimp only)
          exact KS3.out _ _ B_8.out
        clear hK K
        (try simp only [Act.put, List.setIfInBounds_toArray, List.set_cons_zero, List.set_cons_succ])
        refine wpAnyH_done (by kernel_rfl) ?_ _
        have KD9 := Lib.hid (KD8.out.put k x)
        have KP9 := Lib.hid (KP8.out.far (p := ⟨gd, k, none⟩) nPD (.int .i64 x))
        have KT9 := Lib.hid (KT8.out.far (p := ⟨gd, k, none⟩) nTD (.int .i64 x))
        have BG9 := Lib.hid (BG8.out.setCell (p := ⟨gd, k, none⟩) (Nat.le_refl _) (.int .i64 x))
        generalize w_8.setCell ⟨gd, k, none⟩ (.int .i64 x) = w_9 at *
        have c2 : w_9.cell? ⟨gp, k, none⟩ = some (.int .i64 z) := HZ.out _ KP9.out
        have f2 := KP9.out.frozen k
        clear c0 f0
        go_wp2
        exact ⟨⟨n + 1, by omega, by go_num, by rw [HMX.out.1]; exact Lib.hid (KD9.out.far (p := ⟨gp, k, none⟩) nDP _), by rw [HMX.out.2]; exact Lib.hid (KP9.out.put k st), Lib.hid (KT9.out.far (p := ⟨gp, k, none⟩) nTP _), Lib.hid (BG9.out.setCell (p := ⟨gp, k, none⟩) hGP _)⟩, by simp [intOf]; omega⟩
      · have d0 : (st == 0) = false := beq_eq_false_iff_ne.2 c0
        by_cases c1 : y < x
        · as_aux_lemma =>
          have HMX := Lib.hid (HMP.out (.inr c1))
          have d1 : decide (y < x) = true := decide_eq_true c1
          clear HMP HMK c0 hst0 c1
          refine wp_region_held_drew (S := fun W => W.cell? ⟨w.heap.size, 1, none⟩ = some (.slice (some ⟨bD, fD, none⟩) ds.length n2) ∧ W.cell? ⟨bD, fD + n, none⟩ = some (.int .i64 x) ∧ W.cell? ⟨T8, 1, none⟩ = some (.slice (some ⟨gd, 0, none⟩) M M) ∧ W.cell? ⟨gd, k, none⟩ = some (.int .i64 y)) (by kernel_rfl) ?_ (fun hHeld => ?_)
          · exact KS.out _ B_0.out
          have hHd := hHeld
          (refine wpAnyH_take (i := 0) (oi := ⟨some 47, _, _, _, _, _⟩) (v := ?v0_m011) rfl (by kernel_rfl) (by kernel_rfl) (by kernel_rfl) (fun _ _ _ h => h) (Or.inl ⟨by rfl, ?hy0_m011⟩) (by assumption) ?rest0_m011; (case hy0_m011 => ((intro w hSw); (try dsimp only at hSw); go_simp; first | done | (with_reducible rfl))))
          (try simp only [Act.put, List.setIfInBounds_toArray, List.set_cons_zero, List.set_cons_succ])
          (refine wpAnyH_take (i := 1) (oi := ⟨some 48, _, _, _, _, _⟩) (v := ?v1_m012) rfl (by kernel_rfl) (by kernel_rfl) (by kernel_rfl) (fun _ _ _ h => h) (Or.inl ⟨by rfl, ?hy1_m012⟩) (by assumption) ?rest1_m012; (case hy1_m012 => ((intro w hSw); (try dsimp only at hSw); go_simp; first | done | (with_reducible rfl))))
          (try simp only [Act.put, List.setIfInBounds_toArray, List.set_cons_zero, List.set_cons_succ])
          (refine wpAnyH_take (i := 2) (oi := ⟨some 49, _, _, _, _, _⟩) (v := .bool false) rfl (by kernel_rfl) (by kernel_rfl) (by kernel_rfl) (fun _ _ _ h => h) (Or.inl ⟨by rfl, ?hy2_m013⟩) (by assumption) ?rest2_m013; (case hy2_m013 => ((intro w hSw); (try dsimp only at hSw); go_simp; first | done | (with_reducible rfl))))
          (try simp only [Act.put, List.setIfInBounds_toArray, List.set_cons_zero, List.set_cons_succ])
          (refine wpAnyH_take (i := 3) (oi := ⟨some 50, _, _, _, _, _⟩) (v := ?v3_m014) rfl (by kernel_rfl) (by kernel_rfl) (by kernel_rfl) (fun _ _ _ h => h) (Or.inl ⟨by rfl, ?hy3_m014⟩) (by assumption) ?rest3_m014; (case hy3_m014 => ((intro w hSw); (try dsimp only at hSw); go_simp; first | done | (with_reducible rfl))))
          (try simp only [Act.put, List.setIfInBounds_toArray, List.set_cons_zero, List.set_cons_succ])
          (refine wpAnyH_take (i := 4) (oi := ⟨some 51, _, _, _, _, _⟩) (v := ?v4_m015) rfl (by kernel_rfl) (by kernel_rfl) (by kernel_rfl) (fun _ _ _ h => h) (Or.inl ⟨by rfl, ?hy4_m015⟩) (by assumption) ?rest4_m015; (case hy4_m015 => ((intro w hSw); (try dsimp only at hSw); go_simp; first | done | (with_reducible rfl))))
          (try simp only [Act.put, List.setIfInBounds_toArray, List.set_cons_zero, List.set_cons_succ])
          (refine wpAnyH_take (i := 5) (oi := ⟨some 52, _, _, _, _, _⟩) (v := ?v5_m016) rfl (by kernel_rfl) (by kernel_rfl) (by kernel_rfl) (fun _ _ _ h => h) (Or.inl ⟨by rfl, ?hy5_m016⟩) (by assumption) ?rest5_m016; (case hy5_m016 => ((intro w hSw); (try dsimp only at hSw); go_simp; first | done | (with_reducible rfl))))
          (try simp only [Act.put, List.setIfInBounds_toArray, List.set_cons_zero, List.set_cons_succ])
          (refine wpAnyH_take (i := 6) (oi := ⟨some 53, _, _, _, _, _⟩) (v := ?v6_m017) rfl (by kernel_rfl) (by kernel_rfl) (by kernel_rfl) (fun _ _ _ h => h) (Or.inl ⟨by rfl, ?hy6_m017⟩) (by assumption) ?rest6_m017; (case hy6_m017 => ((intro w hSw); (try dsimp only at hSw); go_simp; first | done | (with_reducible rfl))))
          (try simp only [Act.put, List.setIfInBounds_toArray, List.set_cons_zero, List.set_cons_succ])
          (refine wpAnyH_take (i := 7) (oi := ⟨some 54, _, _, _, _, _⟩) (v := ?v7_m018) rfl (by kernel_rfl) (by kernel_rfl) (by kernel_rfl) (fun _ _ _ h => h) (Or.inl ⟨by rfl, ?hy7_m018⟩) (by assumption) ?rest7_m018; (case hy7_m018 => ((intro w hSw); (try dsimp only at hSw); go_simp; first | done | (with_reducible rfl))))
          (try simp only [Act.put, List.setIfInBounds_toArray, List.set_cons_zero, List.set_cons_succ])
          (refine wpAnyH_take (i := 8) (oi := ⟨some 55, _, _, _, _, _⟩) (v := ?v8_m019) rfl (by kernel_rfl) (by kernel_rfl) (by kernel_rfl) (fun _ _ _ h => h) (Or.inl ⟨by rfl, ?hy8_m019⟩) (by assumption) ?rest8_m019; (case hy8_m019 => ((intro w hSw); (try dsimp only at hSw); go_simp; first | done | (with_reducible rfl))))
          (try simp only [Act.put, List.setIfInBounds_toArray, List.set_cons_zero, List.set_cons_succ])
          (refine wpAnyH_take (i := 9) (oi := ⟨some 56, _, _, _, _, _⟩) (v := ?v9_m0110) rfl (by kernel_rfl) (by kernel_rfl) (by kernel_rfl) (fun _ _ _ h => h) (Or.inl ⟨by rfl, ?hy9_m0110⟩) (by assumption) ?rest9_m0110; (case hy9_m0110 => ((intro w hSw); (try dsimp only at hSw); go_simp; first | done | (with_reducible rfl))))
          (try simp only [Act.put, List.setIfInBounds_toArray, List.set_cons_zero, List.set_cons_succ])
          (refine wpAnyH_take (i := 10) (oi := ⟨some 57, _, _, _, _, _⟩) (v := ?v10_m0111) rfl (by kernel_rfl) (by kernel_rfl) (by kernel_rfl) (fun _ _ _ h => h) (Or.inl ⟨by rfl, ?hy10_m0111⟩) (by assumption) ?rest10_m0111; (case hy10_m0111 => ((intro w hSw); (try dsimp only at hSw); go_simp; first | done | (with_reducible rfl))))
          (try simp only [Act.put, List.setIfInBounds_toArray, List.set_cons_zero, List.set_cons_succ])
          (refine wpAnyH_take (i := 11) (oi := ⟨some 58, _, _, _, _, _⟩) (v := ?v11_m0112) rfl (by kernel_rfl) (by kernel_rfl) (by kernel_rfl) (fun _ _ _ h => h) (Or.inl ⟨by rfl, ?hy11_m0112⟩) (by assumption) ?rest11_m0112; (case hy11_m0112 => ((intro w hSw); (try dsimp only at hSw); go_simp; first | done | (with_reducible rfl))))
          (try simp only [Act.put, List.setIfInBounds_toArray, List.set_cons_zero, List.set_cons_succ])
          (refine wpAnyH_take (i := 12) (oi := ⟨some 59, _, _, _, _, _⟩) (v := ?v12_m0113) rfl (by kernel_rfl) (by kernel_rfl) (by kernel_rfl) (fun _ _ _ h => h) (Or.inl ⟨by rfl, ?hy12_m0113⟩) (by assumption) ?rest12_m0113; (case hy12_m0113 => ((intro w hSw); (try dsimp only at hSw); go_simp; first | done | (with_reducible rfl))))
          (try simp only [Act.put, List.setIfInBounds_toArray, List.set_cons_zero, List.set_cons_succ])
          (refine wpAnyH_take (i := 13) (oi := ⟨some 60, _, _, _, _, _⟩) (v := ?v13_m0114) rfl (by kernel_rfl) (by kernel_rfl) (by kernel_rfl) (fun _ _ _ h => h) (Or.inl ⟨by rfl, ?hy13_m0114⟩) (by assumption) ?rest13_m0114; (case hy13_m0114 => ((intro w hSw); (try dsimp only at hSw); go_simp; first | done | (with_reducible rfl))))
          (try simp only [Act.put, List.setIfInBounds_toArray, List.set_cons_zero, List.set_cons_succ])
          (refine wpAnyH_take (i := 14) (oi := ⟨some 61, _, _, _, _, _⟩) (v := ?v14_m0115) rfl (by kernel_rfl) (by kernel_rfl) (by kernel_rfl) (fun _ _ _ h => h) (Or.inl ⟨by rfl, ?hy14_m0115⟩) (by assumption) ?rest14_m0115; (case hy14_m0115 => ((intro w hSw); (try dsimp only at hSw); go_simp; first | done | (with_reducible rfl))))
          (try simp only [Act.put, List.setIfInBounds_toArray, List.set_cons_zero, List.set_cons_succ])
          refine wpAnyH_done (by kernel_rfl) ?_ _
          go_upto_region 11 with fail
          have B_8 : Hid (Below w7.heap.size w7 w7.drew.drew) := Lib.hid (below_drw (below_drw (Below.refl _ _) 1) 1)
          have KD8 : Hid (Blk w7.drew.drew gd 2 (ints (mxl sh ds a n M)).toArray) := Lib.hid (KD7.out.below B_8.out KD7.out.lt)
          have KP8 : Hid (Blk w7.drew.drew gp 3 (ints (mpl sh ds a n M)).toArray) := Lib.hid (KP7.out.below B_8.out KP7.out.lt)
          have KT8 : Hid (Blk w7.drew.drew T8 26 #[.slice oS L6.length cS, .slice (some ⟨gd, 0, none⟩) M M]) := Lib.hid (KT7.out.below B_8.out KT7.out.lt)
          have BG8 : Hid (Below gd w3 w7.drew.drew) := Lib.hid (BG7.out.trans (B_8.out.mono (by have := KD7.out.lt; omega)))
          refine wp_region_held_drew (S := fun W => W.cell? ⟨w.heap.size, 1, none⟩ = some (.slice (some ⟨bD, fD, none⟩) ds.length n2) ∧ W.cell? ⟨bD, fD + n, none⟩ = some (.int .i64 x) ∧ W.cell? ⟨T8, 1, none⟩ = some (.slice (some ⟨gd, 0, none⟩) M M)) (by kernel_rfl) ?_ (fun hHeld => ?_)
          · exact KS2.out _ B_8.out
          have hHd := hHeld
          generalize w7.drew.drew = w_8 at *
          (refine wpAnyH_take (i := 0) (oi := ⟨some 62, _, _, _, _, _⟩) (v := ?v0_nb1) rfl (by kernel_rfl) (by kernel_rfl) (by kernel_rfl) (fun _ _ _ h => h) (Or.inl ⟨by rfl, ?hy0_nb1⟩) (by assumption) ?rest0_nb1; (case hy0_nb1 => ((intro w hSw); (try dsimp only at hSw); go_simp; first | done | (with_reducible rfl))))
          (try simp only [Act.put, List.setIfInBounds_toArray, List.set_cons_zero, List.set_cons_succ])
          (refine wpAnyH_take (i := 1) (oi := ⟨some 63, _, _, _, _, _⟩) (v := ?v1_nb2) rfl (by kernel_rfl) (by kernel_rfl) (by kernel_rfl) (fun _ _ _ h => h) (Or.inl ⟨by rfl, ?hy1_nb2⟩) (by assumption) ?rest1_nb2; (case hy1_nb2 => ((intro w hSw); (try dsimp only at hSw); go_simp; first | done | (with_reducible rfl))))
          (try simp only [Act.put, List.setIfInBounds_toArray, List.set_cons_zero, List.set_cons_succ])
          (refine wpAnyH_take (i := 2) (oi := ⟨some 64, _, _, _, _, _⟩) (v := ?v2_nb3) rfl (by kernel_rfl) (by kernel_rfl) (by kernel_rfl) (fun _ _ _ h => h) (Or.inl ⟨by rfl, ?hy2_nb3⟩) (by assumption) ?rest2_nb3; (case hy2_nb3 => ((intro w hSw); (try dsimp only at hSw); go_simp; first | done | (with_reducible rfl))))
          (try simp only [Act.put, List.setIfInBounds_toArray, List.set_cons_zero, List.set_cons_succ])
          (refine wpAnyH_take (i := 3) (oi := ⟨some 65, _, _, _, _, _⟩) (v := ?v3_nb4) rfl (by kernel_rfl) (by kernel_rfl) (by kernel_rfl) (fun _ _ _ h => h) (Or.inl ⟨by rfl, ?hy3_nb4⟩) (by assumption) ?rest3_nb4; (case hy3_nb4 => ((intro w hSw); (try dsimp only at hSw); go_simp; first | done | (with_reducible rfl))))
          (try simp only [Act.put, List.setIfInBounds_toArray, List.set_cons_zero, List.set_cons_succ])
          (refine wpAnyH_take (i := 4) (oi := ⟨some 66, _, _, _, _, _⟩) (v := ?v4_nb5) rfl (by kernel_rfl) (by kernel_rfl) (by kernel_rfl) (fun _ _ _ h => h) (Or.inl ⟨by rfl, ?hy4_nb5⟩) (by assumption) ?rest4_nb5; (case hy4_nb5 => ((intro w hSw); (try dsimp only at hSw); go_simp; first | done | (with_reducible rfl))))
          (try simp only [Act.put, List.setIfInBounds_toArray, List.set_cons_zero, List.set_cons_succ])
          (refine wpAnyH_take (i := 5) (oi := ⟨some 67, _, _, _, _, _⟩) (v := ?v5_nb6) rfl (by kernel_rfl) (by kernel_rfl) (by kernel_rfl) (fun _ _ _ h => h) (Or.inl ⟨by rfl, ?hy5_nb6⟩) (by assumption) ?rest5_nb6; (case hy5_nb6 => ((intro w hSw); (try dsimp only at hSw); go_simp; first | done | (with_reducible rfl))))
          (try simp only [Act.put, List.setIfInBounds_toArray, List.set_cons_zero, List.set_cons_succ])
          (refine wpAnyH_take (i := 6) (oi := ⟨some 68, _, _, _, _, _⟩) (v := ?v6_nb7) rfl (by kernel_rfl) (by kernel_rfl) (by kernel_rfl) (fun _ _ _ h => h) (Or.inl ⟨by rfl, ?hy6_nb7⟩) (by assumption) ?rest6_nb7; (case hy6_nb7 => ((intro w hSw); (try dsimp only at hSw); go_simp; first | done | (with_reducible rfl))))
          (try simp only [Act.put, List.setIfInBounds_toArray, List.set_cons_zero, List.set_cons_succ])
          (refine wpAnyH_take (i := 7) (oi := ⟨some 69, _, _, _, _, _⟩) (v := ?v7_nb8) rfl (by kernel_rfl) (by kernel_rfl) (by kernel_rfl) (fun _ _ _ h => h) (Or.inl ⟨by rfl, ?hy7_nb8⟩) (by assumption) ?rest7_nb8; (case hy7_nb8 => ((intro w hSw); (try dsimp only at hSw); go_simp; first | done | (with_reducible rfl))))
          (try simp only [Act.put, List.setIfInBounds_toArray, List.set_cons_zero, List.set_cons_succ])
          (refine wpAnyH_take (i := 8) (oi := ⟨some 70, _, _, _, _, _⟩) (v := ?v8_nb9) rfl (by kernel_rfl) (by kernel_rfl) (by kernel_rfl) (fun _ _ _ h => h) (Or.inl ⟨by rfl, ?hy8_nb9⟩) (by assumption) ?rest8_nb9; (case hy8_nb9 => ((intro w hSw); (try dsimp only at hSw); go_simp; first | done | (with_reducible rfl))))
          (try simp only [Act.put, List.setIfInBounds_toArray, List.set_cons_zero, List.set_cons_succ])
          refine wpAnyH_ready (rs := [9]) (by kernel_rfl) (by simp) ?_
          refine AllReadyH.cons (o := ⟨none, _, _, _, _, _⟩) rfl (fun K hK => ?_) (AllReadyH.nil)
          have c0 : w_8.cell? ⟨gd, k, none⟩ = some (.int .i64 y) := HY.out _ KD8.out
          have f0 := KD8.out.frozen k
          go_simp
          refine hK.out _ _ ?_ (fun hHeld => ?_)
          · (try dsimp only)
            exact KS3.out _ _ B_8.out
          clear hK K
          (try simp only [Act.put, List.setIfInBounds_toArray, List.set_cons_zero, List.set_cons_succ])
          refine wpAnyH_done (by kernel_rfl) ?_ _
          have KD9 := Lib.hid (KD8.out.put k x)
          have KP9 := Lib.hid (KP8.out.far (p := ⟨gd, k, none⟩) nPD (.int .i64 x))
          have KT9 := Lib.hid (KT8.out.far (p := ⟨gd, k, none⟩) nTD (.int .i64 x))
          have BG9 := Lib.hid (BG8.out.setCell (p := ⟨gd, k, none⟩) (Nat.le_refl _) (.int .i64 x))
          generalize w_8.setCell ⟨gd, k, none⟩ (.int .i64 x) = w_9 at *
          have c2 : w_9.cell? ⟨gp, k, none⟩ = some (.int .i64 z) := HZ.out _ KP9.out
          have f2 := KP9.out.frozen k
          clear c0 f0
          go_wp2
          exact ⟨⟨n + 1, by omega, by go_num, by rw [HMX.out.1]; exact Lib.hid (KD9.out.far (p := ⟨gp, k, none⟩) nDP _), by rw [HMX.out.2]; exact Lib.hid (KP9.out.put k st), Lib.hid (KT9.out.far (p := ⟨gp, k, none⟩) nTP _), Lib.hid (BG9.out.setCell (p := ⟨gp, k, none⟩) hGP _)⟩, by simp [intOf]; omega⟩
        · as_aux_lemma =>
          have HMX := Lib.hid (HMK.out (by rintro (h | h); exact c0 h; exact c1 h))
          have d1 : decide (y < x) = false := decide_eq_false c1
          clear HMP HMK c0 hst0 c1
          refine wp_region_held_drew (S := fun W => W.cell? ⟨w.heap.size, 1, none⟩ = some (.slice (some ⟨bD, fD, none⟩) ds.length n2) ∧ W.cell? ⟨bD, fD + n, none⟩ = some (.int .i64 x) ∧ W.cell? ⟨T8, 1, none⟩ = some (.slice (some ⟨gd, 0, none⟩) M M) ∧ W.cell? ⟨gd, k, none⟩ = some (.int .i64 y)) (by kernel_rfl) ?_ (fun hHeld => ?_)
          · exact KS.out _ B_0.out
          have hHd := hHeld
          (refine wpAnyH_take (i := 0) (oi := ⟨some 47, _, _, _, _, _⟩) (v := ?v0_m001) rfl (by kernel_rfl) (by kernel_rfl) (by kernel_rfl) (fun _ _ _ h => h) (Or.inl ⟨by rfl, ?hy0_m001⟩) (by assumption) ?rest0_m001; (case hy0_m001 => ((intro w hSw); (try dsimp only at hSw); go_simp; first | done | (with_reducible rfl))))
          (try simp only [Act.put, List.setIfInBounds_toArray, List.set_cons_zero, List.set_cons_succ])
          (refine wpAnyH_take (i := 1) (oi := ⟨some 48, _, _, _, _, _⟩) (v := ?v1_m002) rfl (by kernel_rfl) (by kernel_rfl) (by kernel_rfl) (fun _ _ _ h => h) (Or.inl ⟨by rfl, ?hy1_m002⟩) (by assumption) ?rest1_m002; (case hy1_m002 => ((intro w hSw); (try dsimp only at hSw); go_simp; first | done | (with_reducible rfl))))
          (try simp only [Act.put, List.setIfInBounds_toArray, List.set_cons_zero, List.set_cons_succ])
          (refine wpAnyH_take (i := 2) (oi := ⟨some 49, _, _, _, _, _⟩) (v := .bool false) rfl (by kernel_rfl) (by kernel_rfl) (by kernel_rfl) (fun _ _ _ h => h) (Or.inl ⟨by rfl, ?hy2_m003⟩) (by assumption) ?rest2_m003; (case hy2_m003 => ((intro w hSw); (try dsimp only at hSw); go_simp; first | done | (with_reducible rfl))))
          (try simp only [Act.put, List.setIfInBounds_toArray, List.set_cons_zero, List.set_cons_succ])
          (refine wpAnyH_take (i := 3) (oi := ⟨some 50, _, _, _, _, _⟩) (v := ?v3_m004) rfl (by kernel_rfl) (by kernel_rfl) (by kernel_rfl) (fun _ _ _ h => h) (Or.inl ⟨by rfl, ?hy3_m004⟩) (by assumption) ?rest3_m004; (case hy3_m004 => ((intro w hSw); (try dsimp only at hSw); go_simp; first | done | (with_reducible rfl))))
          (try simp only [Act.put, List.setIfInBounds_toArray, List.set_cons_zero, List.set_cons_succ])
          (refine wpAnyH_take (i := 4) (oi := ⟨some 51, _, _, _, _, _⟩) (v := ?v4_m005) rfl (by kernel_rfl) (by kernel_rfl) (by kernel_rfl) (fun _ _ _ h => h) (Or.inl ⟨by rfl, ?hy4_m005⟩) (by assumption) ?rest4_m005; (case hy4_m005 => ((intro w hSw); (try dsimp only at hSw); go_simp; first | done | (with_reducible rfl))))
          (try simp only [Act.put, List.setIfInBounds_toArray, List.set_cons_zero, List.set_cons_succ])
          (refine wpAnyH_take (i := 5) (oi := ⟨some 52, _, _, _, _, _⟩) (v := ?v5_m006) rfl (by kernel_rfl) (by kernel_rfl) (by kernel_rfl) (fun _ _ _ h => h) (Or.inl ⟨by rfl, ?hy5_m006⟩) (by assumption) ?rest5_m006; (case hy5_m006 => ((intro w hSw); (try dsimp only at hSw); go_simp; first | done | (with_reducible rfl))))
          (try simp only [Act.put, List.setIfInBounds_toArray, List.set_cons_zero, List.set_cons_succ])
          (refine wpAnyH_take (i := 6) (oi := ⟨some 53, _, _, _, _, _⟩) (v := ?v6_m007) rfl (by kernel_rfl) (by kernel_rfl) (by kernel_rfl) (fun _ _ _ h => h) (Or.inl ⟨by rfl, ?hy6_m007⟩) (by assumption) ?rest6_m007; (case hy6_m007 => ((intro w hSw); (try dsimp only at hSw); go_simp; first | done | (with_reducible rfl))))
          (try simp only [Act.put, List.setIfInBounds_toArray, List.set_cons_zero, List.set_cons_succ])
          (refine wpAnyH_take (i := 7) (oi := ⟨some 54, _, _, _, _, _⟩) (v := ?v7_m008) rfl (by kernel_rfl) (by kernel_rfl) (by kernel_rfl) (fun _ _ _ h => h) (Or.inl ⟨by rfl, ?hy7_m008⟩) (by assumption) ?rest7_m008; (case hy7_m008 => ((intro w hSw); (try dsimp only at hSw); go_simp; first | done | (with_reducible rfl))))
          (try simp only [Act.put, List.setIfInBounds_toArray, List.set_cons_zero, List.set_cons_succ])
          (refine wpAnyH_take (i := 8) (oi := ⟨some 55, _, _, _, _, _⟩) (v := ?v8_m009) rfl (by kernel_rfl) (by kernel_rfl) (by kernel_rfl) (fun _ _ _ h => h) (Or.inl ⟨by rfl, ?hy8_m009⟩) (by assumption) ?rest8_m009; (case hy8_m009 => ((intro w hSw); (try dsimp only at hSw); go_simp; first | done | (with_reducible rfl))))
          (try simp only [Act.put, List.setIfInBounds_toArray, List.set_cons_zero, List.set_cons_succ])
          (refine wpAnyH_take (i := 9) (oi := ⟨some 56, _, _, _, _, _⟩) (v := ?v9_m0010) rfl (by kernel_rfl) (by kernel_rfl) (by kernel_rfl) (fun _ _ _ h => h) (Or.inl ⟨by rfl, ?hy9_m0010⟩) (by assumption) ?rest9_m0010; (case hy9_m0010 => ((intro w hSw); (try dsimp only at hSw); go_simp; first | done | (with_reducible rfl))))
          (try simp only [Act.put, List.setIfInBounds_toArray, List.set_cons_zero, List.set_cons_succ])
          (refine wpAnyH_take (i := 10) (oi := ⟨some 57, _, _, _, _, _⟩) (v := ?v10_m0011) rfl (by kernel_rfl) (by kernel_rfl) (by kernel_rfl) (fun _ _ _ h => h) (Or.inl ⟨by rfl, ?hy10_m0011⟩) (by assumption) ?rest10_m0011; (case hy10_m0011 => ((intro w hSw); (try dsimp only at hSw); go_simp; first | done | (with_reducible rfl))))
          (try simp only [Act.put, List.setIfInBounds_toArray, List.set_cons_zero, List.set_cons_succ])
          (refine wpAnyH_take (i := 11) (oi := ⟨some 58, _, _, _, _, _⟩) (v := ?v11_m0012) rfl (by kernel_rfl) (by kernel_rfl) (by kernel_rfl) (fun _ _ _ h => h) (Or.inl ⟨by rfl, ?hy11_m0012⟩) (by assumption) ?rest11_m0012; (case hy11_m0012 => ((intro w hSw); (try dsimp only at hSw); go_simp; first | done | (with_reducible rfl))))
          (try simp only [Act.put, List.setIfInBounds_toArray, List.set_cons_zero, List.set_cons_succ])
          (refine wpAnyH_take (i := 12) (oi := ⟨some 59, _, _, _, _, _⟩) (v := ?v12_m0013) rfl (by kernel_rfl) (by kernel_rfl) (by kernel_rfl) (fun _ _ _ h => h) (Or.inl ⟨by rfl, ?hy12_m0013⟩) (by assumption) ?rest12_m0013; (case hy12_m0013 => ((intro w hSw); (try dsimp only at hSw); go_simp; first | done | (with_reducible rfl))))
          (try simp only [Act.put, List.setIfInBounds_toArray, List.set_cons_zero, List.set_cons_succ])
          (refine wpAnyH_take (i := 13) (oi := ⟨some 60, _, _, _, _, _⟩) (v := ?v13_m0014) rfl (by kernel_rfl) (by kernel_rfl) (by kernel_rfl) (fun _ _ _ h => h) (Or.inl ⟨by rfl, ?hy13_m0014⟩) (by assumption) ?rest13_m0014; (case hy13_m0014 => ((intro w hSw); (try dsimp only at hSw); go_simp; first | done | (with_reducible rfl))))
          (try simp only [Act.put, List.setIfInBounds_toArray, List.set_cons_zero, List.set_cons_succ])
          (refine wpAnyH_take (i := 14) (oi := ⟨some 61, _, _, _, _, _⟩) (v := ?v14_m0015) rfl (by kernel_rfl) (by kernel_rfl) (by kernel_rfl) (fun _ _ _ h => h) (Or.inl ⟨by rfl, ?hy14_m0015⟩) (by assumption) ?rest14_m0015; (case hy14_m0015 => ((intro w hSw); (try dsimp only at hSw); go_simp; first | done | (with_reducible rfl))))
          (try simp only [Act.put, List.setIfInBounds_toArray, List.set_cons_zero, List.set_cons_succ])
          refine wpAnyH_done (by kernel_rfl) ?_ _
          go_wp2
          exact ⟨⟨n + 1, by omega, by go_num, by rw [HMX.out.1]; exact Lib.hid (KD7.out.below B_0.out KD7.out.lt), by rw [HMX.out.2]; exact Lib.hid (KP7.out.below B_0.out KP7.out.lt), Lib.hid (KT7.out.below B_0.out KT7.out.lt), Lib.hid (BG7.out.trans (B_0.out.mono (by have := KD7.out.lt; omega)))⟩, by simp [intOf]; omega⟩
    · as_aux_lemma =>
      obtain rfl : n = ds.length := by omega
      have q9 := KF.out wr BG.out
      have K00 := Lib.hid q9.2.2.2.1
      have HLS := Lib.hid q9.2.2.2.2
      have BW := Lib.hid q9.2.1
      have HLD := Lib.hid (Ld.of_blk KD.out (c := M) (by rw [mxl_len]; exact Nat.le_refl _))
      have HLP := Lib.hid (Ld.of_blk KP.out (c := M) (by rw [mpl_len]; exact Nat.le_refl _))
      obtain ⟨u0, u1, _⟩ := blk2 KT.out
      obtain ⟨r0, r1, rf0, rf1⟩ := blk2 K00.out
      clear q9 hlt
      go_wp2
      refine bodyPost_ret (v := .tuple #[.agg #[.slice oS L6.length cS, .slice (some ⟨gd, 0, none⟩) M M], .slice (some ⟨gp, 0, none⟩) M M]) (by simp [results, Tryz.results34, go_sem, r0, r1]) rfl ?_
      have hd1 := HLD.out
      have hp1 := HLP.out
      refine ⟨oS, cS, _, M, _, M, by rw [mxl_len, mpl_len], ldg2 K00.out HLS.out, ldg2 K00.out hd1, ldg2 K00.out hp1, (BW.out.setCell (p := ⟨w.heap.size + 1, 0, none⟩) (Nat.le_succ _) _).setCell (p := ⟨w.heap.size + 1, 1, none⟩) (Nat.le_succ _) _⟩
end Go.Proofs.YtmafgdinegboeaaGreat
