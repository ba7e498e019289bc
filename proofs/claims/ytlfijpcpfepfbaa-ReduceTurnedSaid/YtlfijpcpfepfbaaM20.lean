/-
  The reference's Copy.
  What ReduceTurned says, in numbers: a table by columns, and turned by rows.
-/
import Derived.Deep.RegionHeld3
import Derived.Test.YtlfijpcpfepfbaaM08
import Derived.Test.YtlfijpcpfepfbaaM16
import Derived.Test.YtlfijpcpfepfbaaM18
namespace Go.Proofs.Ytlfijpcpfepfbaa
open Go.RowKit Go.Shelf

/-- A tensor in memory. -/
def RefT (w : World) (sh ds : List Int) (e : Ending) (w' : World) : Prop := ∃ os cs od cd, e = .returned (.agg #[.slice os sh.length cs, .slice od ds.length cd]) ∧ Ld w' (.slice os sh.length cs) sh ∧ Ld w' (.slice od ds.length cd) ds ∧ Below w.heap.size w w'
set_option maxRecDepth 100000 in
set_option maxHeartbeats 20000000 in
theorem rcopyt_any (vs vt vd : Value) (sh st ls : List Int) (off : Int) (N : Nat) (w : World) (hs : Ld w vs sh) (ht : Ld w vt st) (hd : Ld w vd ls) (hv : Vw sh st off ls.length) (hN : (N : Int) = prod sh) :
    Calls Try.prog 19 #[.agg #[vs, vt, .int .i64 off], vd] w (RefT w sh (cps sh st off ls N)) := by
  obtain ⟨i0, hi0, hz0, hz1, hz2⟩ := info_parts infoW
  have hN6 : 1 ≤ N ∧ N ≤ 65536 := by have := may_prod hv.1; omega
  have l4 := may_len hv.1
  have HS := Lib.hid (And.intro hs (And.intro ht (And.intro hd (And.intro hv hN))))
  obtain ⟨w3, hw3⟩ : ∃ w3, w3 = (w.alloc (.cells #[vs, vt, .int .i64 off] 47)).alloc (.cells #[.slice none 0 0, .slice none 0 0] 26) := ⟨_, rfl⟩
  have hsz : w3.heap.size = w.heap.size + 2 := by rw [hw3]; simp
  have B3 : Below w.heap.size w w3 := by rw [hw3]; exact ((Below.refl _ _).alloc (Nat.le_refl _) _).alloc (by simp) _
  have K0 : Hid (Blk w3 w.heap.size 47 #[vs, vt, .int .i64 off]) := by rw [hw3]; exact (Blk.new w _ _).alloc _
  have K1 : Hid (Blk w3 (w.heap.size + 1) 26 #[.slice none 0 0, .slice none 0 0]) := by rw [hw3]; exact blk_new1 w _ _ _
  have C1 : Hid (∀ n, w3.heap.size = n → Calls Try.prog 42 #[vs] w3 fun e w' => ∃ o c, e = .returned (.slice o sh.length c) ∧ w'.ownsRow n 3 1 (.slice o sh.length c) sh.length (ints sh) ∧ Below n w3 w') := fun n hn => by
    subst hn
    exact (copy_any vs sh w3 (hs.below B3) (by omega)).mono (by rintro e w' ⟨o, c, rfl, h2, _, h3⟩; exact ⟨o, c, rfl, h2, h3⟩)
  replace C1 := Lib.hid (C1.out (w.heap.size + 2) hsz)
  have HW3 := Lib.hid hw3
  rw [hw3] at C1
  obtain ⟨o1, c1, rfl, _, _⟩ := hs
  obtain ⟨o2, c2, rfl, _, _⟩ := ht
  obtain ⟨o3, c3, rfl, _, _⟩ := id hd
  have HB3 := Lib.hid B3
  obtain ⟨z0, z1, z2, _⟩ := blk3 (show Blk w3 w.heap.size 47 #[.slice o1 sh.length c1, .slice o2 st.length c2, .int .i64 off] from K0.out)
  rw [hw3] at z0 z1 z2
  clear hv hN hd hw3 B3
  go_enter Try.func19, Try.ntmps19
  go_wp2_with (go_at_call 42; (with_reducible refine C1.out.mono ?_); rintro e w5 ⟨oS, cS, rfl, h1, h3⟩; rw [← HW3.out] at h3; have SV := Lib.hid h1; have B35 := Lib.hid (show Below w3.heap.size w3 w5 by rw [hsz]; exact h3); clear h1 h3)
  obtain ⟨T, hTT⟩ : ∃ T, T = w5.heap.size := ⟨_, rfl⟩
  have s5 : w.heap.size + 2 ≤ T := by rw [hTT, ← hsz]; exact B35.out.size
  have B5 := Lib.hid (HB3.out.trans (B35.out.mono (by omega)))
  have K05 := Lib.hid (K0.out.below B35.out (by omega))
  have K15 := Lib.hid (K1.out.below B35.out (by omega))
  clear z0 z1 z2
  go_loopw [6] (fun s6 wr => ∃ k : Nat, k ≤ N ∧ s6 = .int .i64 k ∧ Hid (Below w.heap.size w wr) ∧ Hid (CpI w5.heap.size (T + 1) w5 (.slice oS sh.length cS) (cps sh st off ls N) k wr)) (fun s6 _ => N - (intOf s6).toNat)
  case atStart =>
    refine ⟨0, Nat.zero_le _, rfl, B5.out.alloc B5.out.size _, .slice none 0 0, Blk.new w5 _ _, ⟨rfl, .inl ⟨rfl, rfl⟩⟩, (Below.refl _ _).alloc (Nat.le_refl _) _, by rw [hTT]; simp⟩
  case round =>
    obtain ⟨k, hk, rfl, HW, HC⟩ := hrel
    obtain ⟨dv, hT1, hO1, hZ1, hXs⟩ := id HC.out
    rw [← hTT] at hT1 hZ1
    have HT := Lib.hid hT1
    have HO := Lib.hid hO1
    have HZ := Lib.hid hZ1
    clear hT1 hO1 hZ1
    have OLD0 : Hid (∀ W, Below T w5 W → Blk W w.heap.size 47 #[.slice o1 sh.length c1, .slice o2 st.length c2, .int .i64 off] ∧ Blk W (w.heap.size + 1) 26 #[.slice none 0 0, .slice none 0 0] ∧ Below w.heap.size w W) := Lib.hid (fun W hW => ⟨K05.out.below hW (by omega), K15.out.below hW (by omega), B5.out.trans (hW.mono (by omega))⟩)
    obtain ⟨x0, x1, x2, _⟩ := blk3 (OLD0.out _ HZ.out).1
    have wl : w.heap.size < wr.heap.size := by omega
    have KC : Hid (Calls Try.prog 12 #[.slice o1 sh.length c1] wr fun e w' => e = .returned (.int .i64 (N : Int)) ∧ wr = w') := Lib.hid (by
      have h := rcount_any _ sh wr (HS.out.1.below HW.out) (may_dms HS.out.2.2.2.1.1) (by omega)
      rwa [rct_may HS.out.2.2.2.1.1, ← HS.out.2.2.2.2] at h)
    by_cases hlt : k < N
    · have KA := Lib.hid (fun (W : World) (hW : Below w.heap.size w W) => rat_any _ sh (k : Nat) W (HS.out.1.below hW) HS.out.2.2.2.1.1 (by omega) (by have := HS.out.2.2.2.2; omega))
      obtain ⟨hm, hl, hst, h0, h5, h6, h7⟩ := HS.out.2.2.2.1
      have hp := may_pos hm
      have hNN := HS.out.2.2.2.2
      have hat := vw_at HS.out.2.2.2.1 (atl_inx sh (k : Nat) hp (by omega) (by omega))
      obtain ⟨P, hP⟩ := Int.eq_ofNat_of_zero_le hat.1
      have EA := Lib.hid (cps_snoc (ls := ls) (k := k) (N := N) hlt hP)
      rw [hP] at hat
      have hPl : P < ls.length := by omega
      have KP : Hid (∀ (W : World) (v : Value), Ld W v (atl sh (k : Nat)) → Below w.heap.size w W → Calls Try.prog 43 #[.agg #[.slice o1 sh.length c1, .slice o2 st.length c2, .int .i64 off], v] W fun e w' => e = .returned (.int .i64 (P : Int)) ∧ Below W.heap.size W w') := Lib.hid (fun W v h hW => by
        have := rplace_any (.slice o1 sh.length c1) (.slice o2 st.length c2) v st (atl sh (k : Nat)) off W (HS.out.2.1.below hW) h (by rw [atl_len]; exact hl) (by omega) hst (atl_nn hp (by omega) (by omega)) h0 (by rw [hP]; omega)
        rwa [hP] at this)
      obtain ⟨o3', c3', e3, _, hx3⟩ := HS.out.2.2.1
      simp only [Value.slice.injEq] at e3
      obtain ⟨rfl, _, rfl⟩ := e3
      obtain ⟨b3, f3, rfl, hb3, hc3⟩ := hx3 P hPl
      have kD := (HW.out.cell (p := ⟨b3, f3 + P, none⟩) hb3).trans hc3
      have KY := Lib.hid (fun (W : World) (hW : Below wr.heap.size wr W) => (hW.cell (p := ⟨b3, f3 + P, none⟩) (Nat.lt_trans hb3 wl)).trans kD)
      have KQ := Lib.hid (fun (W : World) (hW : Below wr.heap.size wr W) => And.intro (blk3 ((OLD0.out _ HZ.out).1.below hW wl)) (blk2 (HT.out.below hW HT.out.lt)))
      have OLD := Lib.hid (fun (W : World) (hW : Below T w5 W) => And.intro (blk3 (OLD0.out W hW).1).1 (And.intro (blk3 (OLD0.out W hW).1).2.1 (And.intro (blk3 (OLD0.out W hW).1).2.2.1 (((OLD0.out W hW).2.2.cell (p := ⟨b3, f3 + P, none⟩) hb3).trans hc3))))
      have BD : Hid (Below w.heap.size w wr.drew) := below_drw HW.out 1
      have BR : Hid (Below wr.heap.size wr wr.drew) := below_drw (Below.refl _ _) 1
      obtain ⟨_, sc, _, sf⟩ := blk2 HT.out
      have hPi : (P : Int) < (ls.length : Int) := by omega
      have hP0 : (0 : Int) ≤ (P : Int) := by omega
      clear hm hl hst h0 h5 h6 h7 hp hNN hat hP hx3
      generalize hy : ls.getD P 0 = y at *
      clear hy
      subst hTT
      go_upto_region 5 with (first | (go_at_call 12; (with_reducible refine KC.out.mono ?_); rintro e w' ⟨rfl, rfl⟩))
      refine wp_region_held_drew (S := (fun W => W.cell? ⟨w.heap.size, 0, none⟩ = some (.slice o1 sh.length c1) ∧ W.cell? ⟨w.heap.size, 1, none⟩ = some (.slice o2 st.length c2) ∧ W.cell? ⟨w.heap.size, 2, none⟩ = some (.int .i64 off) ∧ W.cell? ⟨b3, f3 + P, none⟩ = some (.int .i64 y))) (by kernel_rfl) ?_ (fun hHeld => ?_)
      · exact ⟨x0, x1, x2, kD⟩
      have hHd := hHeld
      (refine wpAnyH_take (i := 0) (oi := ⟨some 18, _, _, _, _, _⟩) (v := ?v0_1) rfl (by kernel_rfl) (by kernel_rfl) (by kernel_rfl) (fun _ _ _ h => h) (Or.inl ⟨by rfl, ?hy0_1⟩) (by assumption) ?rest0_1; (case hy0_1 => ((intro w hSw); (try dsimp only at hSw); go_simp; first | done | (with_reducible rfl))))
      (try simp only [Act.put, List.setIfInBounds_toArray, List.set_cons_zero, List.set_cons_succ])
      (refine wpAnyH_take (i := 2) (oi := ⟨some 20, _, _, _, _, _⟩) (v := ?v2_2) rfl (by kernel_rfl) (by kernel_rfl) (by kernel_rfl) (fun _ _ _ h => h) (Or.inl ⟨by rfl, ?hy2_2⟩) (by assumption) ?rest2_2; (case hy2_2 => ((intro w hSw); (try dsimp only at hSw); go_simp; first | done | (with_reducible rfl))))
      (try simp only [Act.put, List.setIfInBounds_toArray, List.set_cons_zero, List.set_cons_succ])
      (refine wpAnyH_take (i := 3) (oi := ⟨some 21, _, _, _, _, _⟩) (v := ?v3_3) rfl (by kernel_rfl) (by kernel_rfl) (by kernel_rfl) (fun _ _ _ h => h) (Or.inl ⟨by rfl, ?hy3_3⟩) (by assumption) ?rest3_3; (case hy3_3 => ((intro w hSw); (try dsimp only at hSw); go_simp; first | done | (with_reducible rfl))))
      (try simp only [Act.put, List.setIfInBounds_toArray, List.set_cons_zero, List.set_cons_succ])
      (refine wpAnyH_take (i := 4) (oi := ⟨some 22, _, _, _, _, _⟩) (v := ?v4_4) rfl (by kernel_rfl) (by kernel_rfl) (by kernel_rfl) (fun _ _ _ h => h) (Or.inl ⟨by rfl, ?hy4_4⟩) (by assumption) ?rest4_4; (case hy4_4 => ((intro w hSw); (try dsimp only at hSw); go_simp; first | done | (with_reducible rfl))))
      (try simp only [Act.put, List.setIfInBounds_toArray, List.set_cons_zero, List.set_cons_succ])
      (refine wpAnyH_take (i := 5) (oi := ⟨some 23, _, _, _, _, _⟩) (v := ?v5_5) rfl (by kernel_rfl) (by kernel_rfl) (by kernel_rfl) (fun _ _ _ h => h) (Or.inl ⟨by rfl, ?hy5_5⟩) (by assumption) ?rest5_5; (case hy5_5 => ((intro w hSw); (try dsimp only at hSw); go_simp; first | done | (with_reducible rfl))))
      (try simp only [Act.put, List.setIfInBounds_toArray, List.set_cons_zero, List.set_cons_succ])
      (refine wpAnyH_take (i := 6) (oi := ⟨some 24, _, _, _, _, _⟩) (v := ?v6_6) rfl (by kernel_rfl) (by kernel_rfl) (by kernel_rfl) (fun _ _ _ h => h) (Or.inl ⟨by rfl, ?hy6_6⟩) (by assumption) ?rest6_6; (case hy6_6 => ((intro w hSw); (try dsimp only at hSw); go_simp; first | done | (with_reducible rfl))))
      (try simp only [Act.put, List.setIfInBounds_toArray, List.set_cons_zero, List.set_cons_succ])
      refine wpAnyH_ready (rs := [1, 7]) (by kernel_rfl) (by simp) ?_
      refine AllReadyH.cons (o := ⟨some 19, _, _, _, _, _⟩) rfl (fun K hK => ?_) (AllReadyH.cons (o := ⟨some 25, _, _, _, _, _⟩) rfl (fun K hK => ?_) AllReadyH.nil)
      · go_simp
        refine hK.out _ _ ?_ (fun hHeld => ?_)
        · (try dsimp only)
          first | assumption | exact ⟨x0, x1, x2, kD⟩ | exact ⟨y0, y1, y2, y3⟩ | exact ⟨v0, v1, v2, v3⟩ | (simp [go_sem, *]; done) | (simp [go_sem, World.cell?_alloc_some, *]; done) | exact e9.out _
        clear hK K
        (try simp only [Act.put, List.setIfInBounds_toArray, List.set_cons_zero, List.set_cons_succ])
        refine wpAnyH_ready (rs := [7]) (by kernel_rfl) (by simp) ?_
        refine AllReadyH.cons (o := ⟨some 25, _, _, _, _, _⟩) rfl (fun K hK => ?_) AllReadyH.nil
        go_simp
        (go_at_call 15; (with_reducible refine (KA.out _ BD.out).mono ?_); rintro e w3 ⟨vi, rfl, hvi, hb3⟩; have B3 := Lib.hid (BD.out.trans (hb3.mono BD.out.size)); have R3 := Lib.hid (BR.out.trans (hb3.mono BR.out.size)); have V3 := Lib.hid hvi; obtain ⟨⟨y0, y1, y2, _⟩, _, tc, _, tf⟩ := KQ.out _ R3.out; have y3 := KY.out _ R3.out; clear hb3 hvi)
        refine hK.out _ _ ?_ (fun hHeld => ?_)
        · (try dsimp only)
          first | assumption | exact ⟨x0, x1, x2, kD⟩ | exact ⟨y0, y1, y2, y3⟩ | exact ⟨v0, v1, v2, v3⟩ | (simp [go_sem, *]; done) | (simp [go_sem, World.cell?_alloc_some, *]; done) | exact e9.out _
        clear hK K
        (try simp only [Act.put, List.setIfInBounds_toArray, List.set_cons_zero, List.set_cons_succ])
        refine wpAnyH_ready (rs := [8]) (by kernel_rfl) (by simp) ?_
        refine AllReadyH.cons (o := ⟨some 26, _, _, _, _, _⟩) rfl (fun K hK => ?_) AllReadyH.nil
        go_simp
        (go_at_call 43; (with_reducible refine (KP.out _ _ V3.out B3.out).mono ?_); rintro e w4 ⟨rfl, hb4⟩; have B4 := Lib.hid (B3.out.trans (hb4.mono B3.out.size)); have R4 := Lib.hid (R3.out.trans (hb4.mono R3.out.size)); obtain ⟨⟨v0, v1, v2, _⟩, _, uc, _, uf⟩ := KQ.out _ R4.out; have v3 := KY.out _ R4.out; have ca := fun (o : Obj) => Lib.cell?_alloc_some o uc; have O4 := Lib.hid (Below.keepOwn HO.out R4.out (Nat.le_refl _)); have T4 := Lib.hid (HT.out.below R4.out HT.out.lt); have Z4 := Lib.hid (HZ.out.trans (R4.out.mono HZ.out.size)); have z4 : w5.heap.size + 1 ≤ w4.heap.size := Nat.le_trans hXs R4.out.size; clear hb4)
        refine hK.out _ _ ?_ (fun hHeld => ?_)
        · (try dsimp only)
          first | assumption | exact ⟨x0, x1, x2, kD⟩ | exact ⟨y0, y1, y2, y3⟩ | exact ⟨v0, v1, v2, v3⟩ | (simp [go_sem, *]; done) | (simp [go_sem, World.cell?_alloc_some, *]; done) | exact e9.out _
        clear hK K
        (try simp only [Act.put, List.setIfInBounds_toArray, List.set_cons_zero, List.set_cons_succ])
        (refine wpAnyH_take (i := 9) (oi := ⟨some 27, _, _, _, _, _⟩) (v := ?v9_7) rfl (by kernel_rfl) (by kernel_rfl) (by kernel_rfl) (fun _ _ _ h => h) (Or.inl ⟨by rfl, ?hy9_7⟩) (by assumption) ?rest9_7; (case hy9_7 => ((intro w hSw); (try dsimp only at hSw); go_simp; first | done | (with_reducible rfl))))
        (try simp only [Act.put, List.setIfInBounds_toArray, List.set_cons_zero, List.set_cons_succ])
        (refine wpAnyH_take (i := 10) (oi := ⟨some 28, _, _, _, _, _⟩) (v := ?v10_8) rfl (by kernel_rfl) (by kernel_rfl) (by kernel_rfl) (fun _ _ _ h => h) (Or.inl ⟨by rfl, ?hy10_8⟩) (by assumption) ?rest10_8; (case hy10_8 => ((intro w hSw); (try dsimp only at hSw); go_simp; first | done | (with_reducible rfl))))
        (try simp only [Act.put, List.setIfInBounds_toArray, List.set_cons_zero, List.set_cons_succ])
        refine wpAnyH_ready (rs := [11]) (by kernel_rfl) (by simp) ?_
        refine AllReadyH.cons (o := ⟨some 29, _, _, _, _, _⟩) rfl (fun K hK => ?_) AllReadyH.nil
        go_simp
        refine hK.out _ _ ?_ (fun hHeld => ?_)
        · (try dsimp only)
          first | assumption | exact ⟨x0, x1, x2, kD⟩ | exact ⟨y0, y1, y2, y3⟩ | exact ⟨v0, v1, v2, v3⟩ | (simp [go_sem, *]; done) | (simp [go_sem, World.cell?_alloc_some, *]; done) | exact e9.out _
        clear hK K
        (try simp only [Act.put, List.setIfInBounds_toArray, List.set_cons_zero, List.set_cons_succ])
        refine wpAnyH_ready (rs := [12]) (by kernel_rfl) (by simp) ?_
        refine AllReadyH.cons (o := ⟨some 30, _, _, _, _, _⟩) rfl (fun K hK => ?_) AllReadyH.nil
        refine step_append_lies _ (by rfl) (.tmp 19) (.tmp 29) 24 (by rfl) (w5.heap.size + 1) 2 i0 (.int .i64 0) 1 8 Try.underlying24 hi0 hz0 hz1 hz2 rfl (by decide) dv k (ints ((cps sh st off ls N).take k)) (by rfl) (O4.out.alloc _) ⟨w4.heap.size, 0, none⟩ 1 1 [.int .i64 y] (by rfl) rfl (cell_one_new _ _ _) (by simp [Value.oneCell']) (by decide) (by unfold maxLen; omega) (by omega) (by simp; omega) (w4.heap.size + 1) (by simp) ?_
        intro g9 cp9 w9 hown hgrow0 hat _
        have hgrow : (w4.alloc (.cells #[.int .i64 y] 2)).drew.grownBy w9 dv.ownBlock := ⟨hgrow0.os, hgrow0.tape, hgrow0.output, hgrow0.size, hgrow0.block⟩
        have Q9 := Lib.hid (And.intro hown (cp_step T4.out O4.out Z4.out hgrow hat (Nat.lt_succ_self w5.heap.size) z4))
        obtain ⟨_, p0, h0, h1⟩ := blk2 Q9.out.2.1
        have e9 := Lib.hid (fun (z : Value) => OLD.out _ (Q9.out.2.2.setCell (p := ⟨w5.heap.size, 1, none⟩) (Nat.le_refl _) z))
        obtain ⟨q0, q1, q2, q3⟩ := OLD.out w9 Q9.out.2.2
        have R9 := Lib.hid (cp_done Q9.out.1 Q9.out.2.1 Q9.out.2.2 T4.out O4.out hgrow EA.out (Nat.lt_succ_self w5.heap.size) z4)
        have G9 := Lib.hid ((B4.out.alloc B4.out.size _).grown hgrow0 (by have := B4.out.size; simp; omega) (fun j hj => by have := (O4.out.lt j hj).1; omega))
        clear hown hgrow hgrow0 hat
        refine hK.out _ _ ?_ (fun hHeld => ?_)
        · (try dsimp only)
          first | assumption | exact ⟨x0, x1, x2, kD⟩ | exact ⟨y0, y1, y2, y3⟩ | exact ⟨v0, v1, v2, v3⟩ | (simp [go_sem, *]; done) | (simp [go_sem, World.cell?_alloc_some, *]; done) | exact e9.out _
        clear hK K
        (try simp only [Act.put, List.setIfInBounds_toArray, List.set_cons_zero, List.set_cons_succ])
        refine wpAnyH_ready (rs := [13]) (by kernel_rfl) (by simp) ?_
        refine AllReadyH.cons (o := ⟨some 31, _, _, _, _, _⟩) rfl (fun K hK => ?_) AllReadyH.nil
        go_simp
        refine hK.out _ _ ?_ (fun hHeld => ?_)
        · (try dsimp only)
          first | assumption | exact ⟨x0, x1, x2, kD⟩ | exact ⟨y0, y1, y2, y3⟩ | exact ⟨v0, v1, v2, v3⟩ | (simp [go_sem, *]; done) | (simp [go_sem, World.cell?_alloc_some, *]; done) | exact e9.out _
        clear hK K
        (try simp only [Act.put, List.setIfInBounds_toArray, List.set_cons_zero, List.set_cons_succ])
        refine wpAnyH_ready (rs := [14]) (by kernel_rfl) (by simp) ?_
        refine AllReadyH.cons (o := ⟨none, _, _, _, _, _⟩) rfl (fun K hK => ?_) AllReadyH.nil
        go_simp
        refine hK.out _ _ ?_ (fun hHeld => ?_)
        · (try dsimp only)
          first | assumption | exact ⟨x0, x1, x2, kD⟩ | exact ⟨y0, y1, y2, y3⟩ | exact ⟨v0, v1, v2, v3⟩ | (simp [go_sem, *]; done) | (simp [go_sem, World.cell?_alloc_some, *]; done) | exact e9.out _
        clear hK K
        (try simp only [Act.put, List.setIfInBounds_toArray, List.set_cons_zero, List.set_cons_succ])
        refine wpAnyH_done (by kernel_rfl) ?_ _
        go_wp2
        exact ⟨⟨k + 1, by omega, by go_num, G9.out.setCell (p := ⟨w5.heap.size, 1, none⟩) (by show w.heap.size ≤ w5.heap.size; omega) _, R9.out.2.2⟩, by simp [intOf]; omega⟩
      · go_simp
        (go_at_call 15; (with_reducible refine (KA.out _ BD.out).mono ?_); rintro e w3 ⟨vi, rfl, hvi, hb3⟩; have B3 := Lib.hid (BD.out.trans (hb3.mono BD.out.size)); have R3 := Lib.hid (BR.out.trans (hb3.mono BR.out.size)); have V3 := Lib.hid hvi; obtain ⟨⟨y0, y1, y2, _⟩, _, tc, _, tf⟩ := KQ.out _ R3.out; have y3 := KY.out _ R3.out; clear hb3 hvi)
        refine hK.out _ _ ?_ (fun hHeld => ?_)
        · (try dsimp only)
          first | assumption | exact ⟨x0, x1, x2, kD⟩ | exact ⟨y0, y1, y2, y3⟩ | exact ⟨v0, v1, v2, v3⟩ | (simp [go_sem, *]; done) | (simp [go_sem, World.cell?_alloc_some, *]; done) | exact e9.out _
        clear hK K
        (try simp only [Act.put, List.setIfInBounds_toArray, List.set_cons_zero, List.set_cons_succ])
        refine wpAnyH_ready (rs := [1, 8]) (by kernel_rfl) (by simp) ?_
        refine AllReadyH.cons (o := ⟨some 19, _, _, _, _, _⟩) rfl (fun K hK => ?_) (AllReadyH.cons (o := ⟨some 26, _, _, _, _, _⟩) rfl (fun K hK => ?_) AllReadyH.nil)
        · go_simp
          refine hK.out _ _ ?_ (fun hHeld => ?_)
          · (try dsimp only)
            first | assumption | exact ⟨x0, x1, x2, kD⟩ | exact ⟨y0, y1, y2, y3⟩ | exact ⟨v0, v1, v2, v3⟩ | (simp [go_sem, *]; done) | (simp [go_sem, World.cell?_alloc_some, *]; done) | exact e9.out _
          clear hK K
          (try simp only [Act.put, List.setIfInBounds_toArray, List.set_cons_zero, List.set_cons_succ])
          refine wpAnyH_ready (rs := [8]) (by kernel_rfl) (by simp) ?_
          refine AllReadyH.cons (o := ⟨some 26, _, _, _, _, _⟩) rfl (fun K hK => ?_) AllReadyH.nil
          go_simp
          (go_at_call 43; (with_reducible refine (KP.out _ _ V3.out B3.out).mono ?_); rintro e w4 ⟨rfl, hb4⟩; have B4 := Lib.hid (B3.out.trans (hb4.mono B3.out.size)); have R4 := Lib.hid (R3.out.trans (hb4.mono R3.out.size)); obtain ⟨⟨v0, v1, v2, _⟩, _, uc, _, uf⟩ := KQ.out _ R4.out; have v3 := KY.out _ R4.out; have ca := fun (o : Obj) => Lib.cell?_alloc_some o uc; have O4 := Lib.hid (Below.keepOwn HO.out R4.out (Nat.le_refl _)); have T4 := Lib.hid (HT.out.below R4.out HT.out.lt); have Z4 := Lib.hid (HZ.out.trans (R4.out.mono HZ.out.size)); have z4 : w5.heap.size + 1 ≤ w4.heap.size := Nat.le_trans hXs R4.out.size; clear hb4)
          refine hK.out _ _ ?_ (fun hHeld => ?_)
          · (try dsimp only)
            first | assumption | exact ⟨x0, x1, x2, kD⟩ | exact ⟨y0, y1, y2, y3⟩ | exact ⟨v0, v1, v2, v3⟩ | (simp [go_sem, *]; done) | (simp [go_sem, World.cell?_alloc_some, *]; done) | exact e9.out _
          clear hK K
          (try simp only [Act.put, List.setIfInBounds_toArray, List.set_cons_zero, List.set_cons_succ])
          (refine wpAnyH_take (i := 9) (oi := ⟨some 27, _, _, _, _, _⟩) (v := ?v9_9) rfl (by kernel_rfl) (by kernel_rfl) (by kernel_rfl) (fun _ _ _ h => h) (Or.inl ⟨by rfl, ?hy9_9⟩) (by assumption) ?rest9_9; (case hy9_9 => ((intro w hSw); (try dsimp only at hSw); go_simp; first | done | (with_reducible rfl))))
          (try simp only [Act.put, List.setIfInBounds_toArray, List.set_cons_zero, List.set_cons_succ])
          (refine wpAnyH_take (i := 10) (oi := ⟨some 28, _, _, _, _, _⟩) (v := ?v10_10) rfl (by kernel_rfl) (by kernel_rfl) (by kernel_rfl) (fun _ _ _ h => h) (Or.inl ⟨by rfl, ?hy10_10⟩) (by assumption) ?rest10_10; (case hy10_10 => ((intro w hSw); (try dsimp only at hSw); go_simp; first | done | (with_reducible rfl))))
          (try simp only [Act.put, List.setIfInBounds_toArray, List.set_cons_zero, List.set_cons_succ])
          refine wpAnyH_ready (rs := [11]) (by kernel_rfl) (by simp) ?_
          refine AllReadyH.cons (o := ⟨some 29, _, _, _, _, _⟩) rfl (fun K hK => ?_) AllReadyH.nil
          go_simp
          refine hK.out _ _ ?_ (fun hHeld => ?_)
          · (try dsimp only)
            first | assumption | exact ⟨x0, x1, x2, kD⟩ | exact ⟨y0, y1, y2, y3⟩ | exact ⟨v0, v1, v2, v3⟩ | (simp [go_sem, *]; done) | (simp [go_sem, World.cell?_alloc_some, *]; done) | exact e9.out _
          clear hK K
          (try simp only [Act.put, List.setIfInBounds_toArray, List.set_cons_zero, List.set_cons_succ])
          refine wpAnyH_ready (rs := [12]) (by kernel_rfl) (by simp) ?_
          refine AllReadyH.cons (o := ⟨some 30, _, _, _, _, _⟩) rfl (fun K hK => ?_) AllReadyH.nil
          refine step_append_lies _ (by rfl) (.tmp 19) (.tmp 29) 24 (by rfl) (w5.heap.size + 1) 2 i0 (.int .i64 0) 1 8 Try.underlying24 hi0 hz0 hz1 hz2 rfl (by decide) dv k (ints ((cps sh st off ls N).take k)) (by rfl) (O4.out.alloc _) ⟨w4.heap.size, 0, none⟩ 1 1 [.int .i64 y] (by rfl) rfl (cell_one_new _ _ _) (by simp [Value.oneCell']) (by decide) (by unfold maxLen; omega) (by omega) (by simp; omega) (w4.heap.size + 1) (by simp) ?_
          intro g9 cp9 w9 hown hgrow0 hat _
          have hgrow : (w4.alloc (.cells #[.int .i64 y] 2)).drew.grownBy w9 dv.ownBlock := ⟨hgrow0.os, hgrow0.tape, hgrow0.output, hgrow0.size, hgrow0.block⟩
          have Q9 := Lib.hid (And.intro hown (cp_step T4.out O4.out Z4.out hgrow hat (Nat.lt_succ_self w5.heap.size) z4))
          obtain ⟨_, p0, h0, h1⟩ := blk2 Q9.out.2.1
          have e9 := Lib.hid (fun (z : Value) => OLD.out _ (Q9.out.2.2.setCell (p := ⟨w5.heap.size, 1, none⟩) (Nat.le_refl _) z))
          obtain ⟨q0, q1, q2, q3⟩ := OLD.out w9 Q9.out.2.2
          have R9 := Lib.hid (cp_done Q9.out.1 Q9.out.2.1 Q9.out.2.2 T4.out O4.out hgrow EA.out (Nat.lt_succ_self w5.heap.size) z4)
          have G9 := Lib.hid ((B4.out.alloc B4.out.size _).grown hgrow0 (by have := B4.out.size; simp; omega) (fun j hj => by have := (O4.out.lt j hj).1; omega))
          clear hown hgrow hgrow0 hat
          refine hK.out _ _ ?_ (fun hHeld => ?_)
          · (try dsimp only)
            first | assumption | exact ⟨x0, x1, x2, kD⟩ | exact ⟨y0, y1, y2, y3⟩ | exact ⟨v0, v1, v2, v3⟩ | (simp [go_sem, *]; done) | (simp [go_sem, World.cell?_alloc_some, *]; done) | exact e9.out _
          clear hK K
          (try simp only [Act.put, List.setIfInBounds_toArray, List.set_cons_zero, List.set_cons_succ])
          refine wpAnyH_ready (rs := [13]) (by kernel_rfl) (by simp) ?_
          refine AllReadyH.cons (o := ⟨some 31, _, _, _, _, _⟩) rfl (fun K hK => ?_) AllReadyH.nil
          go_simp
          refine hK.out _ _ ?_ (fun hHeld => ?_)
          · (try dsimp only)
            first | assumption | exact ⟨x0, x1, x2, kD⟩ | exact ⟨y0, y1, y2, y3⟩ | exact ⟨v0, v1, v2, v3⟩ | (simp [go_sem, *]; done) | (simp [go_sem, World.cell?_alloc_some, *]; done) | exact e9.out _
          clear hK K
          (try simp only [Act.put, List.setIfInBounds_toArray, List.set_cons_zero, List.set_cons_succ])
          refine wpAnyH_ready (rs := [14]) (by kernel_rfl) (by simp) ?_
          refine AllReadyH.cons (o := ⟨none, _, _, _, _, _⟩) rfl (fun K hK => ?_) AllReadyH.nil
          go_simp
          refine hK.out _ _ ?_ (fun hHeld => ?_)
          · (try dsimp only)
            first | assumption | exact ⟨x0, x1, x2, kD⟩ | exact ⟨y0, y1, y2, y3⟩ | exact ⟨v0, v1, v2, v3⟩ | (simp [go_sem, *]; done) | (simp [go_sem, World.cell?_alloc_some, *]; done) | exact e9.out _
          clear hK K
          (try simp only [Act.put, List.setIfInBounds_toArray, List.set_cons_zero, List.set_cons_succ])
          refine wpAnyH_done (by kernel_rfl) ?_ _
          go_wp2
          exact ⟨⟨k + 1, by omega, by go_num, G9.out.setCell (p := ⟨w5.heap.size, 1, none⟩) (by show w.heap.size ≤ w5.heap.size; omega) _, R9.out.2.2⟩, by simp [intOf]; omega⟩
        · go_simp
          (go_at_call 43; (with_reducible refine (KP.out _ _ V3.out B3.out).mono ?_); rintro e w4 ⟨rfl, hb4⟩; have B4 := Lib.hid (B3.out.trans (hb4.mono B3.out.size)); have R4 := Lib.hid (R3.out.trans (hb4.mono R3.out.size)); obtain ⟨⟨v0, v1, v2, _⟩, _, uc, _, uf⟩ := KQ.out _ R4.out; have v3 := KY.out _ R4.out; have ca := fun (o : Obj) => Lib.cell?_alloc_some o uc; have O4 := Lib.hid (Below.keepOwn HO.out R4.out (Nat.le_refl _)); have T4 := Lib.hid (HT.out.below R4.out HT.out.lt); have Z4 := Lib.hid (HZ.out.trans (R4.out.mono HZ.out.size)); have z4 : w5.heap.size + 1 ≤ w4.heap.size := Nat.le_trans hXs R4.out.size; clear hb4)
          refine hK.out _ _ ?_ (fun hHeld => ?_)
          · (try dsimp only)
            first | assumption | exact ⟨x0, x1, x2, kD⟩ | exact ⟨y0, y1, y2, y3⟩ | exact ⟨v0, v1, v2, v3⟩ | (simp [go_sem, *]; done) | (simp [go_sem, World.cell?_alloc_some, *]; done) | exact e9.out _
          clear hK K
          (try simp only [Act.put, List.setIfInBounds_toArray, List.set_cons_zero, List.set_cons_succ])
          (refine wpAnyH_take (i := 9) (oi := ⟨some 27, _, _, _, _, _⟩) (v := ?v9_11) rfl (by kernel_rfl) (by kernel_rfl) (by kernel_rfl) (fun _ _ _ h => h) (Or.inl ⟨by rfl, ?hy9_11⟩) (by assumption) ?rest9_11; (case hy9_11 => ((intro w hSw); (try dsimp only at hSw); go_simp; first | done | (with_reducible rfl))))
          (try simp only [Act.put, List.setIfInBounds_toArray, List.set_cons_zero, List.set_cons_succ])
          (refine wpAnyH_take (i := 10) (oi := ⟨some 28, _, _, _, _, _⟩) (v := ?v10_12) rfl (by kernel_rfl) (by kernel_rfl) (by kernel_rfl) (fun _ _ _ h => h) (Or.inl ⟨by rfl, ?hy10_12⟩) (by assumption) ?rest10_12; (case hy10_12 => ((intro w hSw); (try dsimp only at hSw); go_simp; first | done | (with_reducible rfl))))
          (try simp only [Act.put, List.setIfInBounds_toArray, List.set_cons_zero, List.set_cons_succ])
          refine wpAnyH_ready (rs := [1, 11]) (by kernel_rfl) (by simp) ?_
          refine AllReadyH.cons (o := ⟨some 19, _, _, _, _, _⟩) rfl (fun K hK => ?_) (AllReadyH.cons (o := ⟨some 29, _, _, _, _, _⟩) rfl (fun K hK => ?_) AllReadyH.nil)
          · go_simp
            refine hK.out _ _ ?_ (fun hHeld => ?_)
            · (try dsimp only)
              first | assumption | exact ⟨x0, x1, x2, kD⟩ | exact ⟨y0, y1, y2, y3⟩ | exact ⟨v0, v1, v2, v3⟩ | (simp [go_sem, *]; done) | (simp [go_sem, World.cell?_alloc_some, *]; done) | exact e9.out _
            clear hK K
            (try simp only [Act.put, List.setIfInBounds_toArray, List.set_cons_zero, List.set_cons_succ])
            refine wpAnyH_ready (rs := [11]) (by kernel_rfl) (by simp) ?_
            refine AllReadyH.cons (o := ⟨some 29, _, _, _, _, _⟩) rfl (fun K hK => ?_) AllReadyH.nil
            go_simp
            refine hK.out _ _ ?_ (fun hHeld => ?_)
            · (try dsimp only)
              first | assumption | exact ⟨x0, x1, x2, kD⟩ | exact ⟨y0, y1, y2, y3⟩ | exact ⟨v0, v1, v2, v3⟩ | (simp [go_sem, *]; done) | (simp [go_sem, World.cell?_alloc_some, *]; done) | exact e9.out _
            clear hK K
            (try simp only [Act.put, List.setIfInBounds_toArray, List.set_cons_zero, List.set_cons_succ])
            refine wpAnyH_ready (rs := [12]) (by kernel_rfl) (by simp) ?_
            refine AllReadyH.cons (o := ⟨some 30, _, _, _, _, _⟩) rfl (fun K hK => ?_) AllReadyH.nil
            refine step_append_lies _ (by rfl) (.tmp 19) (.tmp 29) 24 (by rfl) (w5.heap.size + 1) 2 i0 (.int .i64 0) 1 8 Try.underlying24 hi0 hz0 hz1 hz2 rfl (by decide) dv k (ints ((cps sh st off ls N).take k)) (by rfl) (O4.out.alloc _) ⟨w4.heap.size, 0, none⟩ 1 1 [.int .i64 y] (by rfl) rfl (cell_one_new _ _ _) (by simp [Value.oneCell']) (by decide) (by unfold maxLen; omega) (by omega) (by simp; omega) (w4.heap.size + 1) (by simp) ?_
            intro g9 cp9 w9 hown hgrow0 hat _
            have hgrow : (w4.alloc (.cells #[.int .i64 y] 2)).drew.grownBy w9 dv.ownBlock := ⟨hgrow0.os, hgrow0.tape, hgrow0.output, hgrow0.size, hgrow0.block⟩
            have Q9 := Lib.hid (And.intro hown (cp_step T4.out O4.out Z4.out hgrow hat (Nat.lt_succ_self w5.heap.size) z4))
            obtain ⟨_, p0, h0, h1⟩ := blk2 Q9.out.2.1
            have e9 := Lib.hid (fun (z : Value) => OLD.out _ (Q9.out.2.2.setCell (p := ⟨w5.heap.size, 1, none⟩) (Nat.le_refl _) z))
            obtain ⟨q0, q1, q2, q3⟩ := OLD.out w9 Q9.out.2.2
            have R9 := Lib.hid (cp_done Q9.out.1 Q9.out.2.1 Q9.out.2.2 T4.out O4.out hgrow EA.out (Nat.lt_succ_self w5.heap.size) z4)
            have G9 := Lib.hid ((B4.out.alloc B4.out.size _).grown hgrow0 (by have := B4.out.size; simp; omega) (fun j hj => by have := (O4.out.lt j hj).1; omega))
            clear hown hgrow hgrow0 hat
            refine hK.out _ _ ?_ (fun hHeld => ?_)
            · (try dsimp only)
              first | assumption | exact ⟨x0, x1, x2, kD⟩ | exact ⟨y0, y1, y2, y3⟩ | exact ⟨v0, v1, v2, v3⟩ | (simp [go_sem, *]; done) | (simp [go_sem, World.cell?_alloc_some, *]; done) | exact e9.out _
            clear hK K
            (try simp only [Act.put, List.setIfInBounds_toArray, List.set_cons_zero, List.set_cons_succ])
            refine wpAnyH_ready (rs := [13]) (by kernel_rfl) (by simp) ?_
            refine AllReadyH.cons (o := ⟨some 31, _, _, _, _, _⟩) rfl (fun K hK => ?_) AllReadyH.nil
            go_simp
            refine hK.out _ _ ?_ (fun hHeld => ?_)
            · (try dsimp only)
              first | assumption | exact ⟨x0, x1, x2, kD⟩ | exact ⟨y0, y1, y2, y3⟩ | exact ⟨v0, v1, v2, v3⟩ | (simp [go_sem, *]; done) | (simp [go_sem, World.cell?_alloc_some, *]; done) | exact e9.out _
            clear hK K
            (try simp only [Act.put, List.setIfInBounds_toArray, List.set_cons_zero, List.set_cons_succ])
            refine wpAnyH_ready (rs := [14]) (by kernel_rfl) (by simp) ?_
            refine AllReadyH.cons (o := ⟨none, _, _, _, _, _⟩) rfl (fun K hK => ?_) AllReadyH.nil
            go_simp
            refine hK.out _ _ ?_ (fun hHeld => ?_)
            · (try dsimp only)
              first | assumption | exact ⟨x0, x1, x2, kD⟩ | exact ⟨y0, y1, y2, y3⟩ | exact ⟨v0, v1, v2, v3⟩ | (simp [go_sem, *]; done) | (simp [go_sem, World.cell?_alloc_some, *]; done) | exact e9.out _
            clear hK K
            (try simp only [Act.put, List.setIfInBounds_toArray, List.set_cons_zero, List.set_cons_succ])
            refine wpAnyH_done (by kernel_rfl) ?_ _
            go_wp2
            exact ⟨⟨k + 1, by omega, by go_num, G9.out.setCell (p := ⟨w5.heap.size, 1, none⟩) (by show w.heap.size ≤ w5.heap.size; omega) _, R9.out.2.2⟩, by simp [intOf]; omega⟩
          · go_simp
            refine hK.out _ _ ?_ (fun hHeld => ?_)
            · (try dsimp only)
              first | assumption | exact ⟨x0, x1, x2, kD⟩ | exact ⟨y0, y1, y2, y3⟩ | exact ⟨v0, v1, v2, v3⟩ | (simp [go_sem, *]; done) | (simp [go_sem, World.cell?_alloc_some, *]; done) | exact e9.out _
            clear hK K
            (try simp only [Act.put, List.setIfInBounds_toArray, List.set_cons_zero, List.set_cons_succ])
            refine wpAnyH_ready (rs := [1]) (by kernel_rfl) (by simp) ?_
            refine AllReadyH.cons (o := ⟨some 19, _, _, _, _, _⟩) rfl (fun K hK => ?_) AllReadyH.nil
            go_simp
            refine hK.out _ _ ?_ (fun hHeld => ?_)
            · (try dsimp only)
              first | assumption | exact ⟨x0, x1, x2, kD⟩ | exact ⟨y0, y1, y2, y3⟩ | exact ⟨v0, v1, v2, v3⟩ | (simp [go_sem, *]; done) | (simp [go_sem, World.cell?_alloc_some, *]; done) | exact e9.out _
            clear hK K
            (try simp only [Act.put, List.setIfInBounds_toArray, List.set_cons_zero, List.set_cons_succ])
            refine wpAnyH_ready (rs := [12]) (by kernel_rfl) (by simp) ?_
            refine AllReadyH.cons (o := ⟨some 30, _, _, _, _, _⟩) rfl (fun K hK => ?_) AllReadyH.nil
            refine step_append_lies _ (by rfl) (.tmp 19) (.tmp 29) 24 (by rfl) (w5.heap.size + 1) 2 i0 (.int .i64 0) 1 8 Try.underlying24 hi0 hz0 hz1 hz2 rfl (by decide) dv k (ints ((cps sh st off ls N).take k)) (by rfl) (O4.out.alloc _) ⟨w4.heap.size, 0, none⟩ 1 1 [.int .i64 y] (by rfl) rfl (cell_one_new _ _ _) (by simp [Value.oneCell']) (by decide) (by unfold maxLen; omega) (by omega) (by simp; omega) (w4.heap.size + 1) (by simp) ?_
            intro g9 cp9 w9 hown hgrow0 hat _
            have hgrow : (w4.alloc (.cells #[.int .i64 y] 2)).drew.grownBy w9 dv.ownBlock := ⟨hgrow0.os, hgrow0.tape, hgrow0.output, hgrow0.size, hgrow0.block⟩
            have Q9 := Lib.hid (And.intro hown (cp_step T4.out O4.out Z4.out hgrow hat (Nat.lt_succ_self w5.heap.size) z4))
            obtain ⟨_, p0, h0, h1⟩ := blk2 Q9.out.2.1
            have e9 := Lib.hid (fun (z : Value) => OLD.out _ (Q9.out.2.2.setCell (p := ⟨w5.heap.size, 1, none⟩) (Nat.le_refl _) z))
            obtain ⟨q0, q1, q2, q3⟩ := OLD.out w9 Q9.out.2.2
            have R9 := Lib.hid (cp_done Q9.out.1 Q9.out.2.1 Q9.out.2.2 T4.out O4.out hgrow EA.out (Nat.lt_succ_self w5.heap.size) z4)
            have G9 := Lib.hid ((B4.out.alloc B4.out.size _).grown hgrow0 (by have := B4.out.size; simp; omega) (fun j hj => by have := (O4.out.lt j hj).1; omega))
            clear hown hgrow hgrow0 hat
            refine hK.out _ _ ?_ (fun hHeld => ?_)
            · (try dsimp only)
              first | assumption | exact ⟨x0, x1, x2, kD⟩ | exact ⟨y0, y1, y2, y3⟩ | exact ⟨v0, v1, v2, v3⟩ | (simp [go_sem, *]; done) | (simp [go_sem, World.cell?_alloc_some, *]; done) | exact e9.out _
            clear hK K
            (try simp only [Act.put, List.setIfInBounds_toArray, List.set_cons_zero, List.set_cons_succ])
            refine wpAnyH_ready (rs := [13]) (by kernel_rfl) (by simp) ?_
            refine AllReadyH.cons (o := ⟨some 31, _, _, _, _, _⟩) rfl (fun K hK => ?_) AllReadyH.nil
            go_simp
            refine hK.out _ _ ?_ (fun hHeld => ?_)
            · (try dsimp only)
              first | assumption | exact ⟨x0, x1, x2, kD⟩ | exact ⟨y0, y1, y2, y3⟩ | exact ⟨v0, v1, v2, v3⟩ | (simp [go_sem, *]; done) | (simp [go_sem, World.cell?_alloc_some, *]; done) | exact e9.out _
            clear hK K
            (try simp only [Act.put, List.setIfInBounds_toArray, List.set_cons_zero, List.set_cons_succ])
            refine wpAnyH_ready (rs := [14]) (by kernel_rfl) (by simp) ?_
            refine AllReadyH.cons (o := ⟨none, _, _, _, _, _⟩) rfl (fun K hK => ?_) AllReadyH.nil
            go_simp
            refine hK.out _ _ ?_ (fun hHeld => ?_)
            · (try dsimp only)
              first | assumption | exact ⟨x0, x1, x2, kD⟩ | exact ⟨y0, y1, y2, y3⟩ | exact ⟨v0, v1, v2, v3⟩ | (simp [go_sem, *]; done) | (simp [go_sem, World.cell?_alloc_some, *]; done) | exact e9.out _
            clear hK K
            (try simp only [Act.put, List.setIfInBounds_toArray, List.set_cons_zero, List.set_cons_succ])
            refine wpAnyH_done (by kernel_rfl) ?_ _
            go_wp2
            exact ⟨⟨k + 1, by omega, by go_num, G9.out.setCell (p := ⟨w5.heap.size, 1, none⟩) (by show w.heap.size ≤ w5.heap.size; omega) _, R9.out.2.2⟩, by simp [intOf]; omega⟩
    · obtain rfl : k = N := by omega
      obtain ⟨od, cd, rfl⟩ := own_len HO.out
      have hO : wr.ownsRow (T + 1) 2 1 (.slice od k cd) k (ints (cps sh st off ls k)) := by
        have h := HO.out
        rwa [List.take_of_length_le (by rw [cps_len]; exact Nat.le_refl _)] at h
      have hB := (OLD0.out _ HZ.out).2.1
      have hS := Below.keepOwn SV.out HZ.out (by rw [hTT]; exact Nat.le_refl _)
      obtain ⟨t0, t1, _⟩ := blk2 HT.out
      obtain ⟨r0, r1, rf0, rf1⟩ := blk2 hB
      have step : ∀ {n : Nat} {base : Nat} {v : Value} {xs : List Value} {e : TypeId} (x y : Value), 26 ≠ e → wr.ownsRow base e 1 v n xs → ((wr.setCell ⟨w.heap.size + 1, 0, none⟩ x).setCell ⟨w.heap.size + 1, 1, none⟩ y).ownsRow base e 1 v n xs := fun {n base v xs e} x y hne h => by
        have h1 := h.kept (grown_set wr ⟨w.heap.size + 1, 0, none⟩ x) (.inr (tens_not_row h hB (Ne.symm hne)))
        exact h1.kept (grown_set _ ⟨w.heap.size + 1, 1, none⟩ y) (.inr (tens_not_row h1 (hB.set_ 0 x) (Ne.symm hne)))
      have e1 := step (.slice oS sh.length cS) (.slice od k cd) (by decide) hS
      have e2 := step (.slice oS sh.length cS) (.slice od k cd) (by decide) hO
      have e3 := (HW.out.setCell (p := ⟨w.heap.size + 1, 0, none⟩) (by show w.heap.size ≤ w.heap.size + 1; omega) (.slice oS sh.length cS)).setCell (p := ⟨w.heap.size + 1, 1, none⟩) (by show w.heap.size ≤ w.heap.size + 1; omega) (.slice od k cd)
      obtain ⟨p0, p1, _⟩ := blk2 ((hB.set_ 0 (.slice oS sh.length cS)).set_ 1 (.slice od k cd))
      have EN := Lib.hid (And.intro e1 (And.intro e2 e3))
      have PP := Lib.hid (And.intro p0 p1)
      clear e1 e2 e3 p0 p1 hO hS hB step hlt
      subst hTT
      go_wp2_with (go_at_call 12; (with_reducible refine KC.out.mono ?_); rintro e w' ⟨rfl, rfl⟩)
      have p0 := PP.out.1
      have p1 := PP.out.2
      refine bodyPost_ret (v := .agg #[.slice oS sh.length cS, .slice od k cd]) (by simp [results, Try.results19, go_sem, p0, p1]) rfl ?_
      obtain ⟨_, _, g1, l1⟩ := Ld.of_owns EN.out.1
      simp only [Value.slice.injEq] at g1
      obtain ⟨rfl, _, rfl⟩ := g1
      have e2 := EN.out.2.1
      rw [← cps_len sh st off ls k] at e2
      obtain ⟨_, _, g2, l2⟩ := Ld.of_owns (ls := cps sh st off ls k) (by rw [cps_len] at e2 ⊢; exact e2)
      simp only [Value.slice.injEq] at g2
      obtain ⟨rfl, _, rfl⟩ := g2
      exact ⟨_, _, _, _, by rw [cps_len], l1, l2, EN.out.2.2⟩
end Go.Proofs.Ytlfijpcpfepfbaa
namespace Go.Proofs.Ytlfijpcpfepfbaa

theorem atl_two {a b i k : Nat} (_hi : i < a) (hk : k < b) : atl [(a : Int), (b : Int)] ((i * b + k : Nat) : Int) = [(i : Int), (k : Int)] := by
  have e1 : ((i * b + k : Nat) : Int) / (b : Int) = (i : Int) := by
    rw [← Int.natCast_ediv, Nat.add_comm, Nat.add_mul_div_right _ _ (by omega), Nat.div_eq_of_lt hk, Nat.zero_add]
  have e2 : ((i * b + k : Nat) : Int) % (b : Int) = (k : Int) := by
    rw [← Int.natCast_emod, Nat.add_comm, Nat.add_mul_mod_self_right, Nat.mod_eq_of_lt hk]
  show [((i * b + k : Nat) : Int) / ((b : Int) * 1), ((i * b + k : Nat) : Int) % ((b : Int) * 1) / 1] = _
  rw [Int.mul_one, e1, e2, Int.ediv_one]
/-- The words turned. -/
def tds (A B : Nat) (ds : List Int) : List Int := cps [(B : Int), (A : Int)] [1, (B : Int)] 0 ds (B * A)
theorem tds_len (A B : Nat) (ds : List Int) : (tds A B ds).length = B * A := cps_len _ _ _ _ _
theorem row_lt {A B i k : Nat} (hi : i < B) (hk : k < A) : i * A + k < B * A := by
  have : (i + 1) * A ≤ B * A := Nat.mul_le_mul_right A hi
  rw [Nat.add_mul, Nat.one_mul] at this; omega
theorem tds_get {A B i k : Nat} (ds : List Int) (hi : i < B) (hk : k < A) : (tds A B ds).getD (i * A + k) 0 = ds.getD (k * B + i) 0 := by
  unfold tds
  rw [cps_getD (row_lt hi hk), atl_two hi hk]
  congr 1
  show (0 + ((i : Int) * 1 + ((k : Int) * (B : Int) + 0))).toNat = _
  rw [show (0 + ((i : Int) * 1 + ((k : Int) * (B : Int) + 0))) = ((k * B + i : Nat) : Int) by push_cast; omega, Int.toNat_natCast]
/-- The greatest of n. -/
def mxA (d : Nat → Int) : Nat → Int
  | 0 => 0
  | n + 1 => if (n : Int) = 0 ∨ mxA d n < d n then d n else mxA d n
def mpA (d : Nat → Int) : Nat → Int
  | 0 => 0
  | n + 1 => if (n : Int) = 0 ∨ mxA d n < d n then (n : Int) else mpA d n
theorem mxA_same {d d' : Nat → Int} : ∀ {n : Nat}, (∀ k, k < n → d k = d' k) → mxA d n = mxA d' n ∧ mpA d n = mpA d' n
  | 0, _ => ⟨rfl, rfl⟩
  | n + 1, h => by
    have ih := mxA_same (n := n) (fun k hk => h k (by omega))
    have hn := h n (by omega)
    constructor
    · show (if _ then _ else _) = (if _ then _ else _); rw [ih.1, hn]
    · show (if _ then _ else _) = (if _ then _ else _); rw [ih.1, ih.2, hn]
theorem mx_col {key st d : Nat → Int} {b j : Nat} (hj : j < b) : ∀ a : Nat, (∀ i, i < a → ∀ k, k < b → key (i * b + k) = (k : Int) ∧ st (i * b + k) = (i : Int)) →
    mxv key st d (a * b) (j : Int) = mxA (fun i => d (i * b + j)) a ∧ mxp key st d (a * b) (j : Int) = mpA (fun i => d (i * b + j)) a
  | 0, _ => by rw [Nat.zero_mul]; exact ⟨rfl, rfl⟩
  | a + 1, h => by
    have ih := mx_col (d := d) hj a (fun i hi => h i (by omega))
    have seg : ∀ c, c ≤ b → (mxv key st d (a * b + c) (j : Int) = if j < c then mxA (fun i => d (i * b + j)) (a + 1) else mxA (fun i => d (i * b + j)) a) ∧
        (mxp key st d (a * b + c) (j : Int) = if j < c then mpA (fun i => d (i * b + j)) (a + 1) else mpA (fun i => d (i * b + j)) a) := by
      intro c
      induction c with
      | zero => intro _; rw [Nat.add_zero, if_neg (Nat.not_lt_zero _), if_neg (Nat.not_lt_zero _)]; exact ih
      | succ c ihc =>
        intro hc
        obtain ⟨i1, i2⟩ := ihc (by omega)
        obtain ⟨k1, k2⟩ := h a (by omega) c (by omega)
        by_cases e : c = j
        · subst e
          rw [if_neg (Nat.lt_irrefl _)] at i1 i2
          rw [if_pos (by omega), if_pos (by omega)]
          constructor
          · show (if key (a * b + c) = (c : Int) ∧ (st (a * b + c) = 0 ∨ mxv key st d (a * b + c) (c : Int) < d (a * b + c)) then d (a * b + c) else mxv key st d (a * b + c) (c : Int)) = (if (a : Int) = 0 ∨ mxA (fun i => d (i * b + c)) a < d (a * b + c) then d (a * b + c) else mxA (fun i => d (i * b + c)) a)
            rw [k1, k2, i1]
            by_cases q : (a : Int) = 0 ∨ mxA (fun i => d (i * b + c)) a < d (a * b + c)
            · rw [if_pos ⟨rfl, q⟩, if_pos q]
            · rw [if_neg (fun r => q r.2), if_neg q]
          · show (if key (a * b + c) = (c : Int) ∧ (st (a * b + c) = 0 ∨ mxv key st d (a * b + c) (c : Int) < d (a * b + c)) then st (a * b + c) else mxp key st d (a * b + c) (c : Int)) = (if (a : Int) = 0 ∨ mxA (fun i => d (i * b + c)) a < d (a * b + c) then (a : Int) else mpA (fun i => d (i * b + c)) a)
            rw [k1, k2, i1, i2]
            by_cases q : (a : Int) = 0 ∨ mxA (fun i => d (i * b + c)) a < d (a * b + c)
            · rw [if_pos ⟨rfl, q⟩, if_pos q]
            · rw [if_neg (fun r => q r.2), if_neg q]
        · have hne : ¬ (key (a * b + c) = (j : Int)) := by rw [k1]; omega
          have e1 : mxv key st d (a * b + (c + 1)) (j : Int) = mxv key st d (a * b + c) (j : Int) := if_neg (fun r => hne r.1)
          have e2 : mxp key st d (a * b + (c + 1)) (j : Int) = mxp key st d (a * b + c) (j : Int) := if_neg (fun r => hne r.1)
          rw [e1, e2, i1, i2]
          by_cases q : j < c
          · rw [if_pos q, if_pos q, if_pos (by omega), if_pos (by omega)]; exact ⟨rfl, rfl⟩
          · rw [if_neg q, if_neg q, if_neg (by omega), if_neg (by omega)]; exact ⟨rfl, rfl⟩
    have := seg b (Nat.le_refl _)
    rw [if_pos hj, if_pos hj] at this
    rw [show (a + 1) * b = a * b + b by rw [Nat.add_mul, Nat.one_mul]]
    exact this
theorem mx_rows {key st d : Nat → Int} {a j : Nat} : ∀ b : Nat, (∀ i, i < b → ∀ k, k < a → key (i * a + k) = (i : Int) ∧ st (i * a + k) = (k : Int)) →
    (mxv key st d (b * a) (j : Int) = if j < b then mxA (fun i => d (j * a + i)) a else 0) ∧ (mxp key st d (b * a) (j : Int) = if j < b then mpA (fun i => d (j * a + i)) a else 0)
  | 0, _ => by rw [Nat.zero_mul]; exact ⟨rfl, rfl⟩
  | b + 1, h => by
    have ih := mx_rows (d := d) (j := j) b (fun i hi => h i (by omega))
    have seg : ∀ c, c ≤ a → (mxv key st d (b * a + c) (j : Int) = if j < b then mxA (fun i => d (j * a + i)) a else if j = b then mxA (fun i => d (j * a + i)) c else 0) ∧
        (mxp key st d (b * a + c) (j : Int) = if j < b then mpA (fun i => d (j * a + i)) a else if j = b then mpA (fun i => d (j * a + i)) c else 0) := by
      intro c
      induction c with
      | zero =>
        intro _
        rw [Nat.add_zero, ih.1, ih.2]
        by_cases q : j < b
        · rw [if_pos q, if_pos q, if_pos q, if_pos q]; exact ⟨rfl, rfl⟩
        · rw [if_neg q, if_neg q, if_neg q, if_neg q]
          by_cases e : j = b
          · rw [if_pos e, if_pos e]; exact ⟨rfl, rfl⟩
          · rw [if_neg e, if_neg e]; exact ⟨rfl, rfl⟩
      | succ c ihc =>
        intro hc
        obtain ⟨i1, i2⟩ := ihc (by omega)
        obtain ⟨k1, k2⟩ := h b (by omega) c (by omega)
        by_cases e : j = b
        · subst e
          rw [if_neg (Nat.lt_irrefl _), if_pos rfl] at i1 i2
          rw [if_neg (Nat.lt_irrefl _), if_pos rfl, if_neg (Nat.lt_irrefl _), if_pos rfl]
          constructor
          · show (if key (j * a + c) = (j : Int) ∧ (st (j * a + c) = 0 ∨ mxv key st d (j * a + c) (j : Int) < d (j * a + c)) then d (j * a + c) else mxv key st d (j * a + c) (j : Int)) = (if (c : Int) = 0 ∨ mxA (fun i => d (j * a + i)) c < d (j * a + c) then d (j * a + c) else mxA (fun i => d (j * a + i)) c)
            rw [k1, k2, i1]
            by_cases q : (c : Int) = 0 ∨ mxA (fun i => d (j * a + i)) c < d (j * a + c)
            · rw [if_pos ⟨rfl, q⟩, if_pos q]
            · rw [if_neg (fun r => q r.2), if_neg q]
          · show (if key (j * a + c) = (j : Int) ∧ (st (j * a + c) = 0 ∨ mxv key st d (j * a + c) (j : Int) < d (j * a + c)) then st (j * a + c) else mxp key st d (j * a + c) (j : Int)) = (if (c : Int) = 0 ∨ mxA (fun i => d (j * a + i)) c < d (j * a + c) then (c : Int) else mpA (fun i => d (j * a + i)) c)
            rw [k1, k2, i1, i2]
            by_cases q : (c : Int) = 0 ∨ mxA (fun i => d (j * a + i)) c < d (j * a + c)
            · rw [if_pos ⟨rfl, q⟩, if_pos q]
            · rw [if_neg (fun r => q r.2), if_neg q]
        · have hne : ¬ (key (b * a + c) = (j : Int)) := by rw [k1]; omega
          have e1 : mxv key st d (b * a + (c + 1)) (j : Int) = mxv key st d (b * a + c) (j : Int) := if_neg (fun r => hne r.1)
          have e2 : mxp key st d (b * a + (c + 1)) (j : Int) = mxp key st d (b * a + c) (j : Int) := if_neg (fun r => hne r.1)
          rw [if_neg e] at i1 i2
          rw [e1, e2, i1, i2, if_neg e, if_neg e]
          exact ⟨rfl, rfl⟩
    have := seg a (Nat.le_refl _)
    rw [show (b + 1) * a = b * a + a by rw [Nat.add_mul, Nat.one_mul], this.1, this.2]
    by_cases q : j < b
    · rw [if_pos q, if_pos q, if_pos (by omega), if_pos (by omega)]; exact ⟨rfl, rfl⟩
    · rw [if_neg q, if_neg q]
      by_cases e : j = b
      · rw [if_pos e, if_pos e, if_pos (by omega), if_pos (by omega)]; exact ⟨rfl, rfl⟩
      · rw [if_neg e, if_neg e, if_neg (by omega), if_neg (by omega)]; exact ⟨rfl, rfl⟩
theorem lf_tab (A B : Nat) : lf [(A : Int), (B : Int)] [0] 0 = [(B : Int)] ∧ lf [(B : Int), (A : Int)] [1] 0 = [(B : Int)] := by
  have h1 := lf_one [(A : Int), (B : Int)] 0 0 (Nat.le_refl _)
  have h2 := lf_one [(B : Int), (A : Int)] 1 0 (Nat.zero_le _)
  exact ⟨h1, h2⟩
/-- What the law says of a table, A by B. -/
theorem turned_num {A B : Nat} {ds : List Int} (ht : tnb [(A : Int), (B : Int)] ds = true) :
    (1 ≤ A ∧ 1 ≤ B ∧ ds.length = A * B ∧ A * B ≤ 65536) ∧ tnb [(B : Int), (A : Int)] (tds A B ds) = true ∧
    (∀ D, rde [(B : Int), (A : Int)] (tds A B ds) [1] D B = rde [(A : Int), (B : Int)] ds [0] D B ∧ rdv [(B : Int), (A : Int)] (tds A B ds) [1] D B = rdv [(A : Int), (B : Int)] ds [0] D B) ∧
    mxl [(B : Int), (A : Int)] (tds A B ds) 1 (tds A B ds).length B = mxl [(A : Int), (B : Int)] ds 0 ds.length B ∧ mpl [(B : Int), (A : Int)] (tds A B ds) 1 (tds A B ds).length B = mpl [(A : Int), (B : Int)] ds 0 ds.length B := by
  obtain ⟨hm, hdl, hw⟩ := tnb_parts ht
  have d1 := may_dim hm (i := 0) (by simp)
  have d2 := may_dim hm (i := 1) (by simp)
  have d1' : 1 ≤ (A : Int) ∧ (A : Int) ≤ 4096 := d1
  have d2' : 1 ≤ (B : Int) ∧ (B : Int) ≤ 4096 := d2
  have hp : prod [(A : Int), (B : Int)] = ((A * B : Nat) : Int) := by
    show (A : Int) * ((B : Int) * 1) = _
    rw [Int.mul_one]; push_cast; rfl
  have hp2 : prod [(B : Int), (A : Int)] = ((A * B : Nat) : Int) := by
    show (B : Int) * ((A : Int) * 1) = _
    rw [Int.mul_one, Int.mul_comm]; push_cast; rfl
  have hb := may_prod hm
  have hlen : ds.length = A * B := by omega
  have htl := tds_len A B ds
  have hm2 : may [(B : Int), (A : Int)] = true := (may_iff _).2 ⟨by simp, fun d hd => by
    simp only [List.mem_cons, List.not_mem_nil, or_false] at hd
    rcases hd with rfl | rfl
    · exact d2'
    · exact d1', by rw [hp2]; omega⟩
  have hget : ∀ i k, i < B → k < A → (tds A B ds).getD (i * A + k) 0 = ds.getD (k * B + i) 0 := fun i k hi hk => tds_get ds hi hk
  have hcomm : B * A = A * B := Nat.mul_comm _ _
  have hA1 : 1 ≤ A := by omega
  have hB1 : 1 ≤ B := by omega
  have hsm : ∀ m, m < B → sms [(B : Int), (A : Int)] [1] (tds A B ds) (tds A B ds).length m = sms [(A : Int), (B : Int)] [0] ds ds.length m := fun m hmB => by
    unfold sms
    rw [htl, hlen, smN_col hmB A (fun i hi k hk => (into_tab hA1 hB1 hi hk).1), smN_rows hmB (fun i hi k hk => (into_tab hB1 hA1 hi hk).2)]
    exact smA_same (fun k hk => hget m k hmB hk)
  refine ⟨⟨hA1, hB1, hlen, by omega⟩, ?_, fun D => ⟨?_, ?_⟩, ?_, ?_⟩
  · unfold tnb
    rw [hm2, htl, decide_eq_true (show ((B * A : Nat) : Int) = prod [(B : Int), (A : Int)] by rw [hp2, hcomm])]
    have : wds (tds A B ds) = true := wds_yes (fun n hn => by
      rw [htl] at hn
      have e : n = n / A * A + n % A := by rw [Nat.mul_comm]; exact (Nat.div_add_mod n A).symm
      have h1 : n / A < B := Nat.div_lt_of_lt_mul (by rw [Nat.mul_comm]; exact hn)
      have h2 : n % A < A := Nat.mod_lt _ (by omega)
      rw [e, hget _ _ h1 h2]
      exact wds_at hw (by rw [hlen]; exact row_lt h2 h1))
    rw [this]; rfl
  · exact fer_eq (fun m hmB => by unfold cer; rw [hsm m hmB])
  · exact vls_eq (fun m hmB => by unfold cva; rw [hsm m hmB])
  all_goals
    refine List.map_congr_left (fun m hmB => ?_)
    have hmB := List.mem_range.1 hmB
    have c1 := mx_col (key := into [(A : Int), (B : Int)] [((0 : Nat) : Int)]) (st := stx [(A : Int), (B : Int)] 0) (d := fun k => ds.getD k 0) hmB A (fun i hi k hk => ⟨(into_tab hA1 hB1 hi hk).1, by unfold stx; rw [atl_two hi hk]; rfl⟩)
    have c2 := mx_rows (key := into [(B : Int), (A : Int)] [((1 : Nat) : Int)]) (st := stx [(B : Int), (A : Int)] 1) (d := fun k => (tds A B ds).getD k 0) (j := m) (a := A) B (fun i hi k hk => ⟨(into_tab hB1 hA1 hi hk).2, by unfold stx; rw [atl_two hi hk]; rfl⟩)
    rw [if_pos hmB, if_pos hmB] at c2
    have c3 := mxA_same (d := fun i => (tds A B ds).getD (m * A + i) 0) (d' := fun i => ds.getD (i * B + m) 0) (n := A) (fun k hk => hget m k hmB hk)
    rw [htl, hlen]
    first
      | (rw [c1.1, c2.1]; exact c3.1)
      | (rw [c1.2, c2.2]; exact c3.2)
end Go.Proofs.Ytlfijpcpfepfbaa
