/-
  package reduce: sums, closed.
-/
import Derived.Test.YtmafgdinegboeaaGreatM11
import Derived.Test.YtmafgdinegboeaaGreatM12
import Derived.Test.YtmafgdinegboeaaGreatM19
namespace Go.Proofs.YtmafgdinegboeaaGreat
open Go Go.RowKit Go.Shelf

/-- A told tensor: its shape came in, its words are in new memory. -/
def SomeDt (w : World) (er : Int) (vs : Value) (ds : List Int) (e : Ending) (w' : World) : Prop := ∃ od cd, e = .returned (.tuple #[.agg #[if er = 0 then vs else .slice none 0 0, .slice od ds.length cd], .int .i64 er]) ∧ Hid (w'.ownsRow w.heap.size 2 1 (.slice od ds.length cd) ds.length (ints ds)) ∧ Below w.heap.size w w'
/-- What a sum over D is closed to, and its error. -/
def cva (f : Nat → Int) (D : Int) (k : Nat) : Int := tw (rd (f k) D)
def cer (f : Nat → Int) (D : Int) (k : Nat) : Int := te (rd (f k) D)
theorem rd_by1 (a : Int) : rd a 1 = a := by
  have := rd_whole a (d := 1) (by decide)
  rwa [Int.mul_one] at this
theorem rd_R {n d : Int} (h0 : -9223372036854775808 ≤ n) (h1 : n ≤ 9223372036854775807) (hd : d ≠ 0) : R (rd n d) := by
  have := rd_small (n := n) hd
  rw [R_iff]
  omega
theorem blkw {W : World} {b : Nat} {t : TypeId} {x y : Value} (h : Blk W b t #[x, y]) : W.cell? ⟨b, 0, none⟩ = some x ∧ W.cell? ⟨b, 1, none⟩ = some y := ⟨h.cell 0, h.cell 1⟩

set_option maxRecDepth 100000 in
set_option maxHeartbeats 8000000 in
theorem closed_any (vs : Value) (g : Nat) (f : Nat → Int) (M : Nat) (D : Int) (w : World) (hvs : ∃ o n c, vs = .slice o n c) (hb : Blk w g 121 (wcs f M)) (hM : M ≤ 65536) (hf : ∀ k, k < M → -9223372036854775808 ≤ f k ∧ f k ≤ 9223372036854775807) (h0 : 1 ≤ D) (h1 : D ≤ 65536) :
    Calls Tryz.prog 75 #[vs, .slice (some ⟨g, 0, none⟩) M M, .int .i64 D] w (SomeDt w (fer (cer f D) M) vs (unl (fer (cer f D) M) (vls (cva f D) M))) := by
  obtain ⟨i0, hi0, hz0, hz1, hz2⟩ := info_parts infoW
  obtain ⟨os, ns, cs, rfl⟩ := hvs
  obtain ⟨w2, hw2⟩ : ∃ w2, w2 = (w.alloc (.cells #[.slice none 0 0, .slice none 0 0] 26)).alloc (.cells #[.slice os ns cs, .slice none 0 0] 26) := ⟨_, rfl⟩
  have hsz : w2.heap.size = w.heap.size + 2 := by rw [hw2]; simp
  have B2 : Hid (Below w.heap.size w w2) := by rw [hw2]; exact ((Below.refl _ _).alloc (Nat.le_refl _) _).alloc (by simp) _
  have K0 : Hid (Blk w2 w.heap.size 26 #[.slice none 0 0, .slice none 0 0]) := by rw [hw2]; exact (Blk.new w _ _).alloc _
  have K1 : Hid (Blk w2 (w.heap.size + 1) 26 #[.slice os ns cs, .slice none 0 0]) := by rw [hw2]; exact blk_new1 w _ _ _
  have HB := Lib.hid hb
  have hgl := hb.lt
  have HF := Lib.hid hf
  have KFr := Lib.hid (fun (W : World) => from_any D W (by omega) (by omega))
  have KRd : Hid (∀ (W : World) (k : Nat), k < M → Calls Tryz.prog 69 #[Wv (f k), Wv D] W fun e w' => e = .returned (.tuple #[Wv (rd (f k) D), .int .i64 0]) ∧ Below W.heap.size W w') := Lib.hid (fun W k hk => by
    have hk2 := hf k hk
    have h := round_any (f k) D W (by rw [R_iff]; omega) (by rw [R_iff]; omega) (by omega)
    have hr := rd_R (d := D) hk2.1 hk2.2 (by omega)
    rwa [told_in hr, over_in hr] at h)
  have KCl : Hid (∀ (W : World) (k : Nat), k < M → Calls Tryz.prog 90 #[Wv (rd (f k) D), .int .i64 0] W fun e w' => e = .returned (.tuple #[.int .i64 (cva f D k), .int .i64 (cer f D k)]) ∧ Below W.heap.size W w') := Lib.hid (fun W k hk => by
    have hk2 := hf k hk
    have h := close_any (rd (f k) D) 0 W (rd_R hk2.1 hk2.2 (by omega)) (by decide)
    rwa [show rd (rd (f k) D) (2 ^ 0) = rd (f k) D from rd_by1 _] at h)
  obtain ⟨E, hE⟩ : ∃ E, E = fer (cer f D) M := ⟨_, rfl⟩
  rw [← hE]
  have HE := Lib.hid hE
  have HW := Lib.hid hw2
  clear hE hw2 hf hb
  go_enter Tryz.func75, Tryz.ntmps75
  go_wp2
  rw [← HW.out]
  obtain ⟨VL, hVL⟩ : ∃ VL, VL = vls (cva f D) M := ⟨_, rfl⟩
  have HVQ := Lib.hid hVL
  have HVL := Lib.hid (And.intro (show VL.length = M by rw [hVL, vls_len]) (show ∀ k, k < M → VL.take (k + 1) = VL.take k ++ [cva f D k] from fun k hk => by rw [hVL]; exact vls_snoc _ hk))
  clear hVL
  go_loopw [19] (fun s19 wr => ∃ (k : Nat) (us : Value), k ≤ M ∧ s19 = .int .i64 k ∧ Hid (∀ j, j < k → cer f D j = 0) ∧ Hid (Blk wr (w.heap.size + 1) 26 #[.slice os ns cs, us]) ∧ Hid (wr.ownsRow (w.heap.size + 2) 2 1 us k (ints (VL.take k))) ∧ Hid (Below (w.heap.size + 1) w2 wr) ∧ Hid (w.heap.size + 2 ≤ wr.heap.size)) (fun s19 _ => M - (intOf s19).toNat)
  case atStart => exact ⟨0, .slice none 0 0, Nat.zero_le _, rfl, Lib.hid (fun j hj => absurd hj (Nat.not_lt_zero _)), K1, Lib.hid (World.ownsRow_nil _ _ _ _), Lib.hid (Below.refl _ _), Lib.hid (Nat.le_of_eq hsz.symm)⟩
  case round =>
    obtain ⟨k, us, hk, rfl, HR, KT, KU, KB, KZ⟩ := hrel
    have hz := KZ.out
    have KBw := Lib.hid (B2.out.trans (KB.out.mono (Nat.le_succ _)))
    by_cases hlt : k < M
    · as_aux_lemma =>
      have hwc := wcs_at (f := f) hlt
      have hbr := HB.out.below KBw.out hgl
      have x0 : wr.cell? ⟨g, k * 2, none⟩ = some (.int .i64 (hi (f k))) := (hbr.cell _).trans hwc.1
      have x1 : wr.cell? ⟨g, k * 2 + 1, none⟩ = some (.int .u64 (lo (f k))) := (hbr.cell _).trans hwc.2
      have HLT := Lib.hid hlt
      clear hwc hbr
      go_upto_region 5 with fail
      obtain ⟨s, hs⟩ : ∃ s, s = f k := ⟨_, rfl⟩
      obtain ⟨q, hq⟩ : ∃ q, q = rd (f k) D := ⟨_, rfl⟩
      have KRk := Lib.hid (fun (W : World) => KRd.out W k hlt)
      have KCk := Lib.hid (fun (W : World) => KCl.out W k hlt)
      rw [← hq, ← hs] at KRk
      rw [← hq] at KCk
      rw [← hs]
      obtain ⟨wv, hwv⟩ : ∃ wv, wv = wr.alloc (.cells #[.int .i64 (hi s), .int .u64 (lo s)] 121) := ⟨_, rfl⟩
      have hb10 : Blk wv wr.heap.size 121 #[.int .i64 (hi s), .int .u64 (lo s)] := by rw [hwv]; exact Blk.new _ _ _
      have bv : Hid (Below wr.heap.size wr wv) := Lib.hid (by rw [hwv]; exact (Below.refl _ _).alloc (Nat.le_refl _) _)
      have KS : Hid (∀ W, Below wv.heap.size wv W → W.cell? ⟨wr.heap.size, 0, none⟩ = some (.int .i64 (hi s)) ∧ W.cell? ⟨wr.heap.size, 1, none⟩ = some (.int .u64 (lo s))) := Lib.hid (fun W hW => blkw (hb10.below hW hb10.lt))
      rw [← hwv]
      clear hwv hs hq x0 x1 hb10
      go_cut [11] (fun s11 wx => ∃ P : Nat, s11 = .pointer (some ⟨P, 0, none⟩) ∧ Hid (wv.heap.size ≤ P) ∧ Hid (Blk wx P 121 #[.int .i64 (hi q), .int .u64 (lo q)]) ∧ Hid (Below wv.heap.size wv wx))
      case first =>
        as_aux_lemma =>
        -- BEGIN drawn
        have B0 : Hid (Below wv.heap.size wv wv.drew) := Lib.hid (below_drw (Below.refl _ _) 1)
        refine wp_region_held_drew (S := fun W => W.cell? ⟨wr.heap.size, 0, none⟩ = some (.int .i64 (hi s)) ∧ W.cell? ⟨wr.heap.size, 1, none⟩ = some (.int .u64 (lo s))) (by kernel_rfl) ?_ (fun hHeld => ?_)
        · exact KS.out _ B0.out
        have hHd := hHeld
        generalize wv.drew = wd at *
        (refine wpAnyH_take (i := 0) (oi := ⟨some 24, _, _, _, _, _⟩) (v := ?v0_c1) rfl (by kernel_rfl) (by kernel_rfl) (by kernel_rfl) (fun _ _ _ h => h) (Or.inl ⟨by rfl, ?hy0_c1⟩) (by assumption) ?rest0_c1; (case hy0_c1 => ((intro w hSw); (try dsimp only at hSw); go_simp; first | done | (with_reducible rfl))))
        (try simp only [Act.put, List.setIfInBounds_toArray, List.set_cons_zero, List.set_cons_succ])
        (refine wpAnyH_take (i := 1) (oi := ⟨some 25, _, _, _, _, _⟩) (v := ?v1_c2) rfl (by kernel_rfl) (by kernel_rfl) (by kernel_rfl) (fun _ _ _ h => h) (Or.inl ⟨by rfl, ?hy1_c2⟩) (by assumption) ?rest1_c2; (case hy1_c2 => ((intro w hSw); (try dsimp only at hSw); go_simp; first | done | (with_reducible rfl))))
        (try simp only [Act.put, List.setIfInBounds_toArray, List.set_cons_zero, List.set_cons_succ])
        refine wpAnyH_ready (rs := [2, 7]) (by kernel_rfl) (by simp) ?_
        refine AllReadyH.cons (o := ⟨some 26, _, _, _, _, _⟩) rfl (fun K hK => ?_) (AllReadyH.cons (o := ⟨some 11, _, _, _, _, _⟩) rfl (fun K hK => ?_) (AllReadyH.nil))
        · go_simp
          (go_at_call 70; (with_reducible refine (KFr.out _).mono ?_); rintro e w11 ⟨rfl, hb⟩; have b11 := Lib.hid (B0.out.trans (hb.mono B0.out.size)); clear hb)
          refine hK.out _ _ ?_ (fun hHeld => ?_)
          · (try dsimp only)
            exact KS.out _ b11.out
          clear hK K
          (try simp only [Act.put, List.setIfInBounds_toArray, List.set_cons_zero, List.set_cons_succ])
          refine wpAnyH_ready (rs := [3, 7]) (by kernel_rfl) (by simp) ?_
          refine AllReadyH.cons (o := ⟨some 27, _, _, _, _, _⟩) rfl (fun K hK => ?_) (AllReadyH.cons (o := ⟨some 11, _, _, _, _, _⟩) rfl (fun K hK => ?_) (AllReadyH.nil))
          · go_simp
            (go_at_call 69; (with_reducible refine (KRk.out _).mono ?_); rintro e w12 ⟨rfl, hb⟩; have b12 := Lib.hid (b11.out.trans (hb.mono b11.out.size)); clear hb)
            refine hK.out _ _ ?_ (fun hHeld => ?_)
            · (try dsimp only)
              exact KS.out _ b12.out
            clear hK K
            (try simp only [Act.put, List.setIfInBounds_toArray, List.set_cons_zero, List.set_cons_succ])
            (refine wpAnyH_take (i := 4) (oi := ⟨some 23, _, _, _, _, _⟩) (v := ?v4_c3) rfl (by kernel_rfl) (by kernel_rfl) (by kernel_rfl) (fun _ _ _ h => h) (Or.inl ⟨by rfl, ?hy4_c3⟩) (by assumption) ?rest4_c3; (case hy4_c3 => ((intro w hSw); (try dsimp only at hSw); go_simp; first | done | (with_reducible rfl))))
            (try simp only [Act.put, List.setIfInBounds_toArray, List.set_cons_zero, List.set_cons_succ])
            (refine wpAnyH_take (i := 5) (oi := ⟨some 28, _, _, _, _, _⟩) (v := ?v5_c4) rfl (by kernel_rfl) (by kernel_rfl) (by kernel_rfl) (fun _ _ _ h => h) (Or.inl ⟨by rfl, ?hy5_c4⟩) (by assumption) ?rest5_c4; (case hy5_c4 => ((intro w hSw); (try dsimp only at hSw); go_simp; first | done | (with_reducible rfl))))
            (try simp only [Act.put, List.setIfInBounds_toArray, List.set_cons_zero, List.set_cons_succ])
            (refine wpAnyH_take (i := 6) (oi := ⟨some 29, _, _, _, _, _⟩) (v := ?v6_c5) rfl (by kernel_rfl) (by kernel_rfl) (by kernel_rfl) (fun _ _ _ h => h) (Or.inl ⟨by rfl, ?hy6_c5⟩) (by assumption) ?rest6_c5; (case hy6_c5 => ((intro w hSw); (try dsimp only at hSw); go_simp; first | done | (with_reducible rfl))))
            (try simp only [Act.put, List.setIfInBounds_toArray, List.set_cons_zero, List.set_cons_succ])
            refine wpAnyH_ready (rs := [7]) (by kernel_rfl) (by simp) ?_
            refine AllReadyH.cons (o := ⟨some 11, _, _, _, _, _⟩) rfl (fun K hK => ?_) (AllReadyH.nil)
            go_simp
            have bA := Lib.hid (b12.out.alloc b12.out.size (.cells #[.int .i64 0, .int .u64 0] 121))
            have ZA := Lib.hid (Blk.new w12 121 #[.int .i64 0, .int .u64 0])
            have ZP := Lib.hid (b12.out.size)
            refine hK.out _ _ ?_ (fun hHeld => ?_)
            · (try dsimp only)
              exact KS.out _ bA.out
            clear hK K
            (try simp only [Act.put, List.setIfInBounds_toArray, List.set_cons_zero, List.set_cons_succ])
            refine wpAnyH_ready (rs := [8]) (by kernel_rfl) (by simp) ?_
            refine AllReadyH.cons (o := ⟨none, _, _, _, _, _⟩) rfl (fun K hK => ?_) (AllReadyH.nil)
            obtain ⟨p0, p1⟩ := blkw ZA.out
            have pf0 := ZA.out.frozen 0
            have pf1 := ZA.out.frozen 1
            go_simp
            refine hK.out _ _ ?_ (fun hHeld => ?_)
            · (try dsimp only)
              exact KS.out _ (b12.out.alloc b12.out.size _)
            clear hK K
            (try simp only [Act.put, List.setIfInBounds_toArray, List.set_cons_zero, List.set_cons_succ])
            (refine wpAnyH_take (i := 9) (oi := ⟨some 12, _, _, _, _, _⟩) (v := ?v9_c6) rfl (by kernel_rfl) (by kernel_rfl) (by kernel_rfl) (fun _ _ _ h => h) (Or.inl ⟨by rfl, ?hy9_c6⟩) (by assumption) ?rest9_c6; (case hy9_c6 => ((intro w hSw); (try dsimp only at hSw); go_simp; first | done | (with_reducible rfl))))
            (try simp only [Act.put, List.setIfInBounds_toArray, List.set_cons_zero, List.set_cons_succ])
            refine wpAnyH_done (by kernel_rfl) ?_ _
            go_wp2
            go_meet
            exact ⟨_, rfl, ZP, Lib.hid (Blk.new w12 _ _), Lib.hid (b12.out.alloc b12.out.size _)⟩
          · go_simp
            have bA := Lib.hid (b11.out.alloc b11.out.size (.cells #[.int .i64 0, .int .u64 0] 121))
            have ZA := Lib.hid (Blk.new w11 121 #[.int .i64 0, .int .u64 0])
            have ZP := Lib.hid (b11.out.size)
            refine hK.out _ _ ?_ (fun hHeld => ?_)
            · (try dsimp only)
              exact KS.out _ bA.out
            clear hK K
            (try simp only [Act.put, List.setIfInBounds_toArray, List.set_cons_zero, List.set_cons_succ])
            refine wpAnyH_ready (rs := [3]) (by kernel_rfl) (by simp) ?_
            refine AllReadyH.cons (o := ⟨some 27, _, _, _, _, _⟩) rfl (fun K hK => ?_) (AllReadyH.nil)
            go_simp
            (go_at_call 69; (with_reducible refine (KRk.out _).mono ?_); rintro e w12 ⟨rfl, hb⟩; have b12 := Lib.hid (bA.out.trans (hb.mono bA.out.size)); have Z12 := Lib.hid (ZA.out.below hb ZA.out.lt); clear hb)
            refine hK.out _ _ ?_ (fun hHeld => ?_)
            · (try dsimp only)
              exact KS.out _ b12.out
            clear hK K
            (try simp only [Act.put, List.setIfInBounds_toArray, List.set_cons_zero, List.set_cons_succ])
            (refine wpAnyH_take (i := 4) (oi := ⟨some 23, _, _, _, _, _⟩) (v := ?v4_c7) rfl (by kernel_rfl) (by kernel_rfl) (by kernel_rfl) (fun _ _ _ h => h) (Or.inl ⟨by rfl, ?hy4_c7⟩) (by assumption) ?rest4_c7; (case hy4_c7 => ((intro w hSw); (try dsimp only at hSw); go_simp; first | done | (with_reducible rfl))))
            (try simp only [Act.put, List.setIfInBounds_toArray, List.set_cons_zero, List.set_cons_succ])
            (refine wpAnyH_take (i := 5) (oi := ⟨some 28, _, _, _, _, _⟩) (v := ?v5_c8) rfl (by kernel_rfl) (by kernel_rfl) (by kernel_rfl) (fun _ _ _ h => h) (Or.inl ⟨by rfl, ?hy5_c8⟩) (by assumption) ?rest5_c8; (case hy5_c8 => ((intro w hSw); (try dsimp only at hSw); go_simp; first | done | (with_reducible rfl))))
            (try simp only [Act.put, List.setIfInBounds_toArray, List.set_cons_zero, List.set_cons_succ])
            (refine wpAnyH_take (i := 6) (oi := ⟨some 29, _, _, _, _, _⟩) (v := ?v6_c9) rfl (by kernel_rfl) (by kernel_rfl) (by kernel_rfl) (fun _ _ _ h => h) (Or.inl ⟨by rfl, ?hy6_c9⟩) (by assumption) ?rest6_c9; (case hy6_c9 => ((intro w hSw); (try dsimp only at hSw); go_simp; first | done | (with_reducible rfl))))
            (try simp only [Act.put, List.setIfInBounds_toArray, List.set_cons_zero, List.set_cons_succ])
            refine wpAnyH_ready (rs := [8]) (by kernel_rfl) (by simp) ?_
            refine AllReadyH.cons (o := ⟨none, _, _, _, _, _⟩) rfl (fun K hK => ?_) (AllReadyH.nil)
            obtain ⟨p0, p1⟩ := blkw Z12.out
            have pf0 := Z12.out.frozen 0
            have pf1 := Z12.out.frozen 1
            go_simp
            refine hK.out _ _ ?_ (fun hHeld => ?_)
            · (try dsimp only)
              exact KS.out _ ((b12.out.setCell (p := ⟨_, 0, none⟩) ZP.out _).setCell (p := ⟨_, 1, none⟩) ZP.out _)
            clear hK K
            (try simp only [Act.put, List.setIfInBounds_toArray, List.set_cons_zero, List.set_cons_succ])
            (refine wpAnyH_take (i := 9) (oi := ⟨some 12, _, _, _, _, _⟩) (v := ?v9_c10) rfl (by kernel_rfl) (by kernel_rfl) (by kernel_rfl) (fun _ _ _ h => h) (Or.inl ⟨by rfl, ?hy9_c10⟩) (by assumption) ?rest9_c10; (case hy9_c10 => ((intro w hSw); (try dsimp only at hSw); go_simp; first | done | (with_reducible rfl))))
            (try simp only [Act.put, List.setIfInBounds_toArray, List.set_cons_zero, List.set_cons_succ])
            refine wpAnyH_done (by kernel_rfl) ?_ _
            go_wp2
            go_meet
            exact ⟨_, rfl, ZP, Lib.hid ((Z12.out.set_ 0 _).set_ 1 _), Lib.hid ((b12.out.setCell (p := ⟨_, 0, none⟩) ZP.out _).setCell (p := ⟨_, 1, none⟩) ZP.out _)⟩
        · go_simp
          have bA := Lib.hid (B0.out.alloc B0.out.size (.cells #[.int .i64 0, .int .u64 0] 121))
          have ZA := Lib.hid (Blk.new wd 121 #[.int .i64 0, .int .u64 0])
          have ZP := Lib.hid (B0.out.size)
          refine hK.out _ _ ?_ (fun hHeld => ?_)
          · (try dsimp only)
            exact KS.out _ bA.out
          clear hK K
          (try simp only [Act.put, List.setIfInBounds_toArray, List.set_cons_zero, List.set_cons_succ])
          refine wpAnyH_ready (rs := [2]) (by kernel_rfl) (by simp) ?_
          refine AllReadyH.cons (o := ⟨some 26, _, _, _, _, _⟩) rfl (fun K hK => ?_) (AllReadyH.nil)
          go_simp
          (go_at_call 70; (with_reducible refine (KFr.out _).mono ?_); rintro e w11 ⟨rfl, hb⟩; have b11 := Lib.hid (bA.out.trans (hb.mono bA.out.size)); have Z11 := Lib.hid (ZA.out.below hb ZA.out.lt); clear hb)
          refine hK.out _ _ ?_ (fun hHeld => ?_)
          · (try dsimp only)
            exact KS.out _ b11.out
          clear hK K
          (try simp only [Act.put, List.setIfInBounds_toArray, List.set_cons_zero, List.set_cons_succ])
          refine wpAnyH_ready (rs := [3]) (by kernel_rfl) (by simp) ?_
          refine AllReadyH.cons (o := ⟨some 27, _, _, _, _, _⟩) rfl (fun K hK => ?_) (AllReadyH.nil)
          go_simp
          (go_at_call 69; (with_reducible refine (KRk.out _).mono ?_); rintro e w12 ⟨rfl, hb⟩; have b12 := Lib.hid (b11.out.trans (hb.mono b11.out.size)); have Z12 := Lib.hid (Z11.out.below hb Z11.out.lt); clear hb)
          refine hK.out _ _ ?_ (fun hHeld => ?_)
          · (try dsimp only)
            exact KS.out _ b12.out
          clear hK K
          (try simp only [Act.put, List.setIfInBounds_toArray, List.set_cons_zero, List.set_cons_succ])
          (refine wpAnyH_take (i := 4) (oi := ⟨some 23, _, _, _, _, _⟩) (v := ?v4_c11) rfl (by kernel_rfl) (by kernel_rfl) (by kernel_rfl) (fun _ _ _ h => h) (Or.inl ⟨by rfl, ?hy4_c11⟩) (by assumption) ?rest4_c11; (case hy4_c11 => ((intro w hSw); (try dsimp only at hSw); go_simp; first | done | (with_reducible rfl))))
          (try simp only [Act.put, List.setIfInBounds_toArray, List.set_cons_zero, List.set_cons_succ])
          (refine wpAnyH_take (i := 5) (oi := ⟨some 28, _, _, _, _, _⟩) (v := ?v5_c12) rfl (by kernel_rfl) (by kernel_rfl) (by kernel_rfl) (fun _ _ _ h => h) (Or.inl ⟨by rfl, ?hy5_c12⟩) (by assumption) ?rest5_c12; (case hy5_c12 => ((intro w hSw); (try dsimp only at hSw); go_simp; first | done | (with_reducible rfl))))
          (try simp only [Act.put, List.setIfInBounds_toArray, List.set_cons_zero, List.set_cons_succ])
          (refine wpAnyH_take (i := 6) (oi := ⟨some 29, _, _, _, _, _⟩) (v := ?v6_c13) rfl (by kernel_rfl) (by kernel_rfl) (by kernel_rfl) (fun _ _ _ h => h) (Or.inl ⟨by rfl, ?hy6_c13⟩) (by assumption) ?rest6_c13; (case hy6_c13 => ((intro w hSw); (try dsimp only at hSw); go_simp; first | done | (with_reducible rfl))))
          (try simp only [Act.put, List.setIfInBounds_toArray, List.set_cons_zero, List.set_cons_succ])
          refine wpAnyH_ready (rs := [8]) (by kernel_rfl) (by simp) ?_
          refine AllReadyH.cons (o := ⟨none, _, _, _, _, _⟩) rfl (fun K hK => ?_) (AllReadyH.nil)
          obtain ⟨p0, p1⟩ := blkw Z12.out
          have pf0 := Z12.out.frozen 0
          have pf1 := Z12.out.frozen 1
          go_simp
          refine hK.out _ _ ?_ (fun hHeld => ?_)
          · (try dsimp only)
            exact KS.out _ ((b12.out.setCell (p := ⟨_, 0, none⟩) ZP.out _).setCell (p := ⟨_, 1, none⟩) ZP.out _)
          clear hK K
          (try simp only [Act.put, List.setIfInBounds_toArray, List.set_cons_zero, List.set_cons_succ])
          (refine wpAnyH_take (i := 9) (oi := ⟨some 12, _, _, _, _, _⟩) (v := ?v9_c14) rfl (by kernel_rfl) (by kernel_rfl) (by kernel_rfl) (fun _ _ _ h => h) (Or.inl ⟨by rfl, ?hy9_c14⟩) (by assumption) ?rest9_c14; (case hy9_c14 => ((intro w hSw); (try dsimp only at hSw); go_simp; first | done | (with_reducible rfl))))
          (try simp only [Act.put, List.setIfInBounds_toArray, List.set_cons_zero, List.set_cons_succ])
          refine wpAnyH_done (by kernel_rfl) ?_ _
          go_wp2
          go_meet
          exact ⟨_, rfl, ZP, Lib.hid ((Z12.out.set_ 0 _).set_ 1 _), Lib.hid ((b12.out.setCell (p := ⟨_, 0, none⟩) ZP.out _).setCell (p := ⟨_, 1, none⟩) ZP.out _)⟩
        -- END drawn
      case rest =>
        obtain ⟨P, rfl, hP, KP, KX⟩ := hcut
        obtain ⟨p0, p1⟩ := blkw KP.out
        have bx := Lib.hid (bv.out.trans (KX.out.mono bv.out.size))
        by_cases he : cer f D k = 0
        · as_aux_lemma =>
          have EA := Lib.hid (HVL.out.2 k hlt)
          have HR2 : Hid (∀ j, j < k + 1 → cer f D j = 0) := Lib.hid (fun j hj => by
            by_cases e : j = k
            · rw [e]; exact he
            · exact HR.out j (by omega))
          rw [he] at KCk
          clear he
          obtain ⟨y, hy⟩ : ∃ y, y = cva f D k := ⟨_, rfl⟩
          rw [← hy] at KCk EA
          clear hy
          go_wp2_with (first | (go_at_call 90; (with_reducible refine (KCk.out _).mono ?_); rintro e w13 ⟨rfl, hb⟩; have b13 := Lib.hid (bx.out.trans (hb.mono bx.out.size)); have T13 := Lib.hid (KT.out.below b13.out KT.out.lt); have U13 := Lib.hid (Below.keepOwn KU.out b13.out (Nat.le_refl _)); have s13 := Nat.le_trans hz b13.out.size; obtain ⟨t0, t1, tf0, tf1⟩ := blk2 T13.out; clear hb) | (at_builtin; refine wpList_append_own _ rfl _ _ 24 rfl (w.heap.size + 2) 2 i0 (.int .i64 0) 1 8 Tryz.underlying24 hi0 hz0 hz1 hz2 rfl (by decide) us k (ints (VL.take k)) rfl (U13.out.alloc _) ⟨w13.heap.size, 0, none⟩ 1 1 [.int .i64 y] rfl rfl ?c1 ?c2 ?c3 ?c4 ?c5 ?_))
          case c1 => exact (cell_one_new _ _ _)
          case c2 => simp [Value.oneCell']
          case c3 => unfold maxLen; omega
          case c4 => omega
          case c5 => simp; omega
          intro u9 w9 hown1 hgrow _
          obtain ⟨o9, c9, rfl⟩ := own_form1 hown1
          have KT9 := Lib.hid ((T13.out.alloc (.cells #[.int .i64 y] 2)).kept hgrow (fun e => by have := (U13.out.lt _ e.symm).1; omega))
          have B13 := KB.out.trans (b13.out.mono (by omega))
          have KB9 := Lib.hid ((B13.alloc (by omega) (.cells #[.int .i64 y] 2)).grown hgrow (by simp; omega) (fun j e => by have := (U13.out.lt j e).1; omega))
          have KU9 : Hid (w9.ownsRow (w.heap.size + 2) 2 1 (.slice o9 (k + 1) c9) (k + 1) (ints (VL.take k) ++ [.int .i64 y])) := Lib.hid hown1
          have KZ9 := Lib.hid (Nat.le_trans s13 (Nat.le_trans (Nat.le_succ _) (Nat.le_trans (Nat.le_of_eq (World.size_alloc _ _).symm) hgrow.size)))
          obtain ⟨q0, q1, qf0, qf1⟩ := blk2 KT9.out
          clear hown1 hgrow B13
          go_wp2
          refine ⟨⟨k + 1, .slice o9 (k + 1) c9, by omega, by go_num, HR2, Lib.hid (KT9.out.set_ 1 _), Lib.hid ?_, Lib.hid (KB9.out.setCell (p := ⟨w.heap.size + 1, 1, none⟩) (Nat.le_refl _) _), Lib.hid (by simpa using KZ9.out)⟩, by simp [intOf]; omega⟩
          rw [EA.out, ints_snoc]
          exact own_setx KU9.out KT9.out (by decide)
        · as_aux_lemma =>
          have he2 : (cer f D k != 0) = true := bne_iff_ne.2 he
          have HX : Hid (E = cer f D k) := Lib.hid (HE.out.trans (fer_first HR.out he M hlt))
          have HNE := Lib.hid he
          clear he
          have K00 := Lib.hid (K0.out.below KB.out (by omega))
          generalize cer f D k = er at *
          generalize cva f D k = y at *
          go_wp2_with (go_at_call 90; (with_reducible refine (KCk.out _).mono ?_); rintro e w13 ⟨rfl, hb⟩; have b13 := Lib.hid (bx.out.trans (hb.mono bx.out.size)); have T13 := Lib.hid (K00.out.below b13.out K00.out.lt); obtain ⟨t0, t1, tf0, tf1⟩ := blk2 T13.out; clear hb)
          refine bodyPost_ret (v := .tuple #[.agg #[.slice none 0 0, .slice none 0 0], .int .i64 er]) (by simp [results, Tryz.results75, go_sem, t0, t1]) rfl ?_
          rw [HX.out]
          refine ⟨none, 0, ?_, Lib.hid ?_, ((KBw.out.trans (b13.out.mono (by omega))).setCell (p := ⟨w.heap.size, 0, none⟩) (Nat.le_refl _) _).setCell (p := ⟨w.heap.size, 1, none⟩) (Nat.le_refl _) _⟩
          · rw [if_neg HNE.out]; unfold unl; rw [if_neg HNE.out]; rfl
          · unfold unl; rw [if_neg HNE.out]; exact World.ownsRow_nil _ _ _ _
    · as_aux_lemma =>
      obtain rfl : k = M := by omega
      have HX : Hid (E = 0) := Lib.hid (HE.out.trans (fer_no HR.out))
      obtain ⟨t0, t1, _⟩ := blk2 KT.out
      have K00 := Lib.hid (K0.out.below KB.out (by omega))
      obtain ⟨r0, r1, rf0, rf1⟩ := blk2 K00.out
      have hu := KU.out
      rw [List.take_of_length_le (Nat.le_of_eq HVL.out.1)] at hu
      obtain ⟨o5, c5, rfl⟩ := own_form1 hu
      have HU := Lib.hid hu
      have HLn := Lib.hid HVL.out.1
      clear hu hlt
      go_wp2
      refine bodyPost_ret (v := .tuple #[.agg #[.slice os ns cs, .slice o5 k c5], .int .i64 0]) (by simp [results, Tryz.results75, go_sem, r0, r1]) rfl ?_
      rw [HX.out]
      rw [← HVQ.out, show unl 0 VL = VL from if_pos rfl]
      refine ⟨o5, c5, by rw [if_pos rfl, HLn.out], Lib.hid ?_, ((KBw.out).setCell (p := ⟨w.heap.size, 0, none⟩) (Nat.le_refl _) _).setCell (p := ⟨w.heap.size, 1, none⟩) (Nat.le_refl _) _⟩
      rw [HLn.out]
      exact own_setx (own_setx (own_base HU.out (by omega)) K00.out (by decide)) (K00.out.set_ 0 _) (by decide)
end Go.Proofs.YtmafgdinegboeaaGreat
